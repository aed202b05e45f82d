/-
  The characters of a text and the text of characters: chars.Points, chars.Text and the document's. Conditions: lists of at most 20000 numbers.
-/
import Derived.Test.YtdjpjknbbedamaaWt
namespace Go.Proofs.Ytdjpjknbbedamaa
open Go.RowKit

/-! ### an iterator over a text -/
def It (bi : Nat) (s : ByteArray) (L : List Nat) (k : Nat) (w : World) : Prop := w.heap[bi]? = some (.stringIter s (ens (L.take k)).length)
theorem It.next {bi : Nat} {s : ByteArray} {L : List Nat} {k : Nat} {w : World} (h : It bi s L k w) (hC : allC L) (hl : s.data.toList = ens L) (hk : k < L.length) (ty : TypeId) :
    (Instr.next (.pointer (some ⟨bi, 0, none⟩)) true ty).run Try.prog w = .ok (.tuple #[.bool true, .int .i64 (ens (L.take k)).length, .int .i32 (L[k] : Nat)]) (w.iterAt bi s (ens (L.take (k + 1))).length) := by
  have hP : Parts s.data.toList L [] := ⟨hC, by rw [hl, List.append_nil], .inl rfl⟩
  rw [Lib.run_next_any_at w bi s _ ty h (take_size hP k hk), dec_at hP k hk, ens_step L k hk]
theorem It.step {bi : Nat} {s : ByteArray} {L : List Nat} {k : Nat} {w : World} (h : It bi s L k w) : It bi s L (k + 1) (w.iterAt bi s (ens (L.take (k + 1))).length) :=
  Lib.iterAt_heap w bi s _ _ h
theorem It.done {bi : Nat} {s : ByteArray} {L : List Nat} {k : Nat} {w : World} (h : It bi s L k w) (hl : s.data.toList = ens L) (hk : L.length ≤ k) (ty : TypeId) :
    (Instr.next (.pointer (some ⟨bi, 0, none⟩)) true ty).run Try.prog w = .ok (.tuple #[.bool false]) w := by
  refine Lib.run_next_end_at w bi s _ ty h ?_
  rw [ens_take_all L k hk, size_list, hl]
  omega
theorem It.start (w : World) (s : ByteArray) (L : List Nat) : It w.heap.size s L 0 (w.iter s 0) := World.iter_heap w s 0
theorem own_iterAt {w : World} {B : Nat} {e : TypeId} {size n : Nat} {v : Value} {xs : List Value} {k : Nat} {s : ByteArray} {pos : Nat} (h : w.ownsRow B e size v n xs) (hk : w.heap[k]? = some (.stringIter s pos)) (pos' : Nat) : (w.iterAt k s pos').ownsRow B e size v n xs := by
  refine ⟨h.1, ?_⟩
  rcases h.2 with hn | ⟨g, cap, cur, rfl, hb0, hgg, rest⟩
  · exact .inl hn
  · refine .inr ⟨g, cap, cur, rfl, hb0, ?_, rest⟩
    rw [Lib.iterAt_other w k g s pos' (by rintro rfl; rw [hk] at hgg; cases hgg)]
    exact hgg
theorem own_ne_iter {w : World} {B : Nat} {e : TypeId} {size n : Nat} {v : Value} {xs : List Value} {k : Nat} {s : ByteArray} {pos : Nat} (h : w.ownsRow B e size v n xs) (hk : w.heap[k]? = some (.stringIter s pos)) : some k ≠ v.ownBlock := by
  rcases h.2 with ⟨rfl, _⟩ | ⟨g, cap, cur, rfl, _, hgg, _⟩
  · simp [Value.ownBlock]
  · intro e1
    simp only [Value.ownBlock, Option.some.injEq] at e1
    subst e1
    rw [hk] at hgg
    cases hgg
theorem It.grown {bi : Nat} {s : ByteArray} {L : List Nat} {k : Nat} {w w' : World} {row : Option Nat} (h : It bi s L k w) (hg : w.grownBy w' row) (hne : some bi ≠ row) : It bi s L k w' := by
  show w'.heap[bi]? = _
  rw [hg.block bi (Array.getElem?_eq_some_iff.1 h).1 hne]
  exact h
theorem It.alloc {bi : Nat} {s : ByteArray} {L : List Nat} {k : Nat} {w : World} (h : It bi s L k w) (o : Obj) : It bi s L k (w.alloc o) := by
  show (w.alloc o).heap[bi]? = _
  rw [Lib.alloc_old w o bi (Array.getElem?_eq_some_iff.1 h).1]
  exact h

/-! ### what is wrong with one or two texts -/
theorem below_of_alloc {w w2 : World} {o : Obj} (h : Below (w.alloc o).heap.size (w.alloc o) w2) : Below w.heap.size w w2 :=
  ((Below.refl _ _).alloc (Nat.le_refl _) _).trans (h.mono (by simp))
theorem check1_any (s : ByteArray) (w : World) : Calls Try.prog 45 #[.slice (some ⟨w.heap.size, 0, none⟩) 1 1] (w.alloc (.cells #[.string s] 9)) (ErrP (ckE s) w) := by
  refine (check_any [s] w.heap.size (w.alloc (.cells #[.string s] 9)) (by simp) (fun k t h => ?_) (by simp)).mono ?_
  · rw [World.cell?_alloc_new]
    match k, h with
    | 0, h => simp at h; subst h; rfl
    | k + 1, h => simp at h
  · rintro e w' ⟨rfl, hb⟩
    refine ⟨?_, below_of_alloc hb⟩
    simp only [ckEs]
    split
    · rename_i h; rw [h]
    · rfl
def ck2 (a b : Int) : Int := if a = 0 then b else a
theorem check2_any (s t : ByteArray) (w : World) : Calls Try.prog 45 #[.slice (some ⟨w.heap.size, 0, none⟩) 2 2] (w.alloc (.cells #[.string s, .string t] 9)) (ErrP (ck2 (ckE s) (ckE t)) w) := by
  refine (check_any [s, t] w.heap.size (w.alloc (.cells #[.string s, .string t] 9)) (by simp) (fun k u h => ?_) (by simp)).mono ?_
  · rw [World.cell?_alloc_new]
    match k, h with
    | 0, h => simp at h; subst h; rfl
    | 1, h => simp at h; subst h; rfl
    | k + 2, h => simp at h
  · rintro e w' ⟨rfl, hb⟩
    refine ⟨?_, below_of_alloc hb⟩
    simp only [ckEs, ck2]
    split
    · split
      · rename_i h; rw [h]
      · rfl
    · rfl
theorem ckE_ok {s : ByteArray} {L : List Nat} (hs : s.size ≤ 4096) (hC : allC L) (hl : s.data.toList = ens L) : ckE s = 0 := by
  have hP : Parts s.data.toList L [] := ⟨hC, by rw [hl, List.append_nil], .inl rfl⟩
  unfold ckE
  rw [if_neg (by omega), vld_parts hP]
  rfl
theorem ckE_cases (s : ByteArray) : (ckE s = 0 ∧ s.size ≤ 4096 ∧ ∃ L, allC L ∧ s.data.toList = ens L) ∨ (ckE s ≠ 0 ∧ (ckE s = 3 ∨ ckE s = 2)) := by
  obtain ⟨L, r, hP⟩ := parts_of s.data.toList
  unfold ckE
  rw [vld_parts hP]
  by_cases h : 4096 < s.size
  · right
    rw [if_pos h]
    exact ⟨by decide, .inl rfl⟩
  · rw [if_neg h]
    cases r with
    | nil =>
      left
      exact ⟨rfl, by omega, L, hP.1, by rw [hP.2.1, List.append_nil]⟩
    | cons c r =>
      right
      exact ⟨by simp, .inr (by simp)⟩

/-- A row and an error. -/
def RowE (E : TypeId) (k : IntKind) (L : List Int) (x : Int) (w : World) (e : Ending) (w' : World) : Prop := ∃ v, e = .returned (.tuple #[v, .int .i64 x]) ∧ Below w.heap.size w w' ∧ Row E k w.heap.size v L w'

theorem rPoints_bad (s : ByteArray) (hb : ckE s ≠ 0) (w : World) : Calls Try.prog 15 #[.string s] w (RowE 3 .i64 [] (ckE s) w) := by
  have HK := Lib.hid (fun w => Checked_any s w)
  have hn : (ckE s != 0) = true := by simpa using hb
  have HP : Hid (∀ w, RowE 3 .i64 [] (ckE s) w (.returned (.tuple #[.slice none 0 0, .int .i64 (ckE s)])) w) := fun w => ⟨_, rfl, Below.refl _ _, Row.nil _ _ _ _⟩
  clear hb
  generalize ckE s = x at *
  go_enter Try.func15, Try.ntmps15
  go_wp2_with fail
  refine (HK.out _).mono ?_
  rintro e w' ⟨rfl, rfl⟩
  go_wp2
  go_ret2
  exact HP.out _
theorem rPoints_ok (s : ByteArray) (L : List Nat) (hC : allC L) (hl : s.data.toList = ens L) (hs : s.size ≤ 4096) (w : World) : Calls Try.prog 15 #[.string s] w (RowE 3 .i64 (up L) 0 w) := by
  have HK : Hid (∀ w, Calls Try.prog 46 #[.string s] w (ErrS 0 w)) := fun w => by
    have := Checked_any s w
    rwa [ckE_ok hs hC hl] at this
  have HR := Lib.hid (fun w => Runes_any s L hC hl w hs)
  have HP : Hid (∀ w w' v, Below w.heap.size w w' → Row 3 .i64 w.heap.size v (up L) w' → RowE 3 .i64 (up L) 0 w (.returned (.tuple #[v, .int .i64 0])) w') := fun w w' v h1 h2 => ⟨_, rfl, h1, h2⟩
  clear hC hl
  generalize up L = U at *
  go_enter Try.func15, Try.ntmps15
  go_wp2_with fail
  refine (HK.out _).mono ?_
  rintro e w' ⟨rfl, rfl⟩
  go_wp2_with fail
  refine (HR.out _).mono ?_
  rintro e w' ⟨v, rfl, hb, hr⟩
  have HB := Lib.hid hb
  have HRW := Lib.hid hr
  clear hb hr
  go_wp2
  go_ret2
  exact HP.out _ _ _ HB.out HRW.out

theorem Points_bad (s : ByteArray) (hb : ckE s ≠ 0) (w : World) : Calls Try.prog 14 #[.string s] w (RowE 3 .i64 [] (ckE s) w) := by
  have HK := Lib.hid (fun w => check1_any s w)
  have hn : (ckE s != 0) = true := by simpa using hb
  have HP : Hid (∀ w w', Below w.heap.size w w' → RowE 3 .i64 [] (ckE s) w (.returned (.tuple #[.slice none 0 0, .int .i64 (ckE s)])) w') := fun w w' h => ⟨_, rfl, h, Row.nil _ _ _ _⟩
  clear hb
  generalize ckE s = x at *
  go_enter Try.func14, Try.ntmps14
  go_wp2_with fail
  refine (HK.out _).mono ?_
  rintro e w' ⟨rfl, hb⟩
  have HB := Lib.hid hb
  clear hb
  go_wp2
  go_ret2
  exact HP.out _ _ HB.out

set_option maxRecDepth 100000 in
set_option maxHeartbeats 1600000 in
theorem Points_ok (s : ByteArray) (L : List Nat) (hC : allC L) (hl : s.data.toList = ens L) (hs : s.size ≤ 4096) (w : World) : Calls Try.prog 14 #[.string s] w (RowE 3 .i64 (up L) 0 w) := by
  obtain ⟨i0, hi, hz0, hz1, hz2⟩ := info_parts info3
  have HK : Hid (∀ w, Calls Try.prog 45 #[.slice (some ⟨w.heap.size, 0, none⟩) 1 1] (w.alloc (.cells #[.string s] 9)) (ErrP 0 w)) := fun w => by
    have := check1_any s w
    rwa [ckE_ok hs hC hl] at this
  have HLL : Hid (L.length ≤ 4096) := by
    have := (ens_length_le L).1
    rw [← hl, ← size_list] at this
    show _ ≤ _
    omega
  have HP : Hid (∀ w' v, Below w.heap.size w w' → Row 3 .i64 w.heap.size v (up L) w' → RowE 3 .i64 (up L) 0 w (.returned (.tuple #[v, .int .i64 0])) w') := fun w' v h1 h2 => ⟨_, rfl, h1, h2⟩
  have HU : Hid (∀ k, (h : k < L.length) → up (L.take (k + 1)) = up (L.take k) ++ [(L[k] : Int)]) := fun k h => by
    rw [take_succ_get L k h, up_append]
    rfl
  have HUL : Hid (∀ k, k ≤ L.length → (up (L.take k)).length = k) := fun k h => by
    rw [up_length, List.length_take]
    omega
  have HUE : Hid (∀ k, L.length ≤ k → up (L.take k) = up L) := fun k h => by
    rw [List.take_of_length_le h]
  have HNX : Hid (∀ bi k w, It bi s L k w → (hk : k < L.length) → ∀ ty, (Instr.next (.pointer (some ⟨bi, 0, none⟩)) true ty).run Try.prog w = .ok (.tuple #[.bool true, .int .i64 (ens (L.take k)).length, .int .i32 (L[k] : Nat)]) (w.iterAt bi s (ens (L.take (k + 1))).length)) := fun bi k w h hk ty => h.next hC hl hk ty
  have HND : Hid (∀ bi k w, It bi s L k w → L.length ≤ k → ∀ ty, (Instr.next (.pointer (some ⟨bi, 0, none⟩)) true ty).run Try.prog w = .ok (.tuple #[.bool false]) w) := fun bi k w h hk ty => h.done hl hk ty
  have HCB : Hid (∀ k, (h : k < L.length) → (L[k] : Nat) ≤ 1114111) := fun k h => by
    have := isC_iff.1 (hC _ (List.getElem_mem h))
    show _ ≤ _
    omega
  clear hC hl
  generalize up L = U at *
  go_enter Try.func14, Try.ntmps14
  go_wp2_with fail
  refine (HK.out _).mono ?_
  rintro e w1 ⟨rfl, hb1⟩
  have HB1 := Lib.hid hb1
  clear hb1
  go_wp2_with fail
  have HI0 := Lib.hid (It.start w1 s L)
  have HB2 : Hid (Below w.heap.size w (w1.iter s 0)) := HB1.out.alloc HB1.out.size _
  have HBI : Hid (w.heap.size ≤ w1.heap.size) := HB1.out.size
  generalize hbi : w1.heap.size = bi at *
  generalize w1.iter s 0 = w2 at *
  go_loopw [5] (fun v wr => ∃ (k : Nat) (ao : Option Addr) (cv : Nat), k ≤ L.length ∧ v = .slice ao (up (L.take k)).length cv ∧ wr.ownsRow w.heap.size 3 1 v (up (L.take k)).length ((up (L.take k)).map (Value.int .i64)) ∧ Below w.heap.size w wr ∧ Hid (It bi s L k wr)) (fun v _ => L.length - sliceLen v)
  case atStart => exact ⟨0, none, 0, Nat.zero_le _, rfl, World.ownsRow_nil _ _ _ _, HB2.out, HI0⟩
  case round =>
    obtain ⟨k, ao, cv, hk, rfl, hown, hnx, hit⟩ := hrel
    have hul := HUL.out k hk
    have hll := HLL.out
    by_cases hlt : k < L.length
    · have hnext := HNX.out bi k wr hit.out hlt
      have HUk := Lib.hid (HU.out k hlt)
      have hcb := HCB.out k hlt
      have HIT2 : Hid (It bi s L (k + 1) (wr.iterAt bi s (ens (L.take (k + 1))).length)) := hit.out.step
      have hown1 : (wr.iterAt bi s (ens (L.take (k + 1))).length).ownsRow w.heap.size 3 1 (.slice ao (up (L.take k)).length cv) (up (L.take k)).length ((up (L.take k)).map (Value.int .i64)) := own_iterAt hown hit.out _
      have HB3 : Hid (Below w.heap.size w (wr.iterAt bi s (ens (L.take (k + 1))).length)) := Lib.below_iterAt hnx HBI.out _ _
      have hsize1 : w.heap.size ≤ (wr.iterAt bi s (ens (L.take (k + 1))).length).heap.size := HB3.out.size
      generalize wr.iterAt bi s (ens (L.take (k + 1))).length = wq at *
      generalize (ens (L.take k)).length = pos at *
      generalize L[k] = c at *
      generalize hA : up (L.take k) = A at *
      have HA := Lib.hid hA
      have HAL := Lib.hid hul
      have hAl : A.length ≤ 4096 := by omega
      clear hA hul hown hnx
      go_wp2_with (first
        | (at_builtin; refine wpList_append_own _ rfl _ _ 25 rfl w.heap.size 3 i0 (.int .i64 0) 1 8 Try.underlying25 hi hz0 hz1 hz2 rfl (by decide) _ _ _ rfl (hown1.alloc _) ⟨wq.heap.size, 0, none⟩ 1 1 [.int .i64 (c : Int)] rfl rfl (cell_one_new _ _ _) (fun x hx => by simp at hx; subst hx; rfl) (by unfold maxLen; omega) (by omega) (by simp; omega) ?_; intro v' w3 hown' hgrow3 hnil3))
      have hb3 : Hid (Below w.heap.size w w3) := (HB3.out.alloc hsize1 _).grown hgrow3 (by simp; omega) (fun q hq => (hown1.lt q hq).1)
      have HIT3 : Hid (It bi s L (k + 1) w3) := (HIT2.out.alloc _).grown hgrow3 (own_ne_iter hown1 HIT2.out)
      obtain ⟨ao2, cv2, rfl⟩ := row_form hown'
      have hown2 : w3.ownsRow w.heap.size 3 1 (.slice ao2 (A.length + 1) cv2) (A ++ [(c : Int)]).length ((A ++ [(c : Int)]).map (Value.int .i64)) := (row_more hown').1
      have HO2 := Lib.hid hown2
      have HL2 : Hid ((A ++ [(c : Int)]).length = A.length + 1) := by show _ = _; simp
      clear hown' hown1 hgrow3 hnil3 hown2 hnext
      go_wp2
      go_roundw
      case rel =>
        refine ⟨k + 1, ao2, cv2, by omega, ?_, ?_, hb3.out, HIT3⟩
        · rw [HUk.out, HL2.out]
        · rw [HUk.out]
          exact HO2.out
      case measure => have := HAL.out; simp [sliceLen]; omega
    · have hnext := HND.out bi k wr hit.out (by omega)
      have hue := HUE.out k (by omega)
      have HR : Hid (Row 3 .i64 w.heap.size (.slice ao (up (L.take k)).length cv) U wr) := by
        show Row _ _ _ _ _ _
        rw [← hue]
        exact ⟨hown, ao, cv, rfl⟩
      have HB := Lib.hid hnx
      clear hue hown hnx hul
      generalize (up (L.take k)).length = n at *
      go_wp2
      go_ret2
      exact HP.out _ _ HB.out HR.out

end Go.Proofs.Ytdjpjknbbedamaa
