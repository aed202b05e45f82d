/-
  Rows of integers that a call has made, and slices that read as integers; the document's Runes. Conditions: a text of at most 4096 bytes.
-/
import Derived.Test.YtegckpkancbnmaaDoorVa
namespace Go.Proofs.YtegckpkancbnmaaDoor
open Go.RowKit

theorem info3 : (Tryd.prog.info? 3).map (fun i => (i.zero, i.size, i.bytes)) = some (some (.int .i64 0), 1, 8) := by kernel_rfl

def up (L : List Nat) : List Int := List.map (fun c : Nat => (c : Int)) L
theorem up_length (L : List Nat) : (up L).length = L.length := by simp [up]
theorem up_get (L : List Nat) (k : Nat) (h : k < (up L).length) : (up L)[k] = ((L[k]'(by rwa [up_length] at h) : Nat) : Int) := by simp [up]
theorem up_append (L M : List Nat) : up (L ++ M) = up L ++ up M := by simp [up]

/-- A row of integers of the call's own. -/
def Row (E : TypeId) (k : IntKind) (B : Nat) (v : Value) (L : List Int) (w : World) : Prop := w.ownsRow B E 1 v L.length (L.map (Value.int k)) ∧ ∃ ao cv, v = .slice ao L.length cv
/-- A slice that reads as integers, in blocks below H. -/
def Rd (k : IntKind) (H : Nat) (v : Value) (L : List Int) (w : World) : Prop :=
  ∃ ao cv, v = .slice ao L.length cv ∧ L.length ≤ cv ∧ (0 < L.length → ∃ b o, ao = some ⟨b, o, none⟩ ∧ b < H ∧ ∀ j (h : j < L.length), w.cell? ⟨b, o + j, none⟩ = some (.int k L[j]))

theorem owns_below {w w' : World} {base : Nat} {e : TypeId} {size : Nat} {v : Value} {n : Nat} {xs : List Value} (h : w.ownsRow base e size v n xs) (hb : Below w.heap.size w w') : w'.ownsRow base e size v n xs := by
  refine ⟨h.1, ?_⟩
  rcases h.2 with hn | ⟨g, cap, cur, rfl, hb0, hgg, rest⟩
  · exact .inl hn
  · refine .inr ⟨g, cap, cur, rfl, hb0, ?_, rest⟩
    rw [hb.block g (Array.getElem?_eq_some_iff.1 hgg).1]
    exact hgg
theorem owns_mono {w : World} {B B' : Nat} {e : TypeId} {size : Nat} {v : Value} {n : Nat} {xs : List Value} (h : w.ownsRow B e size v n xs) (hb : B' ≤ B) : w.ownsRow B' e size v n xs := by
  refine ⟨h.1, ?_⟩
  rcases h.2 with hn | ⟨g, cap, cur, rfl, hb0, rest⟩
  · exact .inl hn
  · exact .inr ⟨g, cap, cur, rfl, by omega, rest⟩
theorem Row.later {E : TypeId} {k : IntKind} {b : Nat} {v : Value} {L : List Int} {w w' : World} (h : Row E k b v L w) (hb : Below w.heap.size w w') : Row E k b v L w' := ⟨owns_below h.1 hb, h.2⟩
theorem Row.nil (E : TypeId) (k : IntKind) (b : Nat) (w : World) : Row E k b (.slice none 0 0) [] w := ⟨World.ownsRow_nil _ _ _ _, none, 0, rfl⟩
theorem Row.mono {E : TypeId} {k : IntKind} {B B' : Nat} {v : Value} {L : List Int} {w : World} (h : Row E k B v L w) (hb : B' ≤ B) : Row E k B' v L w := ⟨owns_mono h.1 hb, h.2⟩
theorem add_zero_addr (g j : Nat) : ((⟨g, 0, none⟩ : Addr).add j) = ⟨g, j, none⟩ := by cases j <;> simp [Addr.add]
theorem Row.rd {E : TypeId} {k : IntKind} {B : Nat} {v : Value} {L : List Int} {w : World} (h : Row E k B v L w) : Rd k w.heap.size v L w := by
  obtain ⟨hown, ao, cv, rfl⟩ := h
  rcases hown.2 with ⟨h1, h0⟩ | ⟨g, cap, cur, h1, _, hg, hle, _⟩
  · injection h1 with h1 h2 h3
    exact ⟨ao, cv, rfl, by omega, fun hp => by omega⟩
  · injection h1 with h1 h2 h3
    subst h1
    subst h3
    refine ⟨_, _, rfl, hle, fun _ => ⟨g, 0, rfl, (Array.getElem?_eq_some_iff.1 hg).1, fun j hj => ?_⟩⟩
    have := hown.cells (g := g) rfl j (.int k L[j]) (by rw [List.getElem?_map, List.getElem?_eq_getElem hj]; rfl)
    rw [add_zero_addr] at this
    rw [Nat.zero_add]
    exact this
theorem Rd.later {k : IntKind} {H : Nat} {v : Value} {L : List Int} {w w' : World} (h : Rd k H v L w) (hb : Below H w w') : Rd k H v L w' := by
  obtain ⟨ao, cv, h1, h2, h3⟩ := h
  refine ⟨ao, cv, h1, h2, fun hp => ?_⟩
  obtain ⟨b, o, e, hlt, hc⟩ := h3 hp
  refine ⟨b, o, e, hlt, fun j hj => ?_⟩
  rw [hb.cell (p := ⟨b, o + j, none⟩) hlt]
  exact hc j hj
theorem Rd.mono {k : IntKind} {H H' : Nat} {v : Value} {L : List Int} {w : World} (h : Rd k H v L w) (hb : H ≤ H') : Rd k H' v L w := by
  obtain ⟨ao, cv, h1, h2, h3⟩ := h
  refine ⟨ao, cv, h1, h2, fun hp => ?_⟩
  obtain ⟨b, o, e, hlt, hc⟩ := h3 hp
  exact ⟨b, o, e, by omega, hc⟩

theorem row_form {E : TypeId} {k : IntKind} {b : Nat} {L : List Int} {x : Int} {w : World} {v : Value} (h : w.ownsRow b E 1 v (L.length + 1) (L.map (Value.int k) ++ [.int k x])) : ∃ ao cv, v = .slice ao (L.length + 1) cv := by
  rcases h.2 with ⟨_, h0⟩ | ⟨g, cap, _, hv, _⟩
  · omega
  · exact ⟨_, cap, hv⟩
theorem row_more {E : TypeId} {k : IntKind} {b : Nat} {L : List Int} {x : Int} {w : World} {v : Value} (h : w.ownsRow b E 1 v (L.length + 1) (L.map (Value.int k) ++ [.int k x])) : Row E k b v (L ++ [x]) w := by
  refine ⟨by rw [List.map_append, List.length_append]; exact h, ?_⟩
  rcases h.2 with ⟨_, h0⟩ | ⟨g, cap, _, hv, _⟩
  · omega
  · exact ⟨_, cap, by rw [hv, List.length_append]; rfl⟩
theorem cell_one_new (w : World) (x : Value) (T : TypeId) : ∀ j u, [x][j]? = some u → (w.alloc (.cells #[x] T)).cell? ((⟨w.heap.size, 0, none⟩ : Addr).add j) = some u := by
  intro j u hj
  match j, hj with
  | 0, hj =>
    simp at hj
    subst hj
    rw [add_zero_addr]
    simp [World.cell?_alloc_new]
  | j + 1, hj => simp at hj
def sliceLen : Value → Nat | .slice _ n _ => n | _ => 0

/-- A row of characters handed back. -/
def RowP (E : TypeId) (k : IntKind) (L : List Int) (w : World) (e : Ending) (w' : World) : Prop := ∃ v, e = .returned v ∧ Below w.heap.size w w' ∧ Row E k w.heap.size v L w'

theorem ens_drop_get (L : List Nat) (k : Nat) (h : k < L.length) : ens (L.drop k) = en L[k] ++ ens (L.drop (k + 1)) := by
  rw [List.drop_eq_getElem_cons h]
  rfl

set_option maxRecDepth 100000 in
set_option maxHeartbeats 1600000 in
theorem Runes_any (s : ByteArray) (L : List Nat) (hC : allC L) (hl : s.data.toList = ens L) (w : World) (hs : s.size ≤ 4096) :
    Calls Tryd.prog 30 #[.string s] w (RowP 3 .i64 (up L) w) := by
  obtain ⟨i0, hi, hz0, hz1, hz2⟩ := info_parts info3
  have HP : Hid (∀ v w', Below w.heap.size w w' → Row 3 .i64 w.heap.size v (up L) w' → RowP 3 .i64 (up L) w (.returned v) w') := fun v w' h1 h2 => ⟨v, rfl, h1, h2⟩
  have HLL : Hid (L.length ≤ 4096) := by
    have := (ens_length_le L).1
    rw [← hl, ← size_list] at this
    show _ ≤ _
    omega
  have HG : Hid (∀ k, (h : k < L.length) → ens (L.drop k) = en L[k] ++ ens (L.drop (k + 1))) := fun k h => ens_drop_get L k h
  have HU : Hid (∀ k, (h : k < L.length) → up (L.take (k + 1)) = up (L.take k) ++ [(L[k] : Int)]) := fun k h => by
    rw [take_succ_get L k h, up_append]
    rfl
  have HUL : Hid (∀ k, k ≤ L.length → (up (L.take k)).length = k) := fun k h => by
    rw [up_length, List.length_take]
    omega
  have HUE : Hid (∀ k, L.length ≤ k → up (L.take k) = up L ∧ ens (L.drop k) = []) := fun k h => by
    rw [List.take_of_length_le h, List.drop_eq_nil_of_le h]
    exact ⟨rfl, rfl⟩
  have HW : Hid (∀ k, (hk : k < L.length) → isC L[k] = true ∧ 1 ≤ (en L[k]).length ∧ (en L[k]).length ≤ 4) := fun k hk => ⟨hC _ (List.getElem_mem hk), en_length _⟩
  have H0 : Hid (s.data.toList = ens (L.drop 0)) := hl
  have H00 : Hid (up (L.take 0) = []) := rfl
  have HBR := Lib.hid (Below.refl w.heap.size w)
  clear hl hC
  generalize up L = U at *
  go_enter Tryd.func30, Tryd.ntmps30
  go_wp2
  go_loopw [0, 3] (fun sv v wr => ∃ (k : Nat) (t : ByteArray) (ao : Option Addr) (cv : Nat), k ≤ L.length ∧ sv = .string t ∧ t.size ≤ 4096 ∧ Hid (t.data.toList = ens (L.drop k)) ∧ v = .slice ao (up (L.take k)).length cv ∧ wr.ownsRow w.heap.size 3 1 v (up (L.take k)).length ((up (L.take k)).map (Value.int .i64)) ∧ Below w.heap.size w wr) (fun _ v _ => L.length - sliceLen v)
  case atStart => exact ⟨0, s, none, 0, Nat.zero_le _, rfl, hs, H0, rfl, World.ownsRow_nil _ _ _ _, HBR.out⟩
  case round =>
    obtain ⟨k, t, ao, cv, hk, rfl, hts, htl, rfl, hown, hnx⟩ := hrel
    have hsize := hnx.size
    have hul := HUL.out k hk
    have hll := HLL.out
    by_cases hlt : k < L.length
    · obtain ⟨hci, hw1, hw2⟩ := HW.out k hlt
      have HGk := Lib.hid (HG.out k hlt)
      have HUk := Lib.hid (HU.out k hlt)
      have HF : Hid (∀ w, Calls Tryd.prog 59 #[.string t] w (TwoP (L[k] : Nat) (en L[k]).length w)) := fun w => by
        have := first_any t w (by omega)
        rwa [htl.out, HGk.out, fst_en hci] at this
      have HN : Hid ((t.extract (en L[k]).length t.size).data.toList = ens (L.drop (k + 1))) := by
        show _ = _
        rw [extract_list, htl.out, HGk.out, List.drop_left]
      have hts2 : (t.extract (en L[k]).length t.size).size ≤ 4096 := Nat.le_trans (extract_le _ _) hts
      have hpos : (en L[k]).length ≤ t.size := by
        rw [size_list, htl.out, HGk.out, List.length_append]
        omega
      generalize L[k] = c at *
      generalize (en c).length = W at *
      have hp0 : 0 < t.size := by omega
      have hW0 : ((W : Int) == 0) = false := by rw [beq_eq_false_iff_ne]; omega
      generalize hA : up (L.take k) = A at *
      have HA := Lib.hid hA
      have HAL := Lib.hid hul
      have hAl : A.length ≤ 4096 := by omega
      clear hA hul hci
      go_wp2_with fail
      refine (HF.out _).mono ?_
      rintro e w' ⟨rfl, rfl⟩
      go_wp2_with (first
        | (at_builtin; refine wpList_append_own _ rfl _ _ 38 rfl w.heap.size 3 i0 (.int .i64 0) 1 8 Tryd.underlying38 hi hz0 hz1 hz2 rfl (by decide) _ _ _ rfl (hown.alloc _) ⟨wr.heap.size, 0, none⟩ 1 1 [.int .i64 (c : Int)] rfl rfl (cell_one_new _ _ _) (fun x hx => by simp at hx; subst hx; rfl) (by unfold maxLen; omega) (by omega) (by simp; omega) ?_; intro v' w3 hown' hgrow3 hnil3))
      have hb3 : Hid (Below w.heap.size w w3) := (hnx.alloc hsize _).grown hgrow3 (by simp; omega) (fun q hq => (hown.lt q hq).1)
      obtain ⟨ao2, cv2, rfl⟩ := row_form hown'
      have hown2 : w3.ownsRow w.heap.size 3 1 (.slice ao2 (A.length + 1) cv2) (A ++ [(c : Int)]).length ((A ++ [(c : Int)]).map (Value.int .i64)) := (row_more hown').1
      have HO2 := Lib.hid hown2
      have HL2 : Hid ((A ++ [(c : Int)]).length = A.length + 1) := by show _ = _; simp
      clear hown' hown hgrow3 hnil3 hown2 hnx hsize
      go_wp2
      go_roundw
      case rel =>
        refine ⟨k + 1, _, ao2, cv2, by omega, rfl, hts2, HN, ?_, ?_, hb3.out⟩
        · rw [HUk.out, HL2.out]
        · rw [HUk.out]
          exact HO2.out
      case measure => have := HAL.out; simp [sliceLen]; omega
    · obtain ⟨hue, hte⟩ := HUE.out k (by omega)
      have hz : t.size = 0 := by rw [size_list, htl.out, hte]; rfl
      have hp0 : ¬ 0 < t.size := by omega
      have HR : Hid (Row 3 .i64 w.heap.size (.slice ao (up (L.take k)).length cv) U wr) := by
        show Row _ _ _ _ _ _
        rw [← hue]
        exact ⟨hown, ao, cv, rfl⟩
      have HB := Lib.hid hnx
      clear hz hue hte hown hnx hsize hul
      generalize (up (L.take k)).length = n at *
      go_wp2
      go_ret
      exact HP.out _ _ HB.out HR.out

end Go.Proofs.YtegckpkancbnmaaDoor
