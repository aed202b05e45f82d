/-
  Where a text stands in another one: chars.places, Index and Last, and the document's. No condition beside the texts' own limit.
-/
import Derived.Test.YtdjpjknbbedamaaSubs
import Derived.Test.YtdjpjknbbedamaaRx
namespace Go.Proofs.Ytdjpjknbbedamaa
open Go.RowKit

/-- Whether T stands at place k of L. -/
def stB (L T : List Nat) (k : Nat) : Bool := T.isPrefixOf (L.drop k)
/-- The first n places at which T stands. -/
def plc (L T : List Nat) (n : Nat) : List Nat := (List.range n).filter (stB L T)
theorem plc_succ (L T : List Nat) (n : Nat) : plc L T (n + 1) = plc L T n ++ (if stB L T n then [n] else []) := by
  unfold plc
  rw [List.range_succ, List.filter_append]
  congr 1
  simp [List.filter_cons]
theorem plc_len (L T : List Nat) (n : Nat) : (plc L T n).length ≤ n := by
  have := List.length_filter_le (stB L T) (List.range n)
  simpa [plc] using this
theorem mem_plc {L T : List Nat} {n k : Nat} : k ∈ plc L T n ↔ k < n ∧ stB L T k = true := by
  simp [plc]
theorem plc_sorted (L T : List Nat) (n : Nat) : (plc L T n).Pairwise (· < ·) := by
  unfold plc
  exact List.Pairwise.filter _ List.pairwise_lt_range

theorem prefix_ens : ∀ {T M : List Nat}, allC T → allC M → (ens T <+: ens M ↔ T <+: M)
  | [], M, _, _ => by simp [ens]
  | c :: T, [], hT, _ => by
    constructor
    · rintro ⟨q, hq⟩
      have h1 := en_length c
      have h2 := congrArg List.length hq
      simp only [ens, List.length_append, List.length_nil] at h2
      omega
    · rintro ⟨q, hq⟩
      simp at hq
  | c :: T, d :: M, hT, hM => by
    have hc := hT c (by simp)
    have hd := hM d (by simp)
    have ih := prefix_ens (T := T) (M := M) (fun x hx => hT x (by simp [hx])) (fun x hx => hM x (by simp [hx]))
    constructor
    · rintro ⟨q, hq⟩
      have h' : en c ++ (ens T ++ q) = en d ++ ens M := by simpa [ens] using hq
      have e := decode_en hc (ens T ++ q)
      rw [h', decode_en hd] at e
      have e1 : d = c := congrArg Prod.fst e
      subst e1
      have h2 := List.append_cancel_left h'
      obtain ⟨q2, h3⟩ := ih.1 ⟨q, h2⟩
      exact ⟨q2, by rw [← h3]; rfl⟩
    · rintro ⟨q, hq⟩
      simp only [List.cons_append, List.cons.injEq] at hq
      obtain ⟨rfl, hq⟩ := hq
      obtain ⟨q2, h3⟩ := ih.2 ⟨q, hq⟩
      exact ⟨q2, by simp only [ens, List.append_assoc]; rw [h3]⟩
theorem hasPrefix_at {s : ByteArray} {L T : List Nat} (hC : allC L) (hT : allC T) (hl : s.data.toList = ens L) (k : Nat) : Lib.hasPrefix (s.extract (ens (L.take k)).length s.size).data.toList (ens T) = stB L T k := by
  have h := ens_drop L [] k
  rw [List.append_nil, List.append_nil] at h
  rw [extract_list, hl, h, Bool.eq_iff_iff]
  unfold Lib.hasPrefix stB
  rw [List.isPrefixOf_iff_prefix, List.isPrefixOf_iff_prefix]
  exact prefix_ens hT (allC_drop hC k)
theorem stB_end {L T : List Nat} (h : T ≠ []) : stB L T L.length = false := by
  unfold stB
  rw [List.drop_length]
  cases T with
  | nil => exact absurd rfl h
  | cons c T => rfl
theorem stB_nil (L : List Nat) (k : Nat) : stB L [] k = true := rfl

/-- The places of a text in another one. -/
def plcA (L T : List Nat) : List Nat := plc L T (L.length + 1)

set_option maxRecDepth 100000 in
set_option maxHeartbeats 4000000 in
theorem places_any (s t : ByteArray) (L T : List Nat) (hC : allC L) (hT : allC T) (hl : s.data.toList = ens L) (ht : t.data.toList = ens T) (hs : s.size ≤ 4096) (w : World) :
    Calls Try.prog 68 #[.string s, .string t] w (RowP 3 .i64 (up (plcA L T)) w) := by
  obtain ⟨i0, hi, hz0, hz1, hz2⟩ := info_parts info3
  have hLs := ens_len_of hl hs
  have HP : Hid (∀ w' v, Below w.heap.size w w' → Row 3 .i64 w.heap.size v (up (plcA L T)) w' → RowP 3 .i64 (up (plcA L T)) w (.returned v) w') := fun w' v h1 h2 => ⟨v, rfl, h1, h2⟩
  have HNX : Hid (∀ bi k w, It bi s L k w → (hk : k < L.length) → ∀ ty, (Instr.next (.pointer (some ⟨bi, 0, none⟩)) true ty).run Try.prog w = .ok (.tuple #[.bool true, .int .i64 (ens (L.take k)).length, .int .i32 (L[k] : Nat)]) (w.iterAt bi s (ens (L.take (k + 1))).length)) := fun bi k w h hk ty => h.next hC hl hk ty
  have HND : Hid (∀ bi k w, It bi s L k w → L.length ≤ k → ∀ ty, (Instr.next (.pointer (some ⟨bi, 0, none⟩)) true ty).run Try.prog w = .ok (.tuple #[.bool false]) w) := fun bi k w h hk ty => h.done hl hk ty
  have HPF : Hid (∀ k, Lib.hasPrefix (s.extract (ens (L.take k)).length s.size).data.toList t.data.toList = stB L T k) := fun k => by
    rw [ht]
    exact hasPrefix_at hC hT hl k
  have HTK : Hid (∀ k, k < L.length → (ens (L.take k)).length < s.size) := fun k hk => by
    rw [size_list, hl]
    have := ens_take_lt L [] k hk
    rwa [List.append_nil] at this
  have HPL : Hid (∀ n, (up (plc L T n)).length ≤ n) := fun n => by
    rw [up_length]
    exact plc_len L T n
  have HSt : Hid (∀ k, up (plc L T (k + 1)) = if stB L T k then up (plc L T k) ++ [(k : Int)] else up (plc L T k)) := fun k => by
    rw [plc_succ, up_append]
    split
    · rfl
    · exact List.append_nil _
  have HME : Hid (∀ k, (h : k < L.length) → (ens (L.take k)).length < (ens (L.take (k + 1))).length) := fun k h => by
    rw [ens_step L k h]
    have := en_length L[k]
    omega
  have HI0 : Hid (It w.heap.size s L 0 (w.iter s 0)) := It.start w s L
  have HB0 : Hid (Below w.heap.size w (w.iter s 0)) := (Below.refl _ _).alloc (Nat.le_refl _) _
  have HEND : Hid (up (plcA L T) = if stB L T L.length then up (plc L T L.length) ++ [(L.length : Int)] else up (plc L T L.length)) := by
    show _ = _
    unfold plcA
    exact HSt.out L.length
  have hte : (T = [] ∧ t = ⟨#[]⟩) ∨ (T ≠ [] ∧ t.data.toList ≠ []) := by
    by_cases h : T = []
    · left
      refine ⟨h, ?_⟩
      rw [← bs_of t, ht, h]
      rfl
    · right
      refine ⟨h, ?_⟩
      rw [ht]
      exact fun h2 => h ((ens_nil_iff T).1 h2)
  have HTE := Lib.hid hte
  clear hC hT hl ht hte
  generalize up (plcA L T) = U at *
  go_enter Try.func68, Try.ntmps68
  go_wp2_with fail
  generalize w.iter s 0 = w1 at *
  go_loopw [5, 6] (fun v p wr => ∃ (k : Nat) (ao : Option Addr) (cv : Nat), k ≤ L.length ∧ p = .int .i64 k ∧ v = .slice ao (up (plc L T k)).length cv ∧ wr.ownsRow w.heap.size 3 1 v (up (plc L T k)).length ((up (plc L T k)).map (Value.int .i64)) ∧ Hid (Below w.heap.size w wr) ∧ Hid (It w.heap.size s L k wr)) (fun _ _ wr => s.size - wr.iterPos w.heap.size)
  case atStart => exact ⟨0, none, 0, Nat.zero_le _, rfl, rfl, World.ownsRow_nil _ _ _ _, HB0, HI0⟩
  case round =>
    obtain ⟨k, ao, cv, hk, rfl, rfl, hown, hbl, hit⟩ := hrel
    have HP0 := Lib.hid hit.out.pos
    have hpl := HPL.out k
    by_cases hlt : k < L.length
    · have hnext := HNX.out _ k wr hit.out hlt
      have htk := HTK.out k hlt
      have HMk := Lib.hid (HME.out k hlt)
      have HPk := Lib.hid (HPF.out k)
      have HStk := Lib.hid (HSt.out k)
      have HIT2 : Hid (It w.heap.size s L (k + 1) (wr.iterAt w.heap.size s (ens (L.take (k + 1))).length)) := hit.out.step
      have hown1 : (wr.iterAt w.heap.size s (ens (L.take (k + 1))).length).ownsRow w.heap.size 3 1 (.slice ao (up (plc L T k)).length cv) (up (plc L T k)).length ((up (plc L T k)).map (Value.int .i64)) := own_iterAt hown hit.out _
      have HB2 : Hid (Below w.heap.size w (wr.iterAt w.heap.size s (ens (L.take (k + 1))).length)) := Lib.below_iterAt hbl.out (Nat.le_refl _) _ _
      have hsize1 := HB2.out.size
      generalize wr.iterAt w.heap.size s (ens (L.take (k + 1))).length = wq at *
      generalize hpo : (ens (L.take k)).length = pos at *
      have HPO := Lib.hid hpo
      clear hpo
      generalize L[k] = c at *
      generalize hA : up (plc L T k) = A at *
      have HA := Lib.hid hA
      clear hA hown
      cases hst : stB L T k
      · rw [hst] at HPk HStk
        have HE : Hid (up (plc L T (k + 1)) = A) := by
          show _ = _
          rw [HStk.out]
          rfl
        have HO := Lib.hid hown1
        have HP4 := Lib.hid HIT2.out.pos
        clear hst hown1
        go_wp2_with fail
        refine (Try.strings_HasPrefix _ _ _).mono ?_
        rintro e w' ⟨rfl, rfl⟩
        rw [HPk.out]
        go_wp2
        go_roundw
        case rel => exact ⟨k + 1, ao, cv, by omega, by go_num, by rw [HE.out], by rw [HE.out]; exact HO.out, HB2, HIT2⟩
        case measure =>
          have h1 := HMk.out
          have h2 := HP0.out
          have h3 := HP4.out
          omega
      · rw [hst] at HPk HStk
        have HE : Hid (up (plc L T (k + 1)) = A ++ [(k : Int)]) := by
          show _ = _
          rw [HStk.out]
          rfl
        clear hst
        go_wp2_with fail
        refine (Try.strings_HasPrefix _ _ _).mono ?_
        rintro e w' ⟨rfl, rfl⟩
        rw [HPk.out]
        go_wp2_with (first
          | (at_builtin; refine wpList_append_own _ rfl _ _ 25 rfl w.heap.size 3 i0 (.int .i64 0) 1 8 Try.underlying25 hi hz0 hz1 hz2 rfl (by decide) _ _ _ rfl (hown1.alloc _) ⟨w'.heap.size, 0, none⟩ 1 1 [.int .i64 (k : Int)] rfl rfl (cell_one_new _ _ _) (fun x hx => by simp at hx; subst hx; rfl) (by unfold maxLen; omega) (by omega) (by simp; omega) ?_; intro v' w3 hown' hgrow3 hnil3))
        have hb3 : Hid (Below w.heap.size w w3) := (HB2.out.alloc hsize1 _).grown hgrow3 (by simp; omega) (fun q hq => (hown1.lt q hq).1)
        have HIT3 : Hid (It w.heap.size s L (k + 1) w3) := (HIT2.out.alloc _).grown hgrow3 (own_ne_iter hown1 HIT2.out)
        have HP4 := Lib.hid HIT3.out.pos
        have HO3 : Hid (w3.ownsRow w.heap.size 3 1 v' (up (plc L T (k + 1))).length ((up (plc L T (k + 1))).map (Value.int .i64))) := by
          show World.ownsRow _ _ _ _ _ _ _
          rw [HE.out, List.length_append, List.map_append]
          exact hown'
        obtain ⟨ao2, cv2, rfl⟩ := form_any HO3.out
        clear hown' hgrow3 hnil3 hown1 hnext
        go_wp2
        go_roundw
        case rel => exact ⟨k + 1, ao2, cv2, by omega, by go_num, rfl, HO3.out, hb3, HIT3⟩
        case measure =>
          have h1 := HMk.out
          have h2 := HP0.out
          have h3 := HP4.out
          omega
    · obtain rfl : k = L.length := by omega
      have hnext := HND.out _ _ wr hit.out (Nat.le_refl _)
      generalize hA : up (plc L T L.length) = A at *
      have HA := Lib.hid hA
      clear hA
      rcases HTE.out with ⟨hT, ht⟩ | ⟨hT, ht⟩
      · subst ht
        have HE : Hid (U = A ++ [(L.length : Int)]) := by
          show _ = _
          rw [HEND.out, hT, stB_nil]
          rfl
        clear hT
        go_wp2_with (first
          | (at_builtin; refine wpList_append_own _ rfl _ _ 25 rfl w.heap.size 3 i0 (.int .i64 0) 1 8 Try.underlying25 hi hz0 hz1 hz2 rfl (by decide) _ _ _ rfl (hown.alloc _) ⟨wr.heap.size, 0, none⟩ 1 1 [.int .i64 (L.length : Int)] rfl rfl (cell_one_new _ _ _) (fun x hx => by simp at hx; subst hx; rfl) (by unfold maxLen; omega) (by omega) (by have := hbl.out.size; simp; omega) ?_; intro v' w3 hown' hgrow3 hnil3))
        have hb3 : Hid (Below w.heap.size w w3) := (hbl.out.alloc hbl.out.size _).grown hgrow3 (by have := hbl.out.size; simp; omega) (fun q hq => (hown.lt q hq).1)
        have HO3 : Hid (w3.ownsRow w.heap.size 3 1 v' U.length (U.map (Value.int .i64))) := by
          show World.ownsRow _ _ _ _ _ _ _
          rw [HE.out, List.length_append, List.map_append]
          exact hown'
        obtain ⟨ao2, cv2, rfl⟩ := form_any HO3.out
        clear hown' hgrow3 hnil3 hown hnext
        go_wp2
        go_ret
        exact HP.out _ _ hb3.out ⟨HO3.out, ao2, cv2, rfl⟩
      · have HE : Hid (U = A) := by
          show _ = _
          rw [HEND.out, stB_end hT]
          rfl
        have ht1 : (t.toList == (ByteArray.toList ⟨#[]⟩)) = false := by
          rw [Lib.toList_data, Lib.toList_data, beq_eq_false_iff_ne]
          exact ht
        have ht3 : t.toList.isEmpty = false := by
          rw [Lib.toList_data, List.isEmpty_eq_false_iff]
          exact ht
        have HO3 : Hid (Row 3 .i64 w.heap.size (.slice ao A.length cv) U wr) := by
          show Row _ _ _ _ _ _
          rw [HE.out]
          exact ⟨hown, ao, cv, rfl⟩
        clear hT ht hown
        generalize A.length = n at *
        go_wp2
        go_ret
        exact HP.out _ _ hbl.out HO3.out

end Go.Proofs.Ytdjpjknbbedamaa
