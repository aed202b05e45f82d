/-
  Parts of texts: chars.Sub and the document's; their widths. No condition beside int's own range.
-/
import Derived.Test.YtegckpkancbnmaaDoorRn
namespace Go.Proofs.YtegckpkancbnmaaDoor
open Go.RowKit

/-- Which characters are taken: from place f on, m of them. -/
def SubIs (N : Nat) (fr n : Int) (f m : Nat) : Prop :=
  f ≤ N ∧ m ≤ N - f ∧ ((0 ≤ fr ∧ fr = f) ∨ (fr < 0 ∧ fr + N = f)) ∧ ((n < 0 ∧ max (((N - f : Nat) : Int) + n) 0 = m) ∨ (0 ≤ n ∧ min n ((N - f : Nat) : Int) = m))
theorem sub_cases (N : Nat) (fr n : Int) : (fr < -(N : Int) ∨ (N : Int) < fr) ∨ ∃ f m, SubIs N fr n f m := by
  by_cases h : fr < -(N : Int) ∨ (N : Int) < fr
  · exact .inl h
  · right
    unfold SubIs
    by_cases h0 : fr < 0
    · obtain ⟨f, hf⟩ := Int.eq_ofNat_of_zero_le (show 0 ≤ fr + N by omega)
      by_cases h1 : n < 0
      · obtain ⟨m, hm⟩ := Int.eq_ofNat_of_zero_le (show 0 ≤ max (((N - f : Nat) : Int) + n) 0 by omega)
        exact ⟨f, m, by omega, by omega, .inr ⟨h0, hf⟩, .inl ⟨h1, hm⟩⟩
      · obtain ⟨m, hm⟩ := Int.eq_ofNat_of_zero_le (show 0 ≤ min n ((N - f : Nat) : Int) by omega)
        exact ⟨f, m, by omega, by omega, .inr ⟨h0, hf⟩, .inr ⟨by omega, hm⟩⟩
    · obtain ⟨f, hf⟩ := Int.eq_ofNat_of_zero_le (show 0 ≤ fr by omega)
      by_cases h1 : n < 0
      · obtain ⟨m, hm⟩ := Int.eq_ofNat_of_zero_le (show 0 ≤ max (((N - f : Nat) : Int) + n) 0 by omega)
        exact ⟨f, m, by omega, by omega, .inl ⟨by omega, hf⟩, .inl ⟨h1, hm⟩⟩
      · obtain ⟨m, hm⟩ := Int.eq_ofNat_of_zero_le (show 0 ≤ min n ((N - f : Nat) : Int) by omega)
        exact ⟨f, m, by omega, by omega, .inl ⟨by omega, hf⟩, .inr ⟨by omega, hm⟩⟩

theorem ens_len_of {s : ByteArray} {L : List Nat} (hl : s.data.toList = ens L) (hs : s.size ≤ 4096) : L.length ≤ 4096 := by
  have := (ens_length_le L).1
  rw [← hl, ← size_list] at this
  omega

theorem Sub_bad (s : ByteArray) (hb : ckE s ≠ 0) (fr n : Int) (w : World) : Calls Tryd.prog 25 #[.string s, .int .i64 fr, .int .i64 n] w (TxP [] (ckE s) w) := by
  have HK := Lib.hid (fun w => check1_any s w)
  have hn : (ckE s != 0) = true := by simpa using hb
  have HP : Hid (∀ w w', Below w.heap.size w w' → TxP [] (ckE s) w (.returned (.tuple #[.string ⟨#[]⟩, .int .i64 (ckE s)])) w') := fun w w' h => ⟨rfl, h⟩
  clear hb
  generalize ckE s = x at *
  go_enter Tryd.func25, Tryd.ntmps25
  go_wp2_with fail
  refine (HK.out _).mono ?_
  rintro e w' ⟨rfl, hb⟩
  have HB := Lib.hid hb
  clear hb
  go_wp2
  go_ret2
  exact HP.out _ _ HB.out

set_option maxRecDepth 100000 in
set_option maxHeartbeats 4000000 in
theorem Sub_out (s : ByteArray) (L : List Nat) (hC : allC L) (hl : s.data.toList = ens L) (hs : s.size ≤ 4096) (fr n : Int) (h0 : -9223372036854775808 ≤ fr) (h1 : fr ≤ 9223372036854775807) (ho : fr < -(L.length : Int) ∨ (L.length : Int) < fr) (w : World) :
    Calls Tryd.prog 25 #[.string s, .int .i64 fr, .int .i64 n] w (TxP [] 1 w) := by
  have HK : Hid (∀ w, Calls Tryd.prog 34 #[.slice (some ⟨w.heap.size, 0, none⟩) 1 1] (w.alloc (.cells #[.string s] 9)) (ErrP 0 w)) := fun w => by
    have := check1_any s w
    rwa [ckE_ok hs hC hl] at this
  have HM := Lib.hid (fun w => runes_made s L hC hl hs w)
  have hLs := ens_len_of hl hs
  have HP : Hid (∀ w', Below w.heap.size w w' → TxP [] 1 w (.returned (.tuple #[.string ⟨#[]⟩, .int .i64 1])) w') := fun w' h => ⟨rfl, h⟩
  clear hC hl
  rcases ho with ho | ho
  all_goals
    have HO := Lib.hid ho
    go_enter Tryd.func25, Tryd.ntmps25
    go_wp2_with fail
    refine (HK.out _).mono ?_
    rintro e w1 ⟨rfl, hb1⟩
    have HB1 := Lib.hid hb1
    clear hb1
    obtain ⟨cap, w2, hcv, hle, hb2, hz2, hcell, hfz⟩ := HM.out w1
    have HB2 : Hid (Below w.heap.size w w2) := HB1.out.trans (hb2.mono HB1.out.size)
    clear hb2 hcell hfz hz2
    generalize w1.heap.size = b at *
    go_wp2
    go_ret2
    exact HP.out _ HB2.out

set_option maxRecDepth 100000 in
set_option maxHeartbeats 4000000 in
theorem Sub_in (s : ByteArray) (L : List Nat) (hC : allC L) (hl : s.data.toList = ens L) (hs : s.size ≤ 4096) (fr n : Int) (h0 : -9223372036854775808 ≤ fr) (h1 : fr ≤ 9223372036854775807) (h2 : -9223372036854775808 ≤ n) (h3 : n ≤ 9223372036854775807) (f m : Nat) (hI : SubIs L.length fr n f m) (w : World) :
    Calls Tryd.prog 25 #[.string s, .int .i64 fr, .int .i64 n] w (TxP (ens ((L.drop f).take m)) 0 w) := by
  obtain ⟨i1, i2, i3, i4⟩ := hI
  have HK : Hid (∀ w, Calls Tryd.prog 34 #[.slice (some ⟨w.heap.size, 0, none⟩) 1 1] (w.alloc (.cells #[.string s] 9)) (ErrP 0 w)) := fun w => by
    have := check1_any s w
    rwa [ckE_ok hs hC hl] at this
  have HM := Lib.hid (fun w => runes_made s L hC hl hs w)
  have hLs := ens_len_of hl hs
  have HP : Hid (∀ w', Below w.heap.size w w' → TxP (ens ((L.drop f).take m)) 0 w (.returned (.tuple #[.string (bs (ens ((L.drop f).take m))), .int .i64 0])) w') := fun w' h => ⟨rfl, h⟩
  have HZ : Hid (m = 0 → bs (ens ((L.drop f).take m)) = ⟨#[]⟩) := fun h => by
    rw [h]
    rfl
  have HBK : Hid (∀ (b cap : Nat) (w2 : World), L.length ≤ cap → (∀ j (h : j < L.length), w2.cell? ⟨b, j, none⟩ = some (.int .i32 (L[j] : Nat))) → ∀ (o x c' : Nat), o = f → x = m → (convert 72 9 (.slice (some ⟨b, o, none⟩) x c')).run Tryd.prog w2 = .ok (.string (bs (ens ((L.drop f).take m)))) w2) := fun b cap w2 hcap hcell o x c' ho hx => by
    subst ho hx
    have hz : ∀ j (h : j < x), w2.cell? ⟨b, o + j, none⟩ = some (.int .i32 (L[o + j]'(by omega) : Nat)) := fun j h => hcell _ _
    rw [run_convert_runes w2 72 9 21 ⟨b, o, none⟩ x c' (up ((L.drop o).take x)) (by rw [up_length, List.length_take, List.length_drop]; omega) Tryd.underlying72 Tryd.underlying21 Tryd.underlying9]
    · rw [List.take_of_length_le (by rw [up_length, List.length_take]; omega), runesBytes_up _ (allC_take (allC_drop hC _) _)]
    · intro j hj
      rw [up_length, List.length_take, List.length_drop] at hj
      rw [show ((⟨b, o, none⟩ : Addr).add j) = ⟨b, o + j, none⟩ by cases j <;> simp [Addr.add], hz j (by omega)]
      have hj1 : j < x := by omega
      have hj2 : o + j < L.length := by omega
      simp [List.getD, up, hj1, hj2]
  have HB0 : Hid (∀ (w2 : World) (b o x c' : Nat), x = 0 → (convert 72 9 (.slice (some ⟨b, o, none⟩) x c')).run Tryd.prog w2 = .ok (.string ⟨#[]⟩) w2) := fun w2 b o x c' hx => by
    subst hx
    rw [run_convert_runes w2 72 9 21 ⟨b, o, none⟩ 0 c' [] (by simp) Tryd.underlying72 Tryd.underlying21 Tryd.underlying9 (by intro j hj; simp at hj)]
    rfl
  clear hC hl
  rcases i3 with ⟨i3, i5⟩ | ⟨i3, i5⟩ <;> rcases i4 with ⟨i4, i6⟩ | ⟨i4, i6⟩
  all_goals
    have I5 := Lib.hid i5
    have I6 := Lib.hid i6
    clear i6
    try subst fr
    go_enter Tryd.func25, Tryd.ntmps25
    go_wp2_with fail
    refine (HK.out _).mono ?_
    rintro e w1 ⟨rfl, hb1⟩
    have HB1 := Lib.hid hb1
    clear hb1
    obtain ⟨cap, w2, hcv, hle, hb2, hz2, hcell, hfz⟩ := HM.out w1
    have HB2 : Hid (Below w.heap.size w w2) := HB1.out.trans (hb2.mono HB1.out.size)
    have HBK2 := Lib.hid (HBK.out _ cap w2 hle hcell)
    clear hb2 hcell hfz hz2 HBK
    generalize w1.heap.size = b at *
    go_wp2_with fail
    all_goals
      have i5' := I5.out
      have i6' := I6.out
      first
        | (exfalso; omega)
        | (rw [HBK2.out _ _ _ (by omega) (by omega)]
           simp only [Result.andThen]
           rw [Oper.upon_value]
           go_wp2
           go_ret2
           exact HP.out _ HB2.out)
        | (rw [HB0.out _ _ _ _ _ (by omega)]
           have hz := HZ.out (by omega)
           simp only [Result.andThen]
           rw [Oper.upon_value]
           go_wp2
           go_ret2
           rw [← hz]
           exact HP.out _ HB2.out)

end Go.Proofs.YtegckpkancbnmaaDoor
