/-
  The document's Sub; both widths. No condition beside int's own range.
-/
import Derived.Test.YtdjpjknbbedamaaKn
namespace Go.Proofs.Ytdjpjknbbedamaa
open Go.RowKit

theorem rSub_bad (s : ByteArray) (hb : ckE s ≠ 0) (fr n : Int) (w : World) : Calls Try.prog 34 #[.string s, .int .i64 fr, .int .i64 n] w (TxP [] (ckE s) w) := by
  have HK := Lib.hid (fun w => Checked_any s w)
  have hn : (ckE s != 0) = true := by simpa using hb
  have HP : Hid (∀ w, TxP [] (ckE s) w (.returned (.tuple #[.string ⟨#[]⟩, .int .i64 (ckE s)])) w) := fun w => ⟨rfl, Below.refl _ _⟩
  clear hb
  generalize ckE s = x at *
  go_enter Try.func34, Try.ntmps34
  go_wp2_with fail
  refine (HK.out _).mono ?_
  rintro e w' ⟨rfl, rfl⟩
  go_wp2
  go_ret2
  exact HP.out _

set_option maxRecDepth 100000 in
set_option maxHeartbeats 4000000 in
theorem rSub_out (s : ByteArray) (L : List Nat) (hC : allC L) (hl : s.data.toList = ens L) (hs : s.size ≤ 4096) (fr n : Int) (ho : fr < -(L.length : Int) ∨ (L.length : Int) < fr) (w : World) :
    Calls Try.prog 34 #[.string s, .int .i64 fr, .int .i64 n] w (TxP [] 1 w) := by
  have HK : Hid (∀ w, Calls Try.prog 46 #[.string s] w (ErrS 0 w)) := fun w => by
    have := Checked_any s w
    rwa [ckE_ok hs hC hl] at this
  have HR := Lib.hid (fun w => Runes_any s L hC hl w hs)
  have hLs := ens_len_of hl hs
  have HP : Hid (∀ w', Below w.heap.size w w' → TxP [] 1 w (.returned (.tuple #[.string ⟨#[]⟩, .int .i64 1])) w') := fun w' h => ⟨rfl, h⟩
  have HUL : Hid ((up L).length = L.length) := up_length L
  clear hC hl
  rcases ho with ho | ho
  all_goals
    go_enter Try.func34, Try.ntmps34
    go_wp2_with fail
    refine (HK.out _).mono ?_
    rintro e w' ⟨rfl, rfl⟩
    go_wp2_with fail
    refine (HR.out _).mono ?_
    rintro e w2 ⟨v, rfl, hb2, hr2⟩
    have HB2 := Lib.hid hb2
    obtain ⟨_, ao, cv, rfl⟩ := hr2
    rw [HUL.out]
    clear hb2
    go_wp2
    go_ret2
    exact HP.out _ HB2.out

set_option maxRecDepth 100000 in
set_option maxHeartbeats 4000000 in
theorem rSub_nil (s : ByteArray) (hl : s.data.toList = []) (n : Int) (w : World) :
    Calls Try.prog 34 #[.string s, .int .i64 0, .int .i64 n] w (TxP [] 0 w) := by
  have hC : allC [] := fun c h => by cases h
  have hs : s.size ≤ 4096 := by rw [size_list, hl]; simp
  have HK : Hid (∀ w, Calls Try.prog 46 #[.string s] w (ErrS 0 w)) := fun w => by
    have := Checked_any s w
    rwa [ckE_ok (L := []) hs hC hl] at this
  have HR := Lib.hid (fun w => Runes_any s [] hC hl w hs)
  have HP : Hid (∀ w', Below w.heap.size w w' → TxP [] 0 w (.returned (.tuple #[.string (bs []), .int .i64 0])) w') := fun w' h => ⟨rfl, h⟩
  have HWR : Hid (∀ (v : Value) (w : World), Rd .i64 w.heap.size v (up []) w → Calls Try.prog 54 #[v] w (StrP [] w)) := fun v w h2 => Write_any [] hC _ v w (Nat.le_refl _) h2 (by simp)
  have HRD : Hid (∀ (c : Nat) (w2 : World), Rd .i64 w2.heap.size (.slice none 0 c) (up []) w2) := fun c w2 => ⟨none, c, rfl, by simp [up], fun h => absurd h (by simp [up])⟩
  clear hl
  by_cases hn : n < 0
  all_goals
    go_enter Try.func34, Try.ntmps34
    go_wp2_with fail
    refine (HK.out _).mono ?_
    rintro e w' ⟨rfl, rfl⟩
    go_wp2_with fail
    refine (HR.out _).mono ?_
    rintro e w2 ⟨v, rfl, hb2, hr2⟩
    have HB2 := Lib.hid hb2
    obtain ⟨hown, ao, cv, rfl⟩ := hr2
    rcases hown.2 with ⟨h1, _⟩ | ⟨g, cap, cur, h1, _, hg, hle, _⟩
    · injection h1 with h1 h4 h5
      subst h1 h5
      clear hb2 hown h4
      rw [show (up []).length = 0 from rfl]
      go_wp2_with fail
      refine (HWR.out _ _ (HRD.out _ _)).mono ?_
      rintro e w4 ⟨rfl, hb4⟩
      have HB4 : Hid (Below w.heap.size w w4) := HB2.out.trans (hb4.mono HB2.out.size)
      clear hb4
      go_wp2
      go_ret2
      exact HP.out _ HB4.out
    · injection h1 with h1 h4 h5
      subst h1 h5
      have HRS : Hid (∀ (o : Nat), Rd .i64 w2.heap.size (.slice (some ⟨g, o, none⟩) 0 cv) (up []) w2) := fun o => ⟨_, cv, rfl, by simp [up], fun h => absurd h (by simp [up])⟩
      clear hb2 hown h4
      rw [show (up []).length = 0 from rfl] at *
      go_wp2_with fail
      all_goals
        refine (HWR.out _ _ (HRS.out _)).mono ?_
        rintro e w4 ⟨rfl, hb4⟩
        have HB4 : Hid (Below w.heap.size w w4) := HB2.out.trans (hb4.mono HB2.out.size)
        clear hb4
        go_wp2
        go_ret2
        exact HP.out _ HB4.out

set_option maxRecDepth 100000 in
set_option maxHeartbeats 8000000 in
theorem rSub_in (s : ByteArray) (L : List Nat) (hC : allC L) (hl : s.data.toList = ens L) (hs : s.size ≤ 4096) (fr n : Int) (h2 : -9223372036854775808 ≤ n) (h3 : n ≤ 9223372036854775807) (f m : Nat) (hI : SubIs L.length fr n f m) (w : World) :
    Calls Try.prog 34 #[.string s, .int .i64 fr, .int .i64 n] w (TxP (ens ((L.drop f).take m)) 0 w) := by
  obtain ⟨i1, i2, i3, i4⟩ := hI
  by_cases hL0 : L = []
  · subst hL0
    obtain rfl : fr = 0 := by simp at i1 i3; omega
    have := rSub_nil s hl n w
    simpa [ens] using this
  have hpos : 0 < L.length := List.length_pos_iff.2 hL0
  have HK : Hid (∀ w, Calls Try.prog 46 #[.string s] w (ErrS 0 w)) := fun w => by
    have := Checked_any s w
    rwa [ckE_ok hs hC hl] at this
  have HR := Lib.hid (fun w => Runes_any s L hC hl w hs)
  have hLs := ens_len_of hl hs
  have HP : Hid (∀ w', Below w.heap.size w w' → TxP (ens ((L.drop f).take m)) 0 w (.returned (.tuple #[.string (bs (ens ((L.drop f).take m))), .int .i64 0])) w') := fun w' h => ⟨rfl, h⟩
  have HUL : Hid ((up L).length = L.length) := up_length L
  have HZ : Hid (m = 0 → bs (ens ((L.drop f).take m)) = ⟨#[]⟩) := fun h => by
    rw [h]
    rfl
  have HWR : Hid (∀ (v : Value) (H : Nat) (w : World), H ≤ w.heap.size → Rd .i64 H v (up ((L.drop f).take m)) w → Calls Try.prog 54 #[v] w (StrP (ens ((L.drop f).take m)) w)) := fun v H w h1 h2 => Write_any _ (allC_take (allC_drop hC _) _) H v w h1 h2 (by rw [List.length_take, List.length_drop]; omega)
  have HRD : Hid (∀ (v : Value) (w2 : World), Row 3 .i64 w.heap.size v (up L) w2 → ∃ g cap, v = .slice (some ⟨g, 0, none⟩) L.length cap ∧ L.length ≤ cap ∧ ∀ (o x c' : Nat), x = m → (o = f ∨ m = 0) → m ≤ c' → Rd .i64 w2.heap.size (.slice (some ⟨g, o, none⟩) x c') (up ((L.drop f).take m)) w2) := fun v w2 hr => by
    have hlen : (up ((L.drop f).take m)).length = m := by rw [up_length, List.length_take, List.length_drop]; omega
    obtain ⟨hown, ao, cv, rfl⟩ := hr
    rcases hown.2 with ⟨h1, h0⟩ | ⟨g, cap, cur, h1, _, hg, hle, _⟩
    · rw [up_length] at h0
      omega
    · injection h1 with h1 _ h4
      subst h1 h4
      rw [up_length] at hle
      refine ⟨g, _, by rw [up_length], hle, fun o x c' hx ho hc => ?_⟩
      subst hx
      refine ⟨_, c', by rw [hlen], by rw [hlen]; exact hc, fun hp => ?_⟩
      rw [hlen] at hp
      refine ⟨g, o, rfl, (Array.getElem?_eq_some_iff.1 hg).1, fun j hj => ?_⟩
      rw [hlen] at hj
      have ho' : o = f := by omega
      subst ho'
      have hi : o + j < L.length := by omega
      have := hown.cells (g := g) rfl (o + j) (.int .i64 (L[o + j] : Nat)) (by rw [List.getElem?_map, up]; simp [hi])
      rw [add_zero_addr] at this
      rw [this, up_get]
      simp
  clear hC hl
  rcases i3 with ⟨i3, i5⟩ | ⟨i3, i5⟩
  all_goals
    have I5 := Lib.hid i5
    have I4 := Lib.hid i4
    clear i4
    try subst fr
    go_enter Try.func34, Try.ntmps34
    go_wp2_with fail
    refine (HK.out _).mono ?_
    rintro e w' ⟨rfl, rfl⟩
    go_wp2_with fail
    refine (HR.out _).mono ?_
    rintro e w2 ⟨v, rfl, hb2, hr2⟩
    have HB2 := Lib.hid hb2
    have HZ2 : Hid (w2.heap.size ≤ w2.heap.size) := Nat.le_refl _
    obtain ⟨g, cap, rfl, hcap, hrd⟩ := HRD.out v w2 hr2
    have HRD2 := Lib.hid hrd
    clear hb2 hr2 hrd
    go_wp2_with fail
    all_goals
      have i5' := I5.out
      have i4' := I4.out
      first
        | (exfalso; omega)
        | (refine (HWR.out _ _ _ HZ2.out (HRD2.out _ _ _ (by omega) (by omega) (by omega))).mono ?_
           rintro e w4 ⟨rfl, hb4⟩
           have HB4 : Hid (Below w.heap.size w w4) := HB2.out.trans (hb4.mono HB2.out.size)
           clear hb4 i5' i4'
           go_wp2
           go_ret2
           exact HP.out _ HB4.out)
        | (have hz := HZ.out (by omega)
           clear i5' i4'
           go_wp2
           go_ret2
           rw [← hz]
           exact HP.out _ HB2.out)

end Go.Proofs.Ytdjpjknbbedamaa
