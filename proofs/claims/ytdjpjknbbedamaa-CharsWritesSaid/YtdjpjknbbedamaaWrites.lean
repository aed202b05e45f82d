/-
  The walk of CharsWrites: chars.Text and Points, and the document's. No condition.
-/
import Derived.Test.YtdjpjknbbedamaaKn
namespace Go.Proofs.Ytdjpjknbbedamaa
open Go.RowKit

set_option maxRecDepth 100000 in
set_option maxHeartbeats 4000000 in
theorem writes_go (M : List Int) (v : Value) (w : World) (hr : Rd .i64 w.heap.size v M w) (hl : M.length ≤ 20000) (T P : List Nat) (x : Int)
    (hC : allC P) (hP : (ens P).length ≤ 4096) (hTP : bs (szL (ens T)) = bs (ens P)) (hx : x ≠ 0 ∨ (x = 0 ∧ up P = M))
    (H1 : Hid (Calls Try.prog 17 #[v] w (TxP (szL (ens T)) x w))) (H2 : Hid (∀ w', Below w.heap.size w w' → Calls Try.prog 18 #[v] w' (TxP (szL (ens T)) x w'))) :
    Calls Try.prog 4 #[v] w (KnownPost w) := by
  have HKN := Lib.hid known_any
  have HPO := Lib.hid (fun w => Points_ok (bs (ens P)) P hC (bs_list _) (by rw [bs_size]; exact hP) w)
  have HPE := Lib.hid hTP
  have HRD := Lib.hid (fun w' (h : Below w.heap.size w w') => hr.later h)
  obtain ⟨ao, cv, rfl, hle, hrd⟩ := hr
  have hPl : P.length ≤ 4096 := Nat.le_trans (ens_length_le P).1 hP
  have HPL : Hid ((up P).length ≤ 140737488355) := by
    show _ ≤ _
    rw [up_length]
    omega
  clear hC hP hTP hrd
  rcases hx with hx | ⟨rfl, rfl⟩
  · have hx' : (x != 0) = true := by simpa using hx
    clear hx
    go_enter Try.func4, Try.ntmps4
    go_wp2_with fail
    refine (H1.out).mono ?_
    rintro e w1 ⟨rfl, hb1⟩
    have HB1 := Lib.hid hb1
    clear hb1
    go_wp2_with fail
    refine (H2.out _ HB1.out).mono ?_
    rintro e w2 ⟨rfl, hb2⟩
    have HB2 : Hid (Below w.heap.size w w2) := HB1.out.trans (hb2.mono HB1.out.size)
    clear hb2
    rw [HPE.out]
    generalize bs (ens P) = X at *
    go_wp2_with fail
    refine (HPO.out _).mono ?_
    rintro e w3 ⟨v3, rfl, hb3, hr3⟩
    have HB3 : Hid (Below w.heap.size w w3) := HB2.out.trans (hb3.mono HB2.out.size)
    clear hb3 hr3
    go_wp2_with fail
    refine (HKN.out _).mono ?_
    rintro e w6 ⟨rfl, hb6⟩
    have HB6 : Hid (Below w.heap.size w w6) := HB3.out.trans (hb6.mono HB3.out.size)
    clear hb6
    go_wp2
    go_ret
    exact ⟨rfl, HB6.out⟩
  · generalize up P = U at *
    go_enter Try.func4, Try.ntmps4
    go_wp2_with fail
    refine (H1.out).mono ?_
    rintro e w1 ⟨rfl, hb1⟩
    have HB1 := Lib.hid hb1
    clear hb1
    go_wp2_with fail
    refine (H2.out _ HB1.out).mono ?_
    rintro e w2 ⟨rfl, hb2⟩
    have HB2 : Hid (Below w.heap.size w w2) := HB1.out.trans (hb2.mono HB1.out.size)
    clear hb2
    rw [HPE.out]
    generalize bs (ens P) = X at *
    go_wp2_with fail
    refine (HPO.out _).mono ?_
    rintro e w3 ⟨v3, rfl, hb3, hr3⟩
    have HB3 : Hid (Below w.heap.size w w3) := HB2.out.trans (hb3.mono HB2.out.size)
    have HD3 := Lib.hid hr3.rd
    clear hb3 hr3
    go_wp2_with fail
    refine (SameInts_any U U _ _ v3 _ _ HD3.out (HRD.out _ HB3.out) HPL.out).mono ?_
    rintro e w4 ⟨rfl, hb4⟩
    have HB4 : Hid (Below w.heap.size w w4) := HB3.out.trans (hb4.mono HB3.out.size)
    clear hb4
    rw [show (U == U) = true by simp]
    go_wp2_with fail
    refine (HKN.out _).mono ?_
    rintro e w6 ⟨rfl, hb6⟩
    have HB6 : Hid (Below w.heap.size w w6) := HB4.out.trans (hb6.mono HB4.out.size)
    clear hb6
    go_wp2
    go_ret
    exact ⟨rfl, HB6.out⟩

theorem charsWrites_walk (M : List Int) (v : Value) (w : World) (hr : Rd .i64 w.heap.size v M w) : Calls Try.prog 4 #[v] w (KnownPost w) := by
  by_cases hz : 20000 < M.length
  · have HKN := Lib.hid known_any
    obtain ⟨ao, cv, rfl, hle, hrd⟩ := hr
    clear hrd
    go_enter Try.func4, Try.ntmps4
    go_wp2_with fail
    refine (HKN.out _).mono ?_
    rintro e w3 ⟨rfl, hb3⟩
    have HB3 := Lib.hid hb3
    clear hb3
    go_wp2
    go_ret
    exact ⟨rfl, HB3.out⟩
  · rcases dich M with ⟨L, hC, rfl⟩ | ⟨k, hk, hb, hg⟩
    · rw [up_length] at hz
      have h1 : Calls Try.prog 17 #[v] w (TxP (szL (ens L)) (szE (ens L)) w) := Text_ok L hC w.heap.size v w (Nat.le_refl _) hr (by omega)
      have h2 : ∀ w', Below w.heap.size w w' → Calls Try.prog 18 #[v] w' (TxP (szL (ens L)) (szE (ens L)) w') := fun w' h => rText_ok L hC w.heap.size v w' h.size (hr.later h) (by omega)
      by_cases h : 4096 < (ens L).length
      · refine writes_go (up L) v w hr (by rw [up_length]; omega) L [] (szE (ens L)) (fun c h => by cases h) (by decide) ?_ (.inl ?_) h1 h2
        · rw [szL, if_pos h]
          rfl
        · rw [szE, if_pos h]
          decide
      · refine writes_go (up L) v w hr (by rw [up_length]; omega) L L (szE (ens L)) hC (by omega) ?_ (.inr ⟨?_, rfl⟩) h1 h2
        · rw [szL, if_neg h]
        · rw [szE, if_neg h]
    · have h1 : Calls Try.prog 17 #[v] w (TxP (szL (ens [])) 1 w) := (Text_bad M w.heap.size v w hr (by omega) k hk hb hg).mono fun e w' h => by
        obtain ⟨h1, rfl⟩ := h
        exact ⟨h1, Below.refl _ _⟩
      have h2 : ∀ w', Below w.heap.size w w' → Calls Try.prog 18 #[v] w' (TxP (szL (ens [])) 1 w') := fun w' h => (rText_bad M w.heap.size v w' (hr.later h) (by omega) k hk hb hg).mono fun e w2 h => by
        obtain ⟨h1, rfl⟩ := h
        exact ⟨h1, Below.refl _ _⟩
      exact writes_go M v w hr (by omega) [] [] 1 (fun c h => by cases h) (by decide) rfl (.inl (by decide)) h1 h2

end Go.Proofs.Ytdjpjknbbedamaa
