/-
  The walk of NumSpells: num.Spell and the document's Spell agree, and num.Radix reads what was spelled. Conditions: the tables of strconv and math/bits as they are laid.
-/
import Derived.Test.YtmlifgngdilplaaDoorFbw
namespace Go.Proofs.YtmlifgngdilplaaDoor
open Go.RowKit

theorem nSpell_no (n b : Int) (w : World) (h : ¬ okB b ∨ isNumB n = false) : Calls Tryd.prog 43 #[.int .i64 n, .int .i64 b] w (SpP ⟨#[]⟩ 1 w) := by
  have hb0 : Hid (Below w.heap.size w w) := Below.refl _ _
  by_cases hb : okB b
  · have hn : isNumB n = false := by
      rcases h with h | h
      · exact absurd hb h
      · exact h
    have HN := Lib.hid hn
    obtain ⟨c, hc, rfl⟩ : ∃ c : Nat, (c = 2 ∨ c = 8 ∨ c = 10 ∨ c = 16) ∧ b = (c : Int) := by
      rcases hb with rfl | rfl | rfl | rfl
      · exact ⟨2, by omega, rfl⟩
      · exact ⟨8, by omega, rfl⟩
      · exact ⟨10, by omega, rfl⟩
      · exact ⟨16, by omega, rfl⟩
    have HPR := Lib.hid (fun w => prefixOf_of c hc w)
    clear hn h hb hc
    go_enter Tryd.func43, Tryd.ntmps43
    go_wp2_with fail
    refine (HPR.out _).mono ?_
    rintro e w' ⟨rfl, rfl⟩
    go_wp2_with fail
    refine (isNumber_any n _).mono ?_
    rintro e w' ⟨rfl, rfl⟩
    rw [HN.out]
    go_wp2
    go_ret2
    exact ⟨rfl, hb0.out⟩
  · have HPR := Lib.hid (fun w => prefixOf_no b hb w)
    clear hb h
    go_enter Tryd.func43, Tryd.ntmps43
    go_wp2_with fail
    refine (HPR.out _).mono ?_
    rintro e w' ⟨rfl, rfl⟩
    go_wp2
    go_ret2
    exact ⟨rfl, hb0.out⟩

theorem dgs_not0 (b : Nat) (hb : 2 ≤ b) (hb2 : b ≤ 16) (u : Nat) (h : 0 < u) : ((bs (dgs b u)).toList == [48]) = false := by
  rw [Lib.toList_data, bs_list, beq_eq_false_iff_ne]
  intro e
  obtain ⟨h1, _⟩ := dgs_val b hb hb2 u u (Nat.le_refl _)
  rw [e] at h1
  have : valL (b : Int) [48] 0 = 0 := by simp [valL, show dvb 48 = 0 from by decide]
  omega
theorem dgs_is0 (b : Nat) (hb : 2 ≤ b) : dgs b 0 = [48] := by
  rw [dgs_one (by omega)]
  rfl
theorem preN_pre (b u : Nat) (h : 0 < u ∨ b ≠ 8) : preN b = pre b u := by
  unfold preN pre
  rcases h with h | h <;> simp [h]

set_option maxRecDepth 100000 in
set_option maxHeartbeats 1600000 in
theorem nSpell_any (b : Nat) (hb : b = 2 ∨ b = 8 ∨ b = 10 ∨ b = 16) (n : Int) (hn : inR n) (w : World) (hD : Dtab w) (hT : Tab w) :
    Calls Tryd.prog 43 #[.int .i64 n, .int .i64 b] w (SpP (spT n b) 0 w) := by
  have HN := Lib.hid (inR_iff.2 hn)
  obtain ⟨n1, n2⟩ := hn
  have HPR := Lib.hid (fun w => prefixOf_of b hb w)
  obtain ⟨u, hu⟩ : ∃ u, n.natAbs = u := ⟨_, rfl⟩
  have HSZ : Hid (sizeI n = (u : Int)) := by
    show _ = _
    unfold sizeI
    split <;> omega
  have hu2 : (u : Int) ≤ 9007199254740992 := by omega
  have HS := Lib.hid (fun w => size_any n w (by omega) (by omega))
  have HF := Lib.hid (sFormatInt_of b hb u hu2 w hD hT)
  have hl : ((bs (dgs b u)).size : Int) ≤ 8388608 := by
    rw [bs_size]
    have := dgs_size b (by omega) u hu2
    omega
  have hlp : ((bs (preN b)).size : Int) ≤ 8388608 := by
    rw [bs_size]
    have : (preN b).length ≤ 2 := by
      unfold preN
      split
      · simp
      · split
        · simp
        · split <;> simp
    omega
  have HV := Lib.hid (show spT n b = if n < 0 then bs (45 :: (pre b u ++ dgs b u)) else bs (pre b u ++ dgs b u) by unfold spT; rw [hu])
  clear hD hT
  by_cases h0 : u = 0
  · subst h0
    have hn0 : n = 0 := by omega
    subst hn0
    by_cases h8 : b = 8
    · subst h8
      have hz : ((bs (dgs 8 0)).toList == [48]) = true := by rw [dgs_is0 8 (by omega), Lib.toList_data, bs_list]; rfl
      have HR : Hid (spT 0 8 = ⟨#[48]⟩) := by
        show _ = _
        rw [HV.out, if_neg (by omega), dgs_is0 8 (by omega)]
        rfl
      clear HV hb
      generalize bs (dgs 8 0) = R at *
      generalize spT 0 8 = V at *
      generalize bs (preN 8) = P at *
      go_enter Tryd.func43, Tryd.ntmps43
      go_wp2_with fail
      refine (HPR.out _).mono ?_
      rintro e w' ⟨rfl, rfl⟩
      go_wp2_with fail
      refine (isNumber_any _ _).mono ?_
      rintro e w' ⟨rfl, rfl⟩
      rw [HN.out]
      go_wp2_with fail
      refine (HS.out _).mono ?_
      rintro e w' ⟨rfl, rfl⟩
      rw [HSZ.out]
      go_wp2_with fail
      refine (HF.out).mono ?_
      rintro e w' ⟨rfl, hb1⟩
      have HB1 := Lib.hid hb1
      clear hb1
      go_wp2
      go_ret2
      exact ⟨by rw [HR.out]; rfl, HB1.out⟩
    · have hz : ((bs (dgs b 0)).toList == [48]) = true := by rw [dgs_is0 b (by omega), Lib.toList_data, bs_list]; rfl
      have hb8 : ((b : Int) == 8) = false := by simp; omega
      have HR : Hid (spT 0 b = bs (preN b) ++ bs (dgs b 0)) := by
        show _ = _
        rw [HV.out, if_neg (by omega), preN_pre b 0 (.inr h8), bs_append]
      clear HV hb h8
      generalize bs (dgs b 0) = R at *
      generalize spT 0 b = V at *
      generalize bs (preN b) = P at *
      go_enter Tryd.func43, Tryd.ntmps43
      go_wp2_with fail
      refine (HPR.out _).mono ?_
      rintro e w' ⟨rfl, rfl⟩
      go_wp2_with fail
      refine (isNumber_any _ _).mono ?_
      rintro e w' ⟨rfl, rfl⟩
      rw [HN.out]
      go_wp2_with fail
      refine (HS.out _).mono ?_
      rintro e w' ⟨rfl, rfl⟩
      rw [HSZ.out]
      go_wp2_with fail
      refine (HF.out).mono ?_
      rintro e w' ⟨rfl, hb1⟩
      have HB1 := Lib.hid hb1
      clear hb1
      go_wp2
      go_ret2
      exact ⟨by rw [HR.out]; rfl, HB1.out⟩
  · have hz := dgs_not0 b (by omega) (by omega) u (by omega)
    have HPN := Lib.hid (preN_pre b u (.inl (by omega)))
    by_cases hneg : n < 0
    · have HR : Hid (spT n b = (⟨#[45]⟩ ++ bs (preN b)) ++ bs (dgs b u)) := by
        show _ = _
        rw [HV.out, if_pos hneg, HPN.out, show (⟨#[45]⟩ : ByteArray) = bs [45] from rfl, bs_append, bs_append]
        rfl
      have hlp2 : (((⟨#[45]⟩ : ByteArray) ++ bs (preN b)).size : Int) ≤ 8388608 := by
        rw [show (⟨#[45]⟩ : ByteArray) = bs [45] from rfl, bs_append, bs_size]
        rw [bs_size] at hlp
        have : (preN b).length ≤ 2 := by
          unfold preN
          split
          · simp
          · split
            · simp
            · split <;> simp
        rw [List.length_append, List.length_singleton]
        omega
      clear HV hb HPN
      generalize bs (dgs b u) = R at *
      generalize spT n b = V at *
      generalize bs (preN b) = P at *
      go_enter Tryd.func43, Tryd.ntmps43
      go_wp2_with fail
      refine (HPR.out _).mono ?_
      rintro e w' ⟨rfl, rfl⟩
      go_wp2_with fail
      refine (isNumber_any _ _).mono ?_
      rintro e w' ⟨rfl, rfl⟩
      rw [HN.out]
      go_wp2_with fail
      refine (HS.out _).mono ?_
      rintro e w' ⟨rfl, rfl⟩
      rw [HSZ.out]
      go_wp2_with fail
      refine (HF.out).mono ?_
      rintro e w' ⟨rfl, hb1⟩
      have HB1 := Lib.hid hb1
      clear hb1
      go_wp2
      go_ret2
      exact ⟨by rw [HR.out]; rfl, HB1.out⟩
    · have HR : Hid (spT n b = bs (preN b) ++ bs (dgs b u)) := by
        show _ = _
        rw [HV.out, if_neg hneg, HPN.out, bs_append]
      clear HV hb HPN
      generalize bs (dgs b u) = R at *
      generalize spT n b = V at *
      generalize bs (preN b) = P at *
      go_enter Tryd.func43, Tryd.ntmps43
      go_wp2_with fail
      refine (HPR.out _).mono ?_
      rintro e w' ⟨rfl, rfl⟩
      go_wp2_with fail
      refine (isNumber_any _ _).mono ?_
      rintro e w' ⟨rfl, rfl⟩
      rw [HN.out]
      go_wp2_with fail
      refine (HS.out _).mono ?_
      rintro e w' ⟨rfl, rfl⟩
      rw [HSZ.out]
      go_wp2_with fail
      refine (HF.out).mono ?_
      rintro e w' ⟨rfl, hb1⟩
      have HB1 := Lib.hid hb1
      clear hb1
      go_wp2
      go_ret2
      exact ⟨by rw [HR.out]; rfl, HB1.out⟩

theorem spT_run (b : Nat) (hb : b = 2 ∨ b = 8 ∨ b = 10 ∨ b = 16) (u : Nat) (hu : (u : Int) ≤ 9007199254740992) (w : World) :
    Calls Tryd.prog 41 #[.string (spT u b)] w fun e w' => e = .returned (.tuple #[.int .i64 u, .bool true]) ∧ Below w.heap.size w w' := by
  have e1 : spT u b = bs (pre b u ++ dgs b u) := by
    unfold spT
    rw [if_neg (by omega)]
    rfl
  have hz : (bs (pre b u ++ dgs b u)).size ≤ 140737488355328 := by
    rw [bs_size, List.length_append]
    have h1 := dgs_size b (by omega) u hu
    have h2 := pre_len b u
    omega
  have hr := spell_run b hb u hu
  have h := Radix_any (bs (pre b u ++ dgs b u)) w hz
  rw [bs_list, hr] at h
  rw [e1]
  refine h.mono ?_
  rintro e w' ⟨rfl, hb1⟩
  exact ⟨rfl, hb1⟩

set_option maxHeartbeats 800000 in
theorem numSpells_walk (n : Int) (_w0 : (Lit.int .i64 n).wf = true) (b : Int) (_w1 : (Lit.int .i64 b).wf = true) (w : World) (hL : laidMetH Tryd.prog Rows.numSpellsRow.laid w) :
    Calls Tryd.prog 13 #[.int .i64 n, .int .i64 b] w (KnownPost w) := by
  have hT : Tab w := tab_of_laid hL
  have hD : Dtab w := dtab_of_laid hL
  clear hL _w0 _w1
  by_cases hok : okB b ∧ isNumB n = true
  · obtain ⟨hb, hn⟩ := hok
    obtain ⟨c, hc, rfl⟩ : ∃ c : Nat, (c = 2 ∨ c = 8 ∨ c = 10 ∨ c = 16) ∧ b = (c : Int) := by
      rcases hb with rfl | rfl | rfl | rfl
      · exact ⟨2, by omega, rfl⟩
      · exact ⟨8, by omega, rfl⟩
      · exact ⟨10, by omega, rfl⟩
      · exact ⟨16, by omega, rfl⟩
    have hin := inR_iff.1 hn
    have H1 := Lib.hid (nSpell_any c hc n hin w hD hT)
    have H2 := Lib.hid (fun w => rSpell_any c hc n hin w)
    unfold SpP at H1 H2
    by_cases hneg : n < 0
    · clear hT hD hb hn hin hc
      generalize spT n c = V at *
      go_enter Tryd.func13, Tryd.ntmps13
      go_wp2_with fail
      refine (H1.out).mono ?_
      rintro e w1 ⟨rfl, hb1⟩
      have HB1 := Lib.hid hb1
      clear hb1
      go_wp2_with fail
      refine (H2.out _).mono ?_
      rintro e w2 ⟨rfl, hb2⟩
      have HB2 : Hid (Below w.heap.size w w2) := HB1.out.trans (hb2.mono HB1.out.size)
      clear hb2
      go_wp2_with fail
      refine (known_any _).mono ?_
      rintro e w3 ⟨rfl, hb3⟩
      have HB3 : Hid (Below w.heap.size w w3) := HB2.out.trans (hb3.mono HB2.out.size)
      clear hb3
      go_wp2
      go_ret
      exact ⟨rfl, HB3.out⟩
    · obtain ⟨u, rfl⟩ := Int.eq_ofNat_of_zero_le (show 0 ≤ n by omega)
      have H3 := Lib.hid (fun w => spT_run c hc u hin.2 w)
      clear hT hD hb hn hin hc
      generalize spT u c = V at *
      go_enter Tryd.func13, Tryd.ntmps13
      go_wp2_with fail
      refine (H1.out).mono ?_
      rintro e w1 ⟨rfl, hb1⟩
      have HB1 := Lib.hid hb1
      clear hb1
      go_wp2_with fail
      refine (H2.out _).mono ?_
      rintro e w2 ⟨rfl, hb2⟩
      have HB2 : Hid (Below w.heap.size w w2) := HB1.out.trans (hb2.mono HB1.out.size)
      clear hb2
      go_wp2_with fail
      refine (H3.out _).mono ?_
      rintro e w4 ⟨rfl, hb4⟩
      have HB4 : Hid (Below w.heap.size w w4) := HB2.out.trans (hb4.mono HB2.out.size)
      clear hb4
      go_wp2_with fail
      refine (known_any _).mono ?_
      rintro e w3 ⟨rfl, hb3⟩
      have HB3 : Hid (Below w.heap.size w w3) := HB4.out.trans (hb3.mono HB4.out.size)
      clear hb3
      go_wp2
      go_ret
      exact ⟨rfl, HB3.out⟩
  · have hno : ¬ okB b ∨ isNumB n = false := by
      by_cases hb : okB b
      · right
        cases hn : isNumB n
        · rfl
        · exact absurd ⟨hb, hn⟩ hok
      · exact .inl hb
    have H1 := Lib.hid (nSpell_no n b w hno)
    have H2 := Lib.hid (fun w => rSpell_no n b w hno)
    unfold SpP at H1 H2
    clear hT hD hok hno
    go_enter Tryd.func13, Tryd.ntmps13
    go_wp2_with fail
    refine (H1.out).mono ?_
    rintro e w1 ⟨rfl, hb1⟩
    have HB1 := Lib.hid hb1
    clear hb1
    go_wp2_with fail
    refine (H2.out _).mono ?_
    rintro e w2 ⟨rfl, hb2⟩
    have HB2 : Hid (Below w.heap.size w w2) := HB1.out.trans (hb2.mono HB1.out.size)
    clear hb2
    go_wp2_with fail
    refine (known_any _).mono ?_
    rintro e w3 ⟨rfl, hb3⟩
    have HB3 : Hid (Below w.heap.size w w3) := HB2.out.trans (hb3.mono HB2.out.size)
    clear hb3
    go_wp2
    go_ret
    exact ⟨rfl, HB3.out⟩

end Go.Proofs.YtmlifgngdilplaaDoor
