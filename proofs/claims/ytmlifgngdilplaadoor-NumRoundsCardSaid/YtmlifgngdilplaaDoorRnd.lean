/-
  The walk of NumRounds: num.Round and the document's Round agree. No condition.
-/
import Derived.Test.YtmlifgngdilplaaDoorKnown
import Derived.Test.YtmlifgngdilplaaDoorRows
namespace Go.Proofs.YtmlifgngdilplaaDoor
open Go.RowKit

def rndV (k m : Int) : Int := if m - k % m ≤ k % m then k - k % m + m else k - k % m
def rndOk (n m : Int) : Bool := isNumB n && decide (1 ≤ m) && decide (m ≤ 9007199254740992)
def rndN (n m : Int) : Int := if rndOk n m then (if 9007199254740992 < rndV (sizeI n) m then 0 else if n < 0 then -rndV (sizeI n) m else rndV (sizeI n) m) else 0
def rndE (n m : Int) : Int := if rndOk n m then (if 9007199254740992 < rndV (sizeI n) m then 3 else 0) else 1
def two (n e : Int) : Ending := .returned (.tuple #[.int .i64 n, .int .i64 e])

theorem rnd_bad {n m : Int} (h : rndOk n m = false) : rndN n m = 0 ∧ rndE n m = 1 := by simp [rndN, rndE, h]
theorem rndOk_iff {n m : Int} : rndOk n m = true ↔ isNumB n = true ∧ 1 ≤ m ∧ m ≤ 9007199254740992 := by
  simp [rndOk, and_assoc]
theorem rnd_facts {k m : Int} (h0 : 0 ≤ k) (h1 : 1 ≤ m) : 0 ≤ k % m ∧ k % m < m ∧ k % m ≤ k ∧ k / m * m = k - k % m := by
  have h2 := Int.emod_nonneg k (show m ≠ 0 by omega)
  have h3 := Int.emod_lt_of_pos k (show 0 < m by omega)
  have h4 := Int.ediv_mul_add_emod k m
  have h5 : 0 ≤ k / m := Int.ediv_nonneg h0 (by omega)
  have h6 : 0 ≤ k / m * m := Int.mul_nonneg h5 (by omega)
  omega

theorem Round_bad (n m : Int) (w : World) (h : rndOk n m = false) : Calls Tryd.prog 45 #[.int .i64 n, .int .i64 m] w fun e w' => e = two 0 1 ∧ w = w' := by
  cases hn : isNumB n
  · have HN := Lib.hid hn
    clear hn h
    go_enter Tryd.func45, Tryd.ntmps45
    go_wp2_with fail
    refine (isNumber_any n _).mono ?_
    rintro e w' ⟨rfl, rfl⟩
    rw [HN.out]
    go_wp2
    go_ret2
    exact ⟨rfl, rfl⟩
  · have h2 : ¬ (1 ≤ m ∧ m ≤ 9007199254740992) := fun hh => by
      rw [rndOk_iff.2 ⟨hn, hh⟩] at h
      cases h
    have HN := Lib.hid hn
    clear hn h
    by_cases h1 : m < 1
    · clear h2
      go_enter Tryd.func45, Tryd.ntmps45
      go_wp2_with fail
      refine (isNumber_any n _).mono ?_
      rintro e w' ⟨rfl, rfl⟩
      rw [HN.out]
      go_wp2
      go_ret2
      exact ⟨rfl, rfl⟩
    · have h3 : 9007199254740992 < m := by omega
      clear h2
      go_enter Tryd.func45, Tryd.ntmps45
      go_wp2_with fail
      refine (isNumber_any n _).mono ?_
      rintro e w' ⟨rfl, rfl⟩
      rw [HN.out]
      go_wp2
      go_ret2
      exact ⟨rfl, rfl⟩

theorem Round_good (n m : Int) (w : World) (h : rndOk n m = true) : Calls Tryd.prog 45 #[.int .i64 n, .int .i64 m] w fun e w' => e = two (rndN n m) (rndE n m) ∧ w = w' := by
  obtain ⟨h1, h2, h3⟩ := rndOk_iff.1 h
  have hn := inR_iff.1 h1
  obtain ⟨k1, k2⟩ := sizeI_bd hn
  obtain ⟨m1, m2, m3, m4⟩ := rnd_facts k1 h2
  obtain ⟨n1, n2⟩ := hn
  have HN := Lib.hid h1
  have H75 := Lib.hid (fun w => size_any n w (by omega) (by omega))
  have HF : two (rndN n m) (rndE n m) = two (if 9007199254740992 < rndV (sizeI n) m then 0 else if n < 0 then -rndV (sizeI n) m else rndV (sizeI n) m) (if 9007199254740992 < rndV (sizeI n) m then 3 else 0) := by
    simp [rndN, rndE, h]
  clear h h1 m4
  rw [HF]
  clear HF
  unfold rndV
  generalize sizeI n = K at *
  by_cases hc : m - K % m ≤ K % m
  · rw [if_pos hc]
    by_cases hl : 9007199254740992 < K - K % m + m
    · rw [if_pos hl, if_pos hl]
      go_enter Tryd.func45, Tryd.ntmps45
      go_wp2_with fail
      refine (isNumber_any n _).mono ?_
      rintro e w' ⟨rfl, rfl⟩
      rw [HN.out]
      go_wp2_with fail
      refine (H75.out _).mono ?_
      rintro e w' ⟨rfl, rfl⟩
      go_wp2_with fail
      refine (H75.out _).mono ?_
      rintro e w' ⟨rfl, rfl⟩
      go_wp2
      go_ret2
      exact ⟨rfl, rfl⟩
    · rw [if_neg hl, if_neg hl]
      by_cases hneg : n < 0
      all_goals
        first | rw [if_pos hneg] | rw [if_neg hneg]
        go_enter Tryd.func45, Tryd.ntmps45
        go_wp2_with fail
        refine (isNumber_any n _).mono ?_
        rintro e w' ⟨rfl, rfl⟩
        rw [HN.out]
        go_wp2_with fail
        refine (H75.out _).mono ?_
        rintro e w' ⟨rfl, rfl⟩
        go_wp2_with fail
        refine (H75.out _).mono ?_
        rintro e w' ⟨rfl, rfl⟩
        go_wp2
        go_ret2
        exact ⟨rfl, rfl⟩
  · rw [if_neg hc]
    have hl : ¬ 9007199254740992 < K - K % m := by omega
    rw [if_neg hl, if_neg hl]
    by_cases hneg : n < 0
    all_goals
      first | rw [if_pos hneg] | rw [if_neg hneg]
      go_enter Tryd.func45, Tryd.ntmps45
      go_wp2_with fail
      refine (isNumber_any n _).mono ?_
      rintro e w' ⟨rfl, rfl⟩
      rw [HN.out]
      go_wp2_with fail
      refine (H75.out _).mono ?_
      rintro e w' ⟨rfl, rfl⟩
      go_wp2_with fail
      refine (H75.out _).mono ?_
      rintro e w' ⟨rfl, rfl⟩
      go_wp2
      go_ret2
      exact ⟨rfl, rfl⟩

theorem rRound_bad (n m : Int) (w : World) (h : rndOk n m = false) : Calls Tryd.prog 46 #[.int .i64 n, .int .i64 m] w fun e w' => e = two 0 1 ∧ w = w' := by
  cases hn : isNumB n
  · have HN := Lib.hid hn
    clear hn h
    go_enter Tryd.func46, Tryd.ntmps46
    go_wp2_with fail
    refine (IsNum_any n _).mono ?_
    rintro e w' ⟨rfl, rfl⟩
    rw [HN.out]
    go_wp2
    go_ret2
    exact ⟨rfl, rfl⟩
  · have h2 : ¬ (1 ≤ m ∧ m ≤ 9007199254740992) := fun hh => by
      rw [rndOk_iff.2 ⟨hn, hh⟩] at h
      cases h
    have HN := Lib.hid hn
    clear hn h
    by_cases h1 : m < 1
    · clear h2
      go_enter Tryd.func46, Tryd.ntmps46
      go_wp2_with fail
      refine (IsNum_any n _).mono ?_
      rintro e w' ⟨rfl, rfl⟩
      rw [HN.out]
      go_wp2
      go_ret2
      exact ⟨rfl, rfl⟩
    · have h3 : 9007199254740992 < m := by omega
      clear h2
      go_enter Tryd.func46, Tryd.ntmps46
      go_wp2_with fail
      refine (IsNum_any n _).mono ?_
      rintro e w' ⟨rfl, rfl⟩
      rw [HN.out]
      go_wp2
      go_ret2
      exact ⟨rfl, rfl⟩

theorem rRound_good (n m : Int) (w : World) (h : rndOk n m = true) : Calls Tryd.prog 46 #[.int .i64 n, .int .i64 m] w fun e w' => e = two (rndN n m) (rndE n m) ∧ w = w' := by
  obtain ⟨h1, h2, h3⟩ := rndOk_iff.1 h
  have hn := inR_iff.1 h1
  obtain ⟨k1, k2⟩ := sizeI_bd hn
  obtain ⟨m1, m2, m3, m4⟩ := rnd_facts k1 h2
  obtain ⟨n1, n2⟩ := hn
  have HN := Lib.hid h1
  have H29 := Lib.hid (fun w => Size_any n w (by omega) (by omega))
  have HF : two (rndN n m) (rndE n m) = two (if 9007199254740992 < rndV (sizeI n) m then 0 else if n < 0 then -rndV (sizeI n) m else rndV (sizeI n) m) (if 9007199254740992 < rndV (sizeI n) m then 3 else 0) := by
    simp [rndN, rndE, h]
  clear h h1
  rw [HF]
  clear HF
  unfold rndV
  generalize sizeI n = K at *
  have M4 := Lib.hid m4
  have l1 : 0 ≤ K / m * m := by omega
  have l2 : K / m * m ≤ K := by omega
  have hw : IntKind.i64.wrap (K / m * m) = K / m * m := IntWalk.i64_in _ (by omega)
  have hr : K - K % m = K / m * m := by omega
  have hm : K % m = K - K / m * m := by omega
  rw [hr, hm]
  clear m4 hr hm
  by_cases hc : m ≤ 2 * (K - K / m * m)
  · have hc' : m - (K - K / m * m) ≤ K - K / m * m := by omega
    rw [if_pos hc']
    clear hc'
    by_cases hl : 9007199254740992 < K / m * m + m
    · rw [if_pos hl, if_pos hl]
      go_enter Tryd.func46, Tryd.ntmps46
      go_wp2_with fail
      refine (IsNum_any n _).mono ?_
      rintro e w' ⟨rfl, rfl⟩
      rw [HN.out]
      go_wp2_with fail
      refine (H29.out _).mono ?_
      rintro e w' ⟨rfl, rfl⟩
      go_wp2
      go_ret2
      exact ⟨rfl, rfl⟩
    · rw [if_neg hl, if_neg hl]
      by_cases hneg : n < 0
      all_goals
        first | rw [if_pos hneg] | rw [if_neg hneg]
        go_enter Tryd.func46, Tryd.ntmps46
        go_wp2_with fail
        refine (IsNum_any n _).mono ?_
        rintro e w' ⟨rfl, rfl⟩
        rw [HN.out]
        go_wp2_with fail
        refine (H29.out _).mono ?_
        rintro e w' ⟨rfl, rfl⟩
        go_wp2
        go_ret2
        exact ⟨rfl, rfl⟩
  · have hc' : ¬ (m - (K - K / m * m) ≤ K - K / m * m) := by omega
    rw [if_neg hc']
    clear hc'
    have hl : ¬ 9007199254740992 < K / m * m := by omega
    rw [if_neg hl, if_neg hl]
    by_cases hneg : n < 0
    all_goals
      first | rw [if_pos hneg] | rw [if_neg hneg]
      go_enter Tryd.func46, Tryd.ntmps46
      go_wp2_with fail
      refine (IsNum_any n _).mono ?_
      rintro e w' ⟨rfl, rfl⟩
      rw [HN.out]
      go_wp2_with fail
      refine (H29.out _).mono ?_
      rintro e w' ⟨rfl, rfl⟩
      go_wp2
      go_ret2
      exact ⟨rfl, rfl⟩

theorem Round_any (n m : Int) (w : World) : Calls Tryd.prog 45 #[.int .i64 n, .int .i64 m] w fun e w' => e = two (rndN n m) (rndE n m) ∧ w = w' := by
  cases h : rndOk n m
  · rw [(rnd_bad h).1, (rnd_bad h).2]; exact Round_bad n m w h
  · exact Round_good n m w h
theorem rRound_any (n m : Int) (w : World) : Calls Tryd.prog 46 #[.int .i64 n, .int .i64 m] w fun e w' => e = two (rndN n m) (rndE n m) ∧ w = w' := by
  cases h : rndOk n m
  · rw [(rnd_bad h).1, (rnd_bad h).2]; exact rRound_bad n m w h
  · exact rRound_good n m w h

theorem numRounds_walk (a : Int) (_w0 : (Lit.int .i64 a).wf = true) (b : Int) (_w1 : (Lit.int .i64 b).wf = true) (w : World) : Calls Tryd.prog 14 #[.int .i64 a, .int .i64 b] w (KnownPost w) := by
  have H1 := Lib.hid (Round_any a b)
  have H2 := Lib.hid (rRound_any a b)
  clear _w0 _w1
  unfold two at H1 H2
  generalize rndN a b = N at *
  generalize rndE a b = E at *
  go_enter Tryd.func14, Tryd.ntmps14
  go_wp2_with fail
  refine (H1.out _).mono ?_
  rintro e w' ⟨rfl, rfl⟩
  go_wp2_with fail
  refine (H2.out _).mono ?_
  rintro e w' ⟨rfl, rfl⟩
  go_wp2_with fail
  refine (known_any _).mono ?_
  rintro e w3 ⟨rfl, hb3⟩
  have HB3 := Lib.hid hb3
  clear hb3
  go_wp2
  go_ret
  exact ⟨rfl, HB3.out⟩

end Go.Proofs.YtmlifgngdilplaaDoor
