/-
  The walk of NumDivides: the number is the divisor times the quotient, and the remainder. No condition.
-/
import Derived.Test.YtmlifgngdilplaaDoorKnown
import Derived.Test.YtmlifgngdilplaaDoorRows
namespace Go.Proofs.YtmlifgngdilplaaDoor
open Go.RowKit

theorem tmod_neg {a b : Int} (h : a.tmod b ≠ 0) : decide (a.tmod b < 0) = decide (a < 0) := by
  by_cases h0 : 0 ≤ a
  · have := Int.tmod_nonneg b h0
    simp; omega
  · have h1 := Int.tmod_nonneg b (show 0 ≤ -a by omega)
    rw [Int.neg_tmod] at h1
    simp; omega
theorem tmod_size {a b : Int} (hn : b ≠ 0) : (a.tmod b).natAbs < b.natAbs := by
  rw [Int.natAbs_tmod]
  exact Nat.mod_lt _ (by omega)

theorem quo_rem {a b : Int} : b * quoI a b + remI a b = a := by
  have h1 := Int.tmod_add_mul_tdiv a b
  unfold quoI remI
  by_cases hm : a.tmod b = 0
  · simp [hm]; omega
  · rw [tmod_neg hm]
    by_cases hs : decide (a < 0) = decide (b < 0)
    · simp [hs]; omega
    · rw [if_pos ⟨hm, hs⟩, if_pos ⟨hm, hs⟩, Int.mul_sub, Int.mul_one]; omega
theorem rem_small {a b : Int} (hn : b ≠ 0) : remI a b = 0 ∨ (remI a b ≠ 0 ∧ (0 < remI a b ↔ 0 < b) ∧ sizeI (remI a b) < sizeI b) := by
  have h2 := tmod_size (a := a) hn
  unfold remI
  by_cases hm : a.tmod b = 0
  · left; simp [hm]
  · right
    by_cases hs : decide (a.tmod b < 0) = decide (b < 0)
    · rw [if_neg (fun h => h.2 hs)]
      have hs' : (a.tmod b < 0) ↔ (b < 0) := by simpa using hs
      generalize a.tmod b = m at *
      refine ⟨hm, by omega, ?_⟩
      unfold sizeI; split <;> split <;> omega
    · rw [if_pos ⟨hm, hs⟩]
      have hs' : ¬ ((a.tmod b < 0) ↔ (b < 0)) := by simpa using hs
      generalize a.tmod b = m at *
      refine ⟨by omega, by omega, ?_⟩
      unfold sizeI; split <;> split <;> omega
theorem quo_bd {a b : Int} (ha : inR a) (hn : b ≠ 0) : inR (quoI a b) := by
  have h1 := Int.tmod_add_mul_tdiv a b
  have h3 : (a.tdiv b).natAbs = a.natAbs / b.natAbs := Int.natAbs_tdiv a b
  obtain ⟨a1, a2⟩ := ha
  obtain ⟨q1, q2⟩ := tdiv_bd (a := a) (b := b) ⟨a1, a2⟩
  unfold quoI
  by_cases hm : a.tmod b = 0
  · simp [hm]; exact ⟨q1, q2⟩
  · have hb2 : 2 ≤ b.natAbs := by
      have := tmod_size (a := a) hn
      omega
    have h4 : a.natAbs / b.natAbs ≤ a.natAbs / 2 := Nat.div_le_div_left hb2 (by omega)
    clear h1 q1 q2 hm
    generalize a.tdiv b = q at *
    generalize a.natAbs / b.natAbs = d at *
    split <;> constructor <;> omega
theorem rem_bd {a b : Int} (hb : inR b) (hn : b ≠ 0) : inR (remI a b) := by
  have h := rem_small (a := a) hn
  obtain ⟨b1, b2⟩ := hb
  unfold sizeI at h
  rcases h with h | ⟨_, _, h⟩
  · rw [h]; constructor <;> omega
  · constructor <;> (split at h <;> split at h <;> omega)

theorem div_bad {a b : Int} (h : ¬ (isNumB a = true ∧ isNumB b = true)) : doN 3 a b = 0 ∧ doE 3 a b = 1 ∧ doN 4 a b = 0 ∧ doE 4 a b = 1 := by
  have hall : ∀ op : Int, ¬ (0 ≤ op ∧ op ≤ 8 ∧ isNumB a = true ∧ isNumB b = true) := fun op h' => h h'.2.2
  unfold doN doE
  exact ⟨if_neg (hall 3), if_neg (hall 3), if_neg (hall 4), if_neg (hall 4)⟩
theorem div_zero {a b : Int} (h : isNumB a = true ∧ isNumB b = true) (hb : b = 0) : doN 3 a b = 0 ∧ doW 3 a b = 2 ∧ doE 3 a b = 0 ∧ doN 4 a b = 0 ∧ doW 4 a b = 2 ∧ doE 4 a b = 0 := by
  subst hb
  unfold doN doE doW
  rw [if_pos ⟨by decide, by decide, h⟩, if_pos ⟨by decide, by decide, h⟩, if_pos ⟨by decide, by decide, h⟩, if_pos ⟨by decide, by decide, h⟩, if_pos ⟨by decide, by decide, h⟩, if_pos ⟨by decide, by decide, h⟩]
  exact ⟨rfl, rfl, rfl, rfl, rfl, rfl⟩
theorem div_good {a b : Int} (h : isNumB a = true ∧ isNumB b = true) (hb : b ≠ 0) : doN 3 a b = quoI a b ∧ doW 3 a b = 0 ∧ doE 3 a b = 0 ∧ doN 4 a b = remI a b ∧ doW 4 a b = 0 ∧ doE 4 a b = 0 := by
  have hq := isNumB_of (quo_bd (inR_iff.1 h.1) hb)
  have hr := isNumB_of (rem_bd (a := a) (inR_iff.1 h.2) hb)
  have e3 : opVal 3 a b = quoI a b := rfl
  have e4 : opVal 4 a b = remI a b := rfl
  have r3 : opRef 3 a b = false := by simp [opRef, hb]
  have r4 : opRef 4 a b = false := by simp [opRef, hb]
  unfold doN doE doW
  rw [if_pos ⟨by decide, by decide, h⟩, if_pos ⟨by decide, by decide, h⟩, if_pos ⟨by decide, by decide, h⟩, if_pos ⟨by decide, by decide, h⟩, if_pos ⟨by decide, by decide, h⟩, if_pos ⟨by decide, by decide, h⟩]
  refine ⟨?_, ?_, rfl, ?_, ?_, rfl⟩
  · show ckN (opRef 3 a b) (opVal 3 a b) = _; rw [r3, e3]; simp [ckN, hq]
  · show ckW (opRef 3 a b) (opWhy 3) (opVal 3 a b) = _; rw [r3, e3]; simp [ckW, hq]
  · show ckN (opRef 4 a b) (opVal 4 a b) = _; rw [r4, e4]; simp [ckN, hr]
  · show ckW (opRef 4 a b) (opWhy 4) (opVal 4 a b) = _; rw [r4, e4]; simp [ckW, hr]

def threes (n why err : Int) : Ending := .returned (.tuple #[.int .i64 n, .int .i64 why, .int .i64 err])

set_option maxHeartbeats 400000 in
theorem divides_bad (a b : Int) (w : World) (h : ¬ (isNumB a = true ∧ isNumB b = true)) : Calls Tryd.prog 6 #[.int .i64 a, .int .i64 b] w (KnownPost w) := by
  obtain ⟨e1, e2, e3, e4⟩ := div_bad h
  have h1 := fun w => Do_any 3 a b w
  have h2 := fun w => Do_any 4 a b w
  rw [e1, e2] at h1
  rw [e3, e4] at h2
  have H1 := Lib.hid h1
  have H2 := Lib.hid h2
  clear h1 h2 e1 e2 e3 e4 h
  generalize doW 3 a b = y1 at *
  generalize doW 4 a b = y2 at *
  go_enter Tryd.func6, Tryd.ntmps6
  go_wp2_with fail
  refine (H1.out _).mono ?_
  rintro e w1 ⟨he, hb1⟩
  unfold three at he
  subst he
  have HB1 := Lib.hid hb1
  clear hb1
  go_wp2_with fail
  refine (H2.out _).mono ?_
  rintro e w2 ⟨he, hb2⟩
  unfold three at he
  subst he
  have HB2 : Hid (Below w.heap.size w w2) := HB1.out.trans (hb2.mono HB1.out.size)
  clear hb2
  go_wp2_with fail
  refine (known_any _).mono ?_
  rintro e w3 ⟨rfl, hb3⟩
  have HB3 : Hid (Below w.heap.size w w3) := HB2.out.trans (hb3.mono HB2.out.size)
  clear hb3
  go_wp2
  go_ret
  exact ⟨rfl, HB3.out⟩

set_option maxHeartbeats 400000 in
theorem divides_zero (a b : Int) (w : World) (h : isNumB a = true ∧ isNumB b = true) (hb : b = 0) : Calls Tryd.prog 6 #[.int .i64 a, .int .i64 b] w (KnownPost w) := by
  obtain ⟨e1, e2, e3, e4, e5, e6⟩ := div_zero h hb
  have h1 := fun w => Do_any 3 a b w
  have h2 := fun w => Do_any 4 a b w
  rw [e1, e2, e3] at h1
  rw [e4, e5, e6] at h2
  have H1 := Lib.hid h1
  have H2 := Lib.hid h2
  have hz : (b == 0) = true := by simp [hb]
  clear h1 h2 e1 e2 e3 e4 e5 e6 h hb
  go_enter Tryd.func6, Tryd.ntmps6
  go_wp2_with fail
  refine (H1.out _).mono ?_
  rintro e w1 ⟨he, hb1⟩
  unfold three at he
  subst he
  have HB1 := Lib.hid hb1
  clear hb1
  go_wp2_with fail
  refine (H2.out _).mono ?_
  rintro e w2 ⟨he, hb2⟩
  unfold three at he
  subst he
  have HB2 : Hid (Below w.heap.size w w2) := HB1.out.trans (hb2.mono HB1.out.size)
  clear hb2
  go_wp2_with fail
  refine (known_any _).mono ?_
  rintro e w3 ⟨rfl, hb3⟩
  have HB3 : Hid (Below w.heap.size w w3) := HB2.out.trans (hb3.mono HB2.out.size)
  clear hb3
  go_wp2
  go_ret
  exact ⟨rfl, HB3.out⟩

set_option maxHeartbeats 800000 in
theorem divides_good (a b : Int) (w : World) (h : isNumB a = true ∧ isNumB b = true) (hb : b ≠ 0) : Calls Tryd.prog 6 #[.int .i64 a, .int .i64 b] w (KnownPost w) := by
  obtain ⟨e1, e2, e3, e4, e5, e6⟩ := div_good h hb
  have h1 := fun w => Do_any 3 a b w
  have h2 := fun w => Do_any 4 a b w
  rw [e1, e2, e3] at h1
  rw [e4, e5, e6] at h2
  have H1 := Lib.hid h1
  have H2 := Lib.hid h2
  have hz : (b == 0) = false := by simp [hb]
  obtain ⟨a1, a2⟩ := inR_iff.1 h.1
  obtain ⟨b1, b2⟩ := inR_iff.1 h.2
  have hqr := quo_rem (a := a) (b := b)
  have hrs := rem_small (a := a) hb
  obtain ⟨r1, r2⟩ := rem_bd (a := a) (inR_iff.1 h.2) hb
  clear h1 h2 e1 e2 e3 e4 e5 e6 h
  generalize quoI a b = Q at *
  generalize remI a b = R at *
  have m1 : -18014398509481984 ≤ b * Q := by omega
  have m2 : b * Q ≤ 18014398509481984 := by omega
  have hbq : IntKind.i64.wrap (b * Q) = b * Q := IntWalk.i64_in _ (by omega)
  have heq : (b * Q + R == a) = true := by simp [hqr]
  clear hqr
  rcases hrs with hr0 | ⟨hr0, hrs, hrz⟩
  · have hr0' : (R == 0) = true := by simp [hr0]
    clear hr0
    go_enter Tryd.func6, Tryd.ntmps6
    go_wp2_with fail
    refine (H1.out _).mono ?_
    rintro e w1 ⟨he, hb1⟩
    unfold three at he
    subst he
    have HB1 := Lib.hid hb1
    clear hb1
    go_wp2_with fail
    refine (H2.out _).mono ?_
    rintro e w2 ⟨he, hb2⟩
    unfold three at he
    subst he
    have HB2 : Hid (Below w.heap.size w w2) := HB1.out.trans (hb2.mono HB1.out.size)
    clear hb2
    go_wp2_with fail
    refine (known_any _).mono ?_
    rintro e w3 ⟨rfl, hb3⟩
    have HB3 : Hid (Below w.heap.size w w3) := HB2.out.trans (hb3.mono HB2.out.size)
    clear hb3
    go_wp2
    go_ret
    exact ⟨rfl, HB3.out⟩
  · have hr0' : (R == 0) = false := by simp [hr0]
    have hdd : (decide (0 < R) == decide (0 < b)) = true := by simp [hrs]
    clear hr0 hrs
    go_enter Tryd.func6, Tryd.ntmps6
    go_wp2_with fail
    refine (H1.out _).mono ?_
    rintro e w1 ⟨he, hb1⟩
    unfold three at he
    subst he
    have HB1 := Lib.hid hb1
    clear hb1
    go_wp2_with fail
    refine (H2.out _).mono ?_
    rintro e w2 ⟨he, hb2⟩
    unfold three at he
    subst he
    have HB2 : Hid (Below w.heap.size w w2) := HB1.out.trans (hb2.mono HB1.out.size)
    clear hb2
    go_wp2_with fail
    refine (Size_any R _ (by omega) (by omega)).mono ?_
    rintro e w' ⟨rfl, rfl⟩
    go_wp2_with fail
    refine (Size_any b _ (by omega) (by omega)).mono ?_
    rintro e w' ⟨rfl, rfl⟩
    go_wp2_with fail
    refine (known_any _).mono ?_
    rintro e w3 ⟨rfl, hb3⟩
    have HB3 : Hid (Below w.heap.size w w3) := HB2.out.trans (hb3.mono HB2.out.size)
    clear hb3
    go_wp2
    go_ret
    exact ⟨rfl, HB3.out⟩

theorem numDivides_walk (a : Int) (_w0 : (Lit.int .i64 a).wf = true) (b : Int) (_w1 : (Lit.int .i64 b).wf = true) (w : World) : Calls Tryd.prog 6 #[.int .i64 a, .int .i64 b] w (KnownPost w) := by
  by_cases h : isNumB a = true ∧ isNumB b = true
  · by_cases hb : b = 0
    · exact divides_zero a b w h hb
    · exact divides_good a b w h hb
  · exact divides_bad a b w h

end Go.Proofs.YtmlifgngdilplaaDoor
