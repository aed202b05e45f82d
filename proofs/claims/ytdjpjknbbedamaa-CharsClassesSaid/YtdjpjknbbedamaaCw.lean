/-
  The document's isLetter, IsWord. No condition.
-/
import Derived.Test.YtdjpjknbbedamaaCr
namespace Go.Proofs.Ytdjpjknbbedamaa
open Go.RowKit

theorem le_iff (c : Int) : inS (clS 2) c = true ↔ (65 ≤ c ∧ c ≤ 90) ∨ (97 ≤ c ∧ c ≤ 122) ∨ (170 ≤ c ∧ c ≤ 170) ∨ (181 ≤ c ∧ c ≤ 181) ∨ (186 ≤ c ∧ c ≤ 186) ∨ (192 ≤ c ∧ c ≤ 214) ∨ (216 ≤ c ∧ c ≤ 246) ∨ (248 ≤ c ∧ c ≤ 255) ∨ (329 ≤ c ∧ c ≤ 329) ∨ (383 ≤ c ∧ c ≤ 383) ∨ (700 ≤ c ∧ c ≤ 700) ∨ (913 ≤ c ∧ c ≤ 929) ∨ (931 ≤ c ∧ c ≤ 937) ∨ (945 ≤ c ∧ c ≤ 969) ∨ (1040 ≤ c ∧ c ≤ 1103) ∨ (7838 ≤ c ∧ c ≤ 7838) ∨ (8490 ≤ c ∧ c ≤ 8491) ∨ (64256 ≤ c ∧ c ≤ 64262) := by
  simp [inS, clS]
theorem wo_iff (c : Int) : inS (clS 6) c = true ↔ (48 ≤ c ∧ c ≤ 57) ∨ (65 ≤ c ∧ c ≤ 90) ∨ (95 ≤ c ∧ c ≤ 95) ∨ (97 ≤ c ∧ c ≤ 122) ∨ (170 ≤ c ∧ c ≤ 170) ∨ (181 ≤ c ∧ c ≤ 181) ∨ (186 ≤ c ∧ c ≤ 186) ∨ (192 ≤ c ∧ c ≤ 214) ∨ (216 ≤ c ∧ c ≤ 246) ∨ (248 ≤ c ∧ c ≤ 255) ∨ (329 ≤ c ∧ c ≤ 329) ∨ (383 ≤ c ∧ c ≤ 383) ∨ (700 ≤ c ∧ c ≤ 700) ∨ (768 ≤ c ∧ c ≤ 879) ∨ (913 ≤ c ∧ c ≤ 929) ∨ (931 ≤ c ∧ c ≤ 937) ∨ (945 ≤ c ∧ c ≤ 969) ∨ (1040 ≤ c ∧ c ≤ 1103) ∨ (1632 ≤ c ∧ c ≤ 1641) ∨ (7838 ≤ c ∧ c ≤ 7838) ∨ (8490 ≤ c ∧ c ≤ 8491) ∨ (64256 ≤ c ∧ c ≤ 64262) := by
  simp [inS, clS]

theorem le_of (c : Int) : inS (clS 2) c = (inS (clS 0) c || inS (clS 1) c || decide (c = 170) || decide (c = 186) || decide (c = 700)) := by
  rw [Bool.eq_iff_iff]
  simp only [Bool.or_eq_true, decide_eq_true_eq, le_iff, up_iff, lo_iff]
  omega
theorem wo_of (c : Int) : inS (clS 6) c = (inS (clS 2) c || inS (clS 3) c || inS (clS 4) c || decide (c = 95)) := by
  rw [Bool.eq_iff_iff]
  simp only [Bool.or_eq_true, decide_eq_true_eq, le_iff, wo_iff, di_iff, ma_iff]
  omega

set_option maxRecDepth 100000 in
set_option maxHeartbeats 4000000 in
theorem isLetter_any (c : Int) (w : World) : Calls Try.prog 77 #[.int .i64 c] w (BoolS (inS (clS 2) c) w) := by
  have H1 := Lib.hid (fun w => isUpper_any c w)
  have H2 := Lib.hid (fun w => isLower_any c w)
  have HP : Hid (∀ (b : Bool) w, b = inS (clS 2) c → BoolS (inS (clS 2) c) w (.returned (.bool b)) w) := fun b w h => by
    rw [h]
    exact ⟨rfl, rfl⟩
  have HS := Lib.hid (le_of c)
  generalize inS (clS 2) c = Z at *
  generalize inS (clS 0) c = x at *
  generalize inS (clS 1) c = y at *
  cases x
  · cases y
    · by_cases h1 : c = 170
      · subst h1
        go_enter Try.func77, Try.ntmps77
        go_wp2_with fail
        refine (H1.out _).mono ?_
        rintro e w' ⟨rfl, rfl⟩
        go_wp2_with fail
        refine (H2.out _).mono ?_
        rintro e w' ⟨rfl, rfl⟩
        go_wp2
        go_ret
        exact HP.out _ _ HS.out.symm
      by_cases h2 : c = 186
      · subst h2
        go_enter Try.func77, Try.ntmps77
        go_wp2_with fail
        refine (H1.out _).mono ?_
        rintro e w' ⟨rfl, rfl⟩
        go_wp2_with fail
        refine (H2.out _).mono ?_
        rintro e w' ⟨rfl, rfl⟩
        go_wp2
        go_ret
        exact HP.out _ _ HS.out.symm
      have e1 : (c == 170) = false := by rw [beq_eq_false_iff_ne]; exact h1
      have e2 : (c == 186) = false := by rw [beq_eq_false_iff_ne]; exact h2
      have HZ : Hid ((c == 700) = Z) := by
        show _ = _
        rw [HS.out]
        rw [decide_eq_false h1, decide_eq_false h2]
        by_cases h3 : c = 700
        · subst h3
          rfl
        · rw [decide_eq_false h3, beq_eq_false_iff_ne.2 h3]
          rfl
      clear h1 h2 HS
      go_enter Try.func77, Try.ntmps77
      go_wp2_with fail
      refine (H1.out _).mono ?_
      rintro e w' ⟨rfl, rfl⟩
      go_wp2_with fail
      refine (H2.out _).mono ?_
      rintro e w' ⟨rfl, rfl⟩
      go_wp2
      go_ret
      exact HP.out _ _ HZ.out
    · go_enter Try.func77, Try.ntmps77
      go_wp2_with fail
      refine (H1.out _).mono ?_
      rintro e w' ⟨rfl, rfl⟩
      go_wp2_with fail
      refine (H2.out _).mono ?_
      rintro e w' ⟨rfl, rfl⟩
      go_wp2
      go_ret
      exact HP.out _ _ HS.out.symm
  · have HZ : Hid (true = Z) := by
      show _ = _
      rw [HS.out]
      rfl
    go_enter Try.func77, Try.ntmps77
    go_wp2_with fail
    refine (H1.out _).mono ?_
    rintro e w' ⟨rfl, rfl⟩
    go_wp2
    go_ret
    exact HP.out _ _ HZ.out

set_option maxRecDepth 100000 in
set_option maxHeartbeats 4000000 in
theorem IsWord_any (c : Int) (w : World) : Calls Try.prog 81 #[.int .i64 c] w (BoolS (inS (clS 6) c) w) := by
  have H1 := Lib.hid (fun w => isLetter_any c w)
  have H2 := Lib.hid (fun w => isDigit_any c w)
  have H3 := Lib.hid (fun w => isMark_any c w)
  have HP : Hid (∀ (b : Bool) w, b = inS (clS 6) c → BoolS (inS (clS 6) c) w (.returned (.bool b)) w) := fun b w h => by
    rw [h]
    exact ⟨rfl, rfl⟩
  have HS := Lib.hid (wo_of c)
  generalize inS (clS 6) c = Z at *
  generalize inS (clS 2) c = x at *
  generalize inS (clS 3) c = y at *
  generalize inS (clS 4) c = z at *
  cases x
  · cases y
    · cases z
      · have HZ : Hid ((c == 95) = Z) := by
          show _ = _
          rw [HS.out]
          by_cases h3 : c = 95
          · subst h3
            rfl
          · rw [decide_eq_false h3, beq_eq_false_iff_ne.2 h3]
            rfl
        clear HS
        go_enter Try.func81, Try.ntmps81
        go_wp2_with fail
        refine (H1.out _).mono ?_
        rintro e w' ⟨rfl, rfl⟩
        go_wp2_with fail
        refine (H2.out _).mono ?_
        rintro e w' ⟨rfl, rfl⟩
        go_wp2_with fail
        refine (H3.out _).mono ?_
        rintro e w' ⟨rfl, rfl⟩
        go_wp2
        go_ret
        exact HP.out _ _ HZ.out
      · go_enter Try.func81, Try.ntmps81
        go_wp2_with fail
        refine (H1.out _).mono ?_
        rintro e w' ⟨rfl, rfl⟩
        go_wp2_with fail
        refine (H2.out _).mono ?_
        rintro e w' ⟨rfl, rfl⟩
        go_wp2_with fail
        refine (H3.out _).mono ?_
        rintro e w' ⟨rfl, rfl⟩
        go_wp2
        go_ret
        exact HP.out _ _ HS.out.symm
    · have HZ : Hid (true = Z) := by
        show _ = _
        rw [HS.out]
        rfl
      go_enter Try.func81, Try.ntmps81
      go_wp2_with fail
      refine (H1.out _).mono ?_
      rintro e w' ⟨rfl, rfl⟩
      go_wp2_with fail
      refine (H2.out _).mono ?_
      rintro e w' ⟨rfl, rfl⟩
      go_wp2
      go_ret
      exact HP.out _ _ HZ.out
  · have HZ : Hid (true = Z) := by
      show _ = _
      rw [HS.out]
      rfl
    go_enter Try.func81, Try.ntmps81
    go_wp2_with fail
    refine (H1.out _).mono ?_
    rintro e w' ⟨rfl, rfl⟩
    go_wp2
    go_ret
    exact HP.out _ _ HZ.out

end Go.Proofs.Ytdjpjknbbedamaa
