/-
  The document's classes: isUpper .. IsWord, In, IsClass. No condition.
-/
import Derived.Test.YtdjpjknbbedamaaIc
namespace Go.Proofs.Ytdjpjknbbedamaa
open Go.RowKit

def BoolS (b : Bool) (w : World) (e : Ending) (w' : World) : Prop := e = .returned (.bool b) ∧ w = w'
theorem up_iff (c : Int) : inS (clS 0) c = true ↔ (65 ≤ c ∧ c ≤ 90) ∨ (192 ≤ c ∧ c ≤ 214) ∨ (216 ≤ c ∧ c ≤ 222) ∨ (913 ≤ c ∧ c ≤ 929) ∨ (931 ≤ c ∧ c ≤ 937) ∨ (1040 ≤ c ∧ c ≤ 1071) ∨ (7838 ≤ c ∧ c ≤ 7838) ∨ (8490 ≤ c ∧ c ≤ 8491) := by
  simp [inS, clS]
set_option maxHeartbeats 4000000 in
theorem isUpper_any (c : Int) (w : World) : Calls Try.prog 75 #[.int .i64 c] w (BoolS (inS (clS 0) c) w) := by
  have HP : Hid (∀ (b : Bool) w, b = inS (clS 0) c → BoolS (inS (clS 0) c) w (.returned (.bool b)) w) := fun b w h => by
    rw [h]
    exact ⟨rfl, rfl⟩
  have HS := Lib.hid (up_iff c)
  generalize inS (clS 0) c = Z at *
  go_enter Try.func75, Try.ntmps75
  go_wp2
  all_goals
    go_ret
    refine HP.out _ _ ?_
    have hs := HS.out
    try simp only [bne_iff_ne, bne_eq_false_iff_eq, ne_eq] at *
    first
      | exact (hs.2 (by omega)).symm
      | exact (Bool.eq_false_iff.2 fun h => by have := hs.1 h; omega).symm
      | (rw [Bool.eq_iff_iff, hs]
         simp only [beq_iff_eq, Bool.or_eq_true]
         omega)
theorem lo_iff (c : Int) : inS (clS 1) c = true ↔ (97 ≤ c ∧ c ≤ 122) ∨ (181 ≤ c ∧ c ≤ 181) ∨ (223 ≤ c ∧ c ≤ 246) ∨ (248 ≤ c ∧ c ≤ 255) ∨ (329 ≤ c ∧ c ≤ 329) ∨ (383 ≤ c ∧ c ≤ 383) ∨ (945 ≤ c ∧ c ≤ 969) ∨ (1072 ≤ c ∧ c ≤ 1103) ∨ (64256 ≤ c ∧ c ≤ 64262) := by
  simp [inS, clS]
set_option maxHeartbeats 4000000 in
theorem isLower_any (c : Int) (w : World) : Calls Try.prog 76 #[.int .i64 c] w (BoolS (inS (clS 1) c) w) := by
  have HP : Hid (∀ (b : Bool) w, b = inS (clS 1) c → BoolS (inS (clS 1) c) w (.returned (.bool b)) w) := fun b w h => by
    rw [h]
    exact ⟨rfl, rfl⟩
  have HS := Lib.hid (lo_iff c)
  generalize inS (clS 1) c = Z at *
  go_enter Try.func76, Try.ntmps76
  go_wp2
  all_goals
    go_ret
    refine HP.out _ _ ?_
    have hs := HS.out
    try simp only [bne_iff_ne, bne_eq_false_iff_eq, ne_eq] at *
    first
      | exact (hs.2 (by omega)).symm
      | exact (Bool.eq_false_iff.2 fun h => by have := hs.1 h; omega).symm
      | (rw [Bool.eq_iff_iff, hs]
         simp only [beq_iff_eq, Bool.or_eq_true]
         omega)
theorem di_iff (c : Int) : inS (clS 3) c = true ↔ (48 ≤ c ∧ c ≤ 57) ∨ (1632 ≤ c ∧ c ≤ 1641) := by
  simp [inS, clS]
set_option maxHeartbeats 4000000 in
theorem isDigit_any (c : Int) (w : World) : Calls Try.prog 78 #[.int .i64 c] w (BoolS (inS (clS 3) c) w) := by
  have HP : Hid (∀ (b : Bool) w, b = inS (clS 3) c → BoolS (inS (clS 3) c) w (.returned (.bool b)) w) := fun b w h => by
    rw [h]
    exact ⟨rfl, rfl⟩
  have HS := Lib.hid (di_iff c)
  generalize inS (clS 3) c = Z at *
  go_enter Try.func78, Try.ntmps78
  go_wp2
  all_goals
    go_ret
    refine HP.out _ _ ?_
    have hs := HS.out
    try simp only [bne_iff_ne, bne_eq_false_iff_eq, beq_iff_eq, beq_eq_false_iff_ne, ne_eq, decide_eq_true_eq, Bool.and_eq_true, Bool.or_eq_true] at *
    first
      | exact (hs.2 (by omega)).symm
      | exact (Bool.eq_false_iff.2 fun h => by have := hs.1 h; omega).symm
      | (rw [Bool.eq_iff_iff, hs]
         simp only [decide_eq_true_eq, Bool.or_eq_true]
         omega)
theorem ma_iff (c : Int) : inS (clS 4) c = true ↔ (768 ≤ c ∧ c ≤ 879) := by
  simp [inS, clS]
set_option maxHeartbeats 4000000 in
theorem isMark_any (c : Int) (w : World) : Calls Try.prog 79 #[.int .i64 c] w (BoolS (inS (clS 4) c) w) := by
  have HP : Hid (∀ (b : Bool) w, b = inS (clS 4) c → BoolS (inS (clS 4) c) w (.returned (.bool b)) w) := fun b w h => by
    rw [h]
    exact ⟨rfl, rfl⟩
  have HS := Lib.hid (ma_iff c)
  generalize inS (clS 4) c = Z at *
  go_enter Try.func79, Try.ntmps79
  go_wp2
  all_goals
    go_ret
    refine HP.out _ _ ?_
    have hs := HS.out
    try simp only [bne_iff_ne, bne_eq_false_iff_eq, beq_iff_eq, beq_eq_false_iff_ne, ne_eq, decide_eq_true_eq, Bool.and_eq_true, Bool.or_eq_true] at *
    first
      | exact (hs.2 (by omega)).symm
      | exact (Bool.eq_false_iff.2 fun h => by have := hs.1 h; omega).symm
      | (rw [Bool.eq_iff_iff, hs]
         simp only [decide_eq_true_eq]
         omega)
theorem bl_iff (c : Int) : inS (clS 5) c = true ↔ (9 ≤ c ∧ c ≤ 13) ∨ (32 ≤ c ∧ c ≤ 32) ∨ (133 ≤ c ∧ c ≤ 133) ∨ (160 ≤ c ∧ c ≤ 160) ∨ (8232 ≤ c ∧ c ≤ 8233) := by
  simp [inS, clS]
set_option maxHeartbeats 4000000 in
theorem isBlank_any (c : Int) (w : World) : Calls Try.prog 80 #[.int .i64 c] w (BoolS (inS (clS 5) c) w) := by
  have HP : Hid (∀ (b : Bool) w, b = inS (clS 5) c → BoolS (inS (clS 5) c) w (.returned (.bool b)) w) := fun b w h => by
    rw [h]
    exact ⟨rfl, rfl⟩
  have HS := Lib.hid (bl_iff c)
  generalize inS (clS 5) c = Z at *
  go_enter Try.func80, Try.ntmps80
  go_wp2
  all_goals
    go_ret
    refine HP.out _ _ ?_
    have hs := HS.out
    try simp only [beq_iff_eq, beq_eq_false_iff_ne, ne_eq] at *
    first
      | exact (hs.2 (by omega)).symm
      | exact (Bool.eq_false_iff.2 fun h => by have := hs.1 h; omega).symm
      | (rw [Bool.eq_iff_iff, hs]
         simp only [decide_eq_true_eq]
         omega)
end Go.Proofs.Ytdjpjknbbedamaa
