/-
  The document's In, IsClass. No condition.
-/
import Derived.Test.YtdjpjknbbedamaaCw
namespace Go.Proofs.Ytdjpjknbbedamaa
open Go.RowKit

set_option maxRecDepth 100000 in
set_option maxHeartbeats 1000000 in
theorem In_0 (c : Int) (w : World) : Calls Try.prog 56 #[.int .i64 c, .string ⟨#[117, 112, 112, 101, 114]⟩] w (BoolS (inS (clS 0) c) w) := by
  have H1 := Lib.hid (fun w => isUpper_any c w)
  generalize inS (clS 0) c = Z at *
  go_enter Try.func56, Try.ntmps56
  go_wp2_with fail
  refine (H1.out _).mono ?_
  rintro e w' ⟨rfl, rfl⟩
  go_wp2
  go_ret
  exact ⟨rfl, rfl⟩
set_option maxRecDepth 100000 in
set_option maxHeartbeats 1000000 in
theorem In_1 (c : Int) (w : World) : Calls Try.prog 56 #[.int .i64 c, .string ⟨#[108, 111, 119, 101, 114]⟩] w (BoolS (inS (clS 1) c) w) := by
  have H1 := Lib.hid (fun w => isLower_any c w)
  generalize inS (clS 1) c = Z at *
  go_enter Try.func56, Try.ntmps56
  go_wp2_with fail
  refine (H1.out _).mono ?_
  rintro e w' ⟨rfl, rfl⟩
  go_wp2
  go_ret
  exact ⟨rfl, rfl⟩
set_option maxRecDepth 100000 in
set_option maxHeartbeats 1000000 in
theorem In_2 (c : Int) (w : World) : Calls Try.prog 56 #[.int .i64 c, .string ⟨#[108, 101, 116, 116, 101, 114]⟩] w (BoolS (inS (clS 2) c) w) := by
  have H1 := Lib.hid (fun w => isLetter_any c w)
  generalize inS (clS 2) c = Z at *
  go_enter Try.func56, Try.ntmps56
  go_wp2_with fail
  refine (H1.out _).mono ?_
  rintro e w' ⟨rfl, rfl⟩
  go_wp2
  go_ret
  exact ⟨rfl, rfl⟩
set_option maxRecDepth 100000 in
set_option maxHeartbeats 1000000 in
theorem In_3 (c : Int) (w : World) : Calls Try.prog 56 #[.int .i64 c, .string ⟨#[100, 105, 103, 105, 116]⟩] w (BoolS (inS (clS 3) c) w) := by
  have H1 := Lib.hid (fun w => isDigit_any c w)
  generalize inS (clS 3) c = Z at *
  go_enter Try.func56, Try.ntmps56
  go_wp2_with fail
  refine (H1.out _).mono ?_
  rintro e w' ⟨rfl, rfl⟩
  go_wp2
  go_ret
  exact ⟨rfl, rfl⟩
set_option maxRecDepth 100000 in
set_option maxHeartbeats 1000000 in
theorem In_4 (c : Int) (w : World) : Calls Try.prog 56 #[.int .i64 c, .string ⟨#[109, 97, 114, 107]⟩] w (BoolS (inS (clS 4) c) w) := by
  have H1 := Lib.hid (fun w => isMark_any c w)
  generalize inS (clS 4) c = Z at *
  go_enter Try.func56, Try.ntmps56
  go_wp2_with fail
  refine (H1.out _).mono ?_
  rintro e w' ⟨rfl, rfl⟩
  go_wp2
  go_ret
  exact ⟨rfl, rfl⟩
set_option maxRecDepth 100000 in
set_option maxHeartbeats 1000000 in
theorem In_5 (c : Int) (w : World) : Calls Try.prog 56 #[.int .i64 c, .string ⟨#[98, 108, 97, 110, 107]⟩] w (BoolS (inS (clS 5) c) w) := by
  have H1 := Lib.hid (fun w => isBlank_any c w)
  generalize inS (clS 5) c = Z at *
  go_enter Try.func56, Try.ntmps56
  go_wp2_with fail
  refine (H1.out _).mono ?_
  rintro e w' ⟨rfl, rfl⟩
  go_wp2
  go_ret
  exact ⟨rfl, rfl⟩
set_option maxRecDepth 100000 in
set_option maxHeartbeats 1000000 in
theorem In_6 (c : Int) (w : World) : Calls Try.prog 56 #[.int .i64 c, .string ⟨#[119, 111, 114, 100]⟩] w (BoolS (inS (clS 6) c) w) := by
  have H1 := Lib.hid (fun w => IsWord_any c w)
  generalize inS (clS 6) c = Z at *
  go_enter Try.func56, Try.ntmps56
  go_wp2_with fail
  refine (H1.out _).mono ?_
  rintro e w' ⟨rfl, rfl⟩
  go_wp2
  go_ret
  exact ⟨rfl, rfl⟩
set_option maxRecDepth 100000 in
set_option maxHeartbeats 1000000 in
theorem In_7 (c : Int) (w : World) : Calls Try.prog 56 #[.int .i64 c, .string ⟨#[97, 110, 121]⟩] w (BoolS true w) := by
  go_enter Try.func56, Try.ntmps56
  go_wp2
  go_ret
  exact ⟨rfl, rfl⟩
set_option maxRecDepth 100000 in
theorem IsClass_0 (w : World) : Calls Try.prog 55 #[.string ⟨#[117, 112, 112, 101, 114]⟩] w (BoolS true w) := by
  go_enter Try.func55, Try.ntmps55
  go_wp2
  go_ret
  exact ⟨rfl, rfl⟩
set_option maxRecDepth 100000 in
theorem IsClass_1 (w : World) : Calls Try.prog 55 #[.string ⟨#[108, 111, 119, 101, 114]⟩] w (BoolS true w) := by
  go_enter Try.func55, Try.ntmps55
  go_wp2
  go_ret
  exact ⟨rfl, rfl⟩
set_option maxRecDepth 100000 in
theorem IsClass_2 (w : World) : Calls Try.prog 55 #[.string ⟨#[108, 101, 116, 116, 101, 114]⟩] w (BoolS true w) := by
  go_enter Try.func55, Try.ntmps55
  go_wp2
  go_ret
  exact ⟨rfl, rfl⟩
set_option maxRecDepth 100000 in
theorem IsClass_3 (w : World) : Calls Try.prog 55 #[.string ⟨#[100, 105, 103, 105, 116]⟩] w (BoolS true w) := by
  go_enter Try.func55, Try.ntmps55
  go_wp2
  go_ret
  exact ⟨rfl, rfl⟩
set_option maxRecDepth 100000 in
theorem IsClass_4 (w : World) : Calls Try.prog 55 #[.string ⟨#[109, 97, 114, 107]⟩] w (BoolS true w) := by
  go_enter Try.func55, Try.ntmps55
  go_wp2
  go_ret
  exact ⟨rfl, rfl⟩
set_option maxRecDepth 100000 in
theorem IsClass_5 (w : World) : Calls Try.prog 55 #[.string ⟨#[98, 108, 97, 110, 107]⟩] w (BoolS true w) := by
  go_enter Try.func55, Try.ntmps55
  go_wp2
  go_ret
  exact ⟨rfl, rfl⟩
set_option maxRecDepth 100000 in
theorem IsClass_6 (w : World) : Calls Try.prog 55 #[.string ⟨#[119, 111, 114, 100]⟩] w (BoolS true w) := by
  go_enter Try.func55, Try.ntmps55
  go_wp2
  go_ret
  exact ⟨rfl, rfl⟩
set_option maxRecDepth 100000 in
theorem IsClass_7 (w : World) : Calls Try.prog 55 #[.string ⟨#[97, 110, 121]⟩] w (BoolS true w) := by
  go_enter Try.func55, Try.ntmps55
  go_wp2
  go_ret
  exact ⟨rfl, rfl⟩

end Go.Proofs.Ytdjpjknbbedamaa
