/-
  The functions of the language, as the document has them. Conditions: none.
-/
import Derived.Test.YtaocbhfehncdcaaGreatDoorXM24
namespace Go.Proofs.YtaocbhfehncdcaaGreatDoor
open Go.RowKit

def fnL2 : List (List UInt8) := [[119, 97, 110, 116, 97, 114, 114, 97, 121], [105, 110, 112, 117, 116], [115, 104, 105, 102, 116], [117, 110, 100, 101, 102], [112, 111, 112], [107, 101, 121, 115], [118, 97, 108, 117, 101, 115], [100, 101, 108, 101, 116, 101], [101, 120, 105, 115, 116, 115], [100, 101, 102, 105, 110, 101, 100], [115, 99, 97, 108, 97, 114], [108, 101, 110, 103, 116, 104], [117, 99], [108, 99], [111, 114, 100], [99, 104, 114], [114, 101, 102], [119, 101, 97, 107, 101, 110], [117, 110, 116, 105, 101], [103, 117, 97, 114, 100], [116, 97, 105, 110, 116, 101, 100], [97, 98, 115], [101, 118, 97, 108, 117, 97, 116, 101], [115, 112, 108, 105, 116], [105, 110, 100, 101, 120], [98, 108, 101, 115, 115], [115, 117, 98, 115, 116, 114], [112, 114, 105, 110, 116], [114, 101, 118, 101, 114, 115, 101], [100, 105, 101], [112, 117, 115, 104], [117, 110, 115, 104, 105, 102, 116], [106, 111, 105, 110], [116, 105, 101]]
set_option maxRecDepth 100000 in
set_option maxHeartbeats 8000000 in
theorem arr_wantarray (w : World) : Calls Tryz.prog 8 #[.string ⟨#[119, 97, 110, 116, 97, 114, 114, 97, 121]⟩] w (LkP (.tuple #[.int .i64 0, .int .i64 0, .bool true]) w) := by
  have HP : Hid (LkP (.tuple #[.int .i64 0, .int .i64 0, .bool true]) w (.returned (.tuple #[.int .i64 0, .int .i64 0, .bool true])) w) := ⟨rfl, Below.refl _ _⟩
  go_enter Tryz.func8, Tryz.ntmps8
  go_wp2
  refine bodyPost_ret (v := .tuple #[.int .i64 0, .int .i64 0, .bool true]) ?_ rfl HP.out
  simp [results, Tryz.results8, go_sem]

set_option maxRecDepth 100000 in
set_option maxHeartbeats 8000000 in
theorem arr_input (w : World) : Calls Tryz.prog 8 #[.string ⟨#[105, 110, 112, 117, 116]⟩] w (LkP (.tuple #[.int .i64 0, .int .i64 0, .bool true]) w) := by
  have HP : Hid (LkP (.tuple #[.int .i64 0, .int .i64 0, .bool true]) w (.returned (.tuple #[.int .i64 0, .int .i64 0, .bool true])) w) := ⟨rfl, Below.refl _ _⟩
  go_enter Tryz.func8, Tryz.ntmps8
  go_wp2
  refine bodyPost_ret (v := .tuple #[.int .i64 0, .int .i64 0, .bool true]) ?_ rfl HP.out
  simp [results, Tryz.results8, go_sem]

set_option maxRecDepth 100000 in
set_option maxHeartbeats 8000000 in
theorem arr_shift (w : World) : Calls Tryz.prog 8 #[.string ⟨#[115, 104, 105, 102, 116]⟩] w (LkP (.tuple #[.int .i64 0, .int .i64 1, .bool true]) w) := by
  have HP : Hid (LkP (.tuple #[.int .i64 0, .int .i64 1, .bool true]) w (.returned (.tuple #[.int .i64 0, .int .i64 1, .bool true])) w) := ⟨rfl, Below.refl _ _⟩
  go_enter Tryz.func8, Tryz.ntmps8
  go_wp2
  refine bodyPost_ret (v := .tuple #[.int .i64 0, .int .i64 1, .bool true]) ?_ rfl HP.out
  simp [results, Tryz.results8, go_sem]

set_option maxRecDepth 100000 in
set_option maxHeartbeats 8000000 in
theorem arr_undef (w : World) : Calls Tryz.prog 8 #[.string ⟨#[117, 110, 100, 101, 102]⟩] w (LkP (.tuple #[.int .i64 0, .int .i64 1, .bool true]) w) := by
  have HP : Hid (LkP (.tuple #[.int .i64 0, .int .i64 1, .bool true]) w (.returned (.tuple #[.int .i64 0, .int .i64 1, .bool true])) w) := ⟨rfl, Below.refl _ _⟩
  go_enter Tryz.func8, Tryz.ntmps8
  go_wp2
  refine bodyPost_ret (v := .tuple #[.int .i64 0, .int .i64 1, .bool true]) ?_ rfl HP.out
  simp [results, Tryz.results8, go_sem]

set_option maxRecDepth 100000 in
set_option maxHeartbeats 8000000 in
theorem arr_pop (w : World) : Calls Tryz.prog 8 #[.string ⟨#[112, 111, 112]⟩] w (LkP (.tuple #[.int .i64 1, .int .i64 1, .bool true]) w) := by
  have HP : Hid (LkP (.tuple #[.int .i64 1, .int .i64 1, .bool true]) w (.returned (.tuple #[.int .i64 1, .int .i64 1, .bool true])) w) := ⟨rfl, Below.refl _ _⟩
  go_enter Tryz.func8, Tryz.ntmps8
  go_wp2
  refine bodyPost_ret (v := .tuple #[.int .i64 1, .int .i64 1, .bool true]) ?_ rfl HP.out
  simp [results, Tryz.results8, go_sem]

set_option maxRecDepth 100000 in
set_option maxHeartbeats 8000000 in
theorem arr_keys (w : World) : Calls Tryz.prog 8 #[.string ⟨#[107, 101, 121, 115]⟩] w (LkP (.tuple #[.int .i64 1, .int .i64 1, .bool true]) w) := by
  have HP : Hid (LkP (.tuple #[.int .i64 1, .int .i64 1, .bool true]) w (.returned (.tuple #[.int .i64 1, .int .i64 1, .bool true])) w) := ⟨rfl, Below.refl _ _⟩
  go_enter Tryz.func8, Tryz.ntmps8
  go_wp2
  refine bodyPost_ret (v := .tuple #[.int .i64 1, .int .i64 1, .bool true]) ?_ rfl HP.out
  simp [results, Tryz.results8, go_sem]

set_option maxRecDepth 100000 in
set_option maxHeartbeats 8000000 in
theorem arr_values (w : World) : Calls Tryz.prog 8 #[.string ⟨#[118, 97, 108, 117, 101, 115]⟩] w (LkP (.tuple #[.int .i64 1, .int .i64 1, .bool true]) w) := by
  have HP : Hid (LkP (.tuple #[.int .i64 1, .int .i64 1, .bool true]) w (.returned (.tuple #[.int .i64 1, .int .i64 1, .bool true])) w) := ⟨rfl, Below.refl _ _⟩
  go_enter Tryz.func8, Tryz.ntmps8
  go_wp2
  refine bodyPost_ret (v := .tuple #[.int .i64 1, .int .i64 1, .bool true]) ?_ rfl HP.out
  simp [results, Tryz.results8, go_sem]

set_option maxRecDepth 100000 in
set_option maxHeartbeats 8000000 in
theorem arr_delete (w : World) : Calls Tryz.prog 8 #[.string ⟨#[100, 101, 108, 101, 116, 101]⟩] w (LkP (.tuple #[.int .i64 1, .int .i64 1, .bool true]) w) := by
  have HP : Hid (LkP (.tuple #[.int .i64 1, .int .i64 1, .bool true]) w (.returned (.tuple #[.int .i64 1, .int .i64 1, .bool true])) w) := ⟨rfl, Below.refl _ _⟩
  go_enter Tryz.func8, Tryz.ntmps8
  go_wp2
  refine bodyPost_ret (v := .tuple #[.int .i64 1, .int .i64 1, .bool true]) ?_ rfl HP.out
  simp [results, Tryz.results8, go_sem]

set_option maxRecDepth 100000 in
set_option maxHeartbeats 8000000 in
theorem arr_exists (w : World) : Calls Tryz.prog 8 #[.string ⟨#[101, 120, 105, 115, 116, 115]⟩] w (LkP (.tuple #[.int .i64 1, .int .i64 1, .bool true]) w) := by
  have HP : Hid (LkP (.tuple #[.int .i64 1, .int .i64 1, .bool true]) w (.returned (.tuple #[.int .i64 1, .int .i64 1, .bool true])) w) := ⟨rfl, Below.refl _ _⟩
  go_enter Tryz.func8, Tryz.ntmps8
  go_wp2
  refine bodyPost_ret (v := .tuple #[.int .i64 1, .int .i64 1, .bool true]) ?_ rfl HP.out
  simp [results, Tryz.results8, go_sem]

set_option maxRecDepth 100000 in
set_option maxHeartbeats 8000000 in
theorem arr_defined (w : World) : Calls Tryz.prog 8 #[.string ⟨#[100, 101, 102, 105, 110, 101, 100]⟩] w (LkP (.tuple #[.int .i64 1, .int .i64 1, .bool true]) w) := by
  have HP : Hid (LkP (.tuple #[.int .i64 1, .int .i64 1, .bool true]) w (.returned (.tuple #[.int .i64 1, .int .i64 1, .bool true])) w) := ⟨rfl, Below.refl _ _⟩
  go_enter Tryz.func8, Tryz.ntmps8
  go_wp2
  refine bodyPost_ret (v := .tuple #[.int .i64 1, .int .i64 1, .bool true]) ?_ rfl HP.out
  simp [results, Tryz.results8, go_sem]

set_option maxRecDepth 100000 in
set_option maxHeartbeats 8000000 in
theorem arr_scalar (w : World) : Calls Tryz.prog 8 #[.string ⟨#[115, 99, 97, 108, 97, 114]⟩] w (LkP (.tuple #[.int .i64 1, .int .i64 1, .bool true]) w) := by
  have HP : Hid (LkP (.tuple #[.int .i64 1, .int .i64 1, .bool true]) w (.returned (.tuple #[.int .i64 1, .int .i64 1, .bool true])) w) := ⟨rfl, Below.refl _ _⟩
  go_enter Tryz.func8, Tryz.ntmps8
  go_wp2
  refine bodyPost_ret (v := .tuple #[.int .i64 1, .int .i64 1, .bool true]) ?_ rfl HP.out
  simp [results, Tryz.results8, go_sem]

set_option maxRecDepth 100000 in
set_option maxHeartbeats 8000000 in
theorem arr_length (w : World) : Calls Tryz.prog 8 #[.string ⟨#[108, 101, 110, 103, 116, 104]⟩] w (LkP (.tuple #[.int .i64 1, .int .i64 1, .bool true]) w) := by
  have HP : Hid (LkP (.tuple #[.int .i64 1, .int .i64 1, .bool true]) w (.returned (.tuple #[.int .i64 1, .int .i64 1, .bool true])) w) := ⟨rfl, Below.refl _ _⟩
  go_enter Tryz.func8, Tryz.ntmps8
  go_wp2
  refine bodyPost_ret (v := .tuple #[.int .i64 1, .int .i64 1, .bool true]) ?_ rfl HP.out
  simp [results, Tryz.results8, go_sem]

set_option maxRecDepth 100000 in
set_option maxHeartbeats 8000000 in
theorem arr_uc (w : World) : Calls Tryz.prog 8 #[.string ⟨#[117, 99]⟩] w (LkP (.tuple #[.int .i64 1, .int .i64 1, .bool true]) w) := by
  have HP : Hid (LkP (.tuple #[.int .i64 1, .int .i64 1, .bool true]) w (.returned (.tuple #[.int .i64 1, .int .i64 1, .bool true])) w) := ⟨rfl, Below.refl _ _⟩
  go_enter Tryz.func8, Tryz.ntmps8
  go_wp2
  refine bodyPost_ret (v := .tuple #[.int .i64 1, .int .i64 1, .bool true]) ?_ rfl HP.out
  simp [results, Tryz.results8, go_sem]

set_option maxRecDepth 100000 in
set_option maxHeartbeats 8000000 in
theorem arr_lc (w : World) : Calls Tryz.prog 8 #[.string ⟨#[108, 99]⟩] w (LkP (.tuple #[.int .i64 1, .int .i64 1, .bool true]) w) := by
  have HP : Hid (LkP (.tuple #[.int .i64 1, .int .i64 1, .bool true]) w (.returned (.tuple #[.int .i64 1, .int .i64 1, .bool true])) w) := ⟨rfl, Below.refl _ _⟩
  go_enter Tryz.func8, Tryz.ntmps8
  go_wp2
  refine bodyPost_ret (v := .tuple #[.int .i64 1, .int .i64 1, .bool true]) ?_ rfl HP.out
  simp [results, Tryz.results8, go_sem]

set_option maxRecDepth 100000 in
set_option maxHeartbeats 8000000 in
theorem arr_ord (w : World) : Calls Tryz.prog 8 #[.string ⟨#[111, 114, 100]⟩] w (LkP (.tuple #[.int .i64 1, .int .i64 1, .bool true]) w) := by
  have HP : Hid (LkP (.tuple #[.int .i64 1, .int .i64 1, .bool true]) w (.returned (.tuple #[.int .i64 1, .int .i64 1, .bool true])) w) := ⟨rfl, Below.refl _ _⟩
  go_enter Tryz.func8, Tryz.ntmps8
  go_wp2
  refine bodyPost_ret (v := .tuple #[.int .i64 1, .int .i64 1, .bool true]) ?_ rfl HP.out
  simp [results, Tryz.results8, go_sem]

set_option maxRecDepth 100000 in
set_option maxHeartbeats 8000000 in
theorem arr_chr (w : World) : Calls Tryz.prog 8 #[.string ⟨#[99, 104, 114]⟩] w (LkP (.tuple #[.int .i64 1, .int .i64 1, .bool true]) w) := by
  have HP : Hid (LkP (.tuple #[.int .i64 1, .int .i64 1, .bool true]) w (.returned (.tuple #[.int .i64 1, .int .i64 1, .bool true])) w) := ⟨rfl, Below.refl _ _⟩
  go_enter Tryz.func8, Tryz.ntmps8
  go_wp2
  refine bodyPost_ret (v := .tuple #[.int .i64 1, .int .i64 1, .bool true]) ?_ rfl HP.out
  simp [results, Tryz.results8, go_sem]

set_option maxRecDepth 100000 in
set_option maxHeartbeats 8000000 in
theorem arr_ref (w : World) : Calls Tryz.prog 8 #[.string ⟨#[114, 101, 102]⟩] w (LkP (.tuple #[.int .i64 1, .int .i64 1, .bool true]) w) := by
  have HP : Hid (LkP (.tuple #[.int .i64 1, .int .i64 1, .bool true]) w (.returned (.tuple #[.int .i64 1, .int .i64 1, .bool true])) w) := ⟨rfl, Below.refl _ _⟩
  go_enter Tryz.func8, Tryz.ntmps8
  go_wp2
  refine bodyPost_ret (v := .tuple #[.int .i64 1, .int .i64 1, .bool true]) ?_ rfl HP.out
  simp [results, Tryz.results8, go_sem]

set_option maxRecDepth 100000 in
set_option maxHeartbeats 8000000 in
theorem arr_weaken (w : World) : Calls Tryz.prog 8 #[.string ⟨#[119, 101, 97, 107, 101, 110]⟩] w (LkP (.tuple #[.int .i64 1, .int .i64 1, .bool true]) w) := by
  have HP : Hid (LkP (.tuple #[.int .i64 1, .int .i64 1, .bool true]) w (.returned (.tuple #[.int .i64 1, .int .i64 1, .bool true])) w) := ⟨rfl, Below.refl _ _⟩
  go_enter Tryz.func8, Tryz.ntmps8
  go_wp2
  refine bodyPost_ret (v := .tuple #[.int .i64 1, .int .i64 1, .bool true]) ?_ rfl HP.out
  simp [results, Tryz.results8, go_sem]

set_option maxRecDepth 100000 in
set_option maxHeartbeats 8000000 in
theorem arr_untie (w : World) : Calls Tryz.prog 8 #[.string ⟨#[117, 110, 116, 105, 101]⟩] w (LkP (.tuple #[.int .i64 1, .int .i64 1, .bool true]) w) := by
  have HP : Hid (LkP (.tuple #[.int .i64 1, .int .i64 1, .bool true]) w (.returned (.tuple #[.int .i64 1, .int .i64 1, .bool true])) w) := ⟨rfl, Below.refl _ _⟩
  go_enter Tryz.func8, Tryz.ntmps8
  go_wp2
  refine bodyPost_ret (v := .tuple #[.int .i64 1, .int .i64 1, .bool true]) ?_ rfl HP.out
  simp [results, Tryz.results8, go_sem]

set_option maxRecDepth 100000 in
set_option maxHeartbeats 8000000 in
theorem arr_guard (w : World) : Calls Tryz.prog 8 #[.string ⟨#[103, 117, 97, 114, 100]⟩] w (LkP (.tuple #[.int .i64 1, .int .i64 1, .bool true]) w) := by
  have HP : Hid (LkP (.tuple #[.int .i64 1, .int .i64 1, .bool true]) w (.returned (.tuple #[.int .i64 1, .int .i64 1, .bool true])) w) := ⟨rfl, Below.refl _ _⟩
  go_enter Tryz.func8, Tryz.ntmps8
  go_wp2
  refine bodyPost_ret (v := .tuple #[.int .i64 1, .int .i64 1, .bool true]) ?_ rfl HP.out
  simp [results, Tryz.results8, go_sem]

set_option maxRecDepth 100000 in
set_option maxHeartbeats 8000000 in
theorem arr_tainted (w : World) : Calls Tryz.prog 8 #[.string ⟨#[116, 97, 105, 110, 116, 101, 100]⟩] w (LkP (.tuple #[.int .i64 1, .int .i64 1, .bool true]) w) := by
  have HP : Hid (LkP (.tuple #[.int .i64 1, .int .i64 1, .bool true]) w (.returned (.tuple #[.int .i64 1, .int .i64 1, .bool true])) w) := ⟨rfl, Below.refl _ _⟩
  go_enter Tryz.func8, Tryz.ntmps8
  go_wp2
  refine bodyPost_ret (v := .tuple #[.int .i64 1, .int .i64 1, .bool true]) ?_ rfl HP.out
  simp [results, Tryz.results8, go_sem]

set_option maxRecDepth 100000 in
set_option maxHeartbeats 8000000 in
theorem arr_abs (w : World) : Calls Tryz.prog 8 #[.string ⟨#[97, 98, 115]⟩] w (LkP (.tuple #[.int .i64 1, .int .i64 1, .bool true]) w) := by
  have HP : Hid (LkP (.tuple #[.int .i64 1, .int .i64 1, .bool true]) w (.returned (.tuple #[.int .i64 1, .int .i64 1, .bool true])) w) := ⟨rfl, Below.refl _ _⟩
  go_enter Tryz.func8, Tryz.ntmps8
  go_wp2
  refine bodyPost_ret (v := .tuple #[.int .i64 1, .int .i64 1, .bool true]) ?_ rfl HP.out
  simp [results, Tryz.results8, go_sem]

set_option maxRecDepth 100000 in
set_option maxHeartbeats 8000000 in
theorem arr_evaluate (w : World) : Calls Tryz.prog 8 #[.string ⟨#[101, 118, 97, 108, 117, 97, 116, 101]⟩] w (LkP (.tuple #[.int .i64 1, .int .i64 1, .bool true]) w) := by
  have HP : Hid (LkP (.tuple #[.int .i64 1, .int .i64 1, .bool true]) w (.returned (.tuple #[.int .i64 1, .int .i64 1, .bool true])) w) := ⟨rfl, Below.refl _ _⟩
  go_enter Tryz.func8, Tryz.ntmps8
  go_wp2
  refine bodyPost_ret (v := .tuple #[.int .i64 1, .int .i64 1, .bool true]) ?_ rfl HP.out
  simp [results, Tryz.results8, go_sem]

set_option maxRecDepth 100000 in
set_option maxHeartbeats 8000000 in
theorem arr_split (w : World) : Calls Tryz.prog 8 #[.string ⟨#[115, 112, 108, 105, 116]⟩] w (LkP (.tuple #[.int .i64 2, .int .i64 2, .bool true]) w) := by
  have HP : Hid (LkP (.tuple #[.int .i64 2, .int .i64 2, .bool true]) w (.returned (.tuple #[.int .i64 2, .int .i64 2, .bool true])) w) := ⟨rfl, Below.refl _ _⟩
  go_enter Tryz.func8, Tryz.ntmps8
  go_wp2
  refine bodyPost_ret (v := .tuple #[.int .i64 2, .int .i64 2, .bool true]) ?_ rfl HP.out
  simp [results, Tryz.results8, go_sem]

set_option maxRecDepth 100000 in
set_option maxHeartbeats 8000000 in
theorem arr_index (w : World) : Calls Tryz.prog 8 #[.string ⟨#[105, 110, 100, 101, 120]⟩] w (LkP (.tuple #[.int .i64 2, .int .i64 2, .bool true]) w) := by
  have HP : Hid (LkP (.tuple #[.int .i64 2, .int .i64 2, .bool true]) w (.returned (.tuple #[.int .i64 2, .int .i64 2, .bool true])) w) := ⟨rfl, Below.refl _ _⟩
  go_enter Tryz.func8, Tryz.ntmps8
  go_wp2
  refine bodyPost_ret (v := .tuple #[.int .i64 2, .int .i64 2, .bool true]) ?_ rfl HP.out
  simp [results, Tryz.results8, go_sem]

set_option maxRecDepth 100000 in
set_option maxHeartbeats 8000000 in
theorem arr_bless (w : World) : Calls Tryz.prog 8 #[.string ⟨#[98, 108, 101, 115, 115]⟩] w (LkP (.tuple #[.int .i64 2, .int .i64 2, .bool true]) w) := by
  have HP : Hid (LkP (.tuple #[.int .i64 2, .int .i64 2, .bool true]) w (.returned (.tuple #[.int .i64 2, .int .i64 2, .bool true])) w) := ⟨rfl, Below.refl _ _⟩
  go_enter Tryz.func8, Tryz.ntmps8
  go_wp2
  refine bodyPost_ret (v := .tuple #[.int .i64 2, .int .i64 2, .bool true]) ?_ rfl HP.out
  simp [results, Tryz.results8, go_sem]

set_option maxRecDepth 100000 in
set_option maxHeartbeats 8000000 in
theorem arr_substr (w : World) : Calls Tryz.prog 8 #[.string ⟨#[115, 117, 98, 115, 116, 114]⟩] w (LkP (.tuple #[.int .i64 2, .int .i64 3, .bool true]) w) := by
  have HP : Hid (LkP (.tuple #[.int .i64 2, .int .i64 3, .bool true]) w (.returned (.tuple #[.int .i64 2, .int .i64 3, .bool true])) w) := ⟨rfl, Below.refl _ _⟩
  go_enter Tryz.func8, Tryz.ntmps8
  go_wp2
  refine bodyPost_ret (v := .tuple #[.int .i64 2, .int .i64 3, .bool true]) ?_ rfl HP.out
  simp [results, Tryz.results8, go_sem]

set_option maxRecDepth 100000 in
set_option maxHeartbeats 8000000 in
theorem arr_print (w : World) : Calls Tryz.prog 8 #[.string ⟨#[112, 114, 105, 110, 116]⟩] w (LkP (.tuple #[.int .i64 0, .int .i64 (-1), .bool true]) w) := by
  have HP : Hid (LkP (.tuple #[.int .i64 0, .int .i64 (-1), .bool true]) w (.returned (.tuple #[.int .i64 0, .int .i64 (-1), .bool true])) w) := ⟨rfl, Below.refl _ _⟩
  go_enter Tryz.func8, Tryz.ntmps8
  go_wp2
  refine bodyPost_ret (v := .tuple #[.int .i64 0, .int .i64 (-1), .bool true]) ?_ rfl HP.out
  simp [results, Tryz.results8, go_sem]

set_option maxRecDepth 100000 in
set_option maxHeartbeats 8000000 in
theorem arr_reverse (w : World) : Calls Tryz.prog 8 #[.string ⟨#[114, 101, 118, 101, 114, 115, 101]⟩] w (LkP (.tuple #[.int .i64 0, .int .i64 (-1), .bool true]) w) := by
  have HP : Hid (LkP (.tuple #[.int .i64 0, .int .i64 (-1), .bool true]) w (.returned (.tuple #[.int .i64 0, .int .i64 (-1), .bool true])) w) := ⟨rfl, Below.refl _ _⟩
  go_enter Tryz.func8, Tryz.ntmps8
  go_wp2
  refine bodyPost_ret (v := .tuple #[.int .i64 0, .int .i64 (-1), .bool true]) ?_ rfl HP.out
  simp [results, Tryz.results8, go_sem]

set_option maxRecDepth 100000 in
set_option maxHeartbeats 8000000 in
theorem arr_die (w : World) : Calls Tryz.prog 8 #[.string ⟨#[100, 105, 101]⟩] w (LkP (.tuple #[.int .i64 0, .int .i64 (-1), .bool true]) w) := by
  have HP : Hid (LkP (.tuple #[.int .i64 0, .int .i64 (-1), .bool true]) w (.returned (.tuple #[.int .i64 0, .int .i64 (-1), .bool true])) w) := ⟨rfl, Below.refl _ _⟩
  go_enter Tryz.func8, Tryz.ntmps8
  go_wp2
  refine bodyPost_ret (v := .tuple #[.int .i64 0, .int .i64 (-1), .bool true]) ?_ rfl HP.out
  simp [results, Tryz.results8, go_sem]

set_option maxRecDepth 100000 in
set_option maxHeartbeats 8000000 in
theorem arr_push (w : World) : Calls Tryz.prog 8 #[.string ⟨#[112, 117, 115, 104]⟩] w (LkP (.tuple #[.int .i64 1, .int .i64 (-1), .bool true]) w) := by
  have HP : Hid (LkP (.tuple #[.int .i64 1, .int .i64 (-1), .bool true]) w (.returned (.tuple #[.int .i64 1, .int .i64 (-1), .bool true])) w) := ⟨rfl, Below.refl _ _⟩
  go_enter Tryz.func8, Tryz.ntmps8
  go_wp2
  refine bodyPost_ret (v := .tuple #[.int .i64 1, .int .i64 (-1), .bool true]) ?_ rfl HP.out
  simp [results, Tryz.results8, go_sem]

set_option maxRecDepth 100000 in
set_option maxHeartbeats 8000000 in
theorem arr_unshift (w : World) : Calls Tryz.prog 8 #[.string ⟨#[117, 110, 115, 104, 105, 102, 116]⟩] w (LkP (.tuple #[.int .i64 1, .int .i64 (-1), .bool true]) w) := by
  have HP : Hid (LkP (.tuple #[.int .i64 1, .int .i64 (-1), .bool true]) w (.returned (.tuple #[.int .i64 1, .int .i64 (-1), .bool true])) w) := ⟨rfl, Below.refl _ _⟩
  go_enter Tryz.func8, Tryz.ntmps8
  go_wp2
  refine bodyPost_ret (v := .tuple #[.int .i64 1, .int .i64 (-1), .bool true]) ?_ rfl HP.out
  simp [results, Tryz.results8, go_sem]

set_option maxRecDepth 100000 in
set_option maxHeartbeats 8000000 in
theorem arr_join (w : World) : Calls Tryz.prog 8 #[.string ⟨#[106, 111, 105, 110]⟩] w (LkP (.tuple #[.int .i64 1, .int .i64 (-1), .bool true]) w) := by
  have HP : Hid (LkP (.tuple #[.int .i64 1, .int .i64 (-1), .bool true]) w (.returned (.tuple #[.int .i64 1, .int .i64 (-1), .bool true])) w) := ⟨rfl, Below.refl _ _⟩
  go_enter Tryz.func8, Tryz.ntmps8
  go_wp2
  refine bodyPost_ret (v := .tuple #[.int .i64 1, .int .i64 (-1), .bool true]) ?_ rfl HP.out
  simp [results, Tryz.results8, go_sem]

set_option maxRecDepth 100000 in
set_option maxHeartbeats 8000000 in
theorem arr_tie (w : World) : Calls Tryz.prog 8 #[.string ⟨#[116, 105, 101]⟩] w (LkP (.tuple #[.int .i64 2, .int .i64 (-1), .bool true]) w) := by
  have HP : Hid (LkP (.tuple #[.int .i64 2, .int .i64 (-1), .bool true]) w (.returned (.tuple #[.int .i64 2, .int .i64 (-1), .bool true])) w) := ⟨rfl, Below.refl _ _⟩
  go_enter Tryz.func8, Tryz.ntmps8
  go_wp2
  refine bodyPost_ret (v := .tuple #[.int .i64 2, .int .i64 (-1), .bool true]) ?_ rfl HP.out
  simp [results, Tryz.results8, go_sem]

set_option maxRecDepth 100000 in
set_option maxHeartbeats 8000000 in
theorem arr_none (s : ByteArray) (hx : ∀ u, u ∈ fnL2 → (s.toList == u) = false) (w : World) : Calls Tryz.prog 8 #[.string s] w (LkP (.tuple #[.int .i64 0, .int .i64 0, .bool false]) w) := by
  have c0 : (s.toList == [119, 97, 110, 116, 97, 114, 114, 97, 121]) = false := hx [119, 97, 110, 116, 97, 114, 114, 97, 121] (by simp [fnL2])
  have c1 : (s.toList == [105, 110, 112, 117, 116]) = false := hx [105, 110, 112, 117, 116] (by simp [fnL2])
  have c2 : (s.toList == [115, 104, 105, 102, 116]) = false := hx [115, 104, 105, 102, 116] (by simp [fnL2])
  have c3 : (s.toList == [117, 110, 100, 101, 102]) = false := hx [117, 110, 100, 101, 102] (by simp [fnL2])
  have c4 : (s.toList == [112, 111, 112]) = false := hx [112, 111, 112] (by simp [fnL2])
  have c5 : (s.toList == [107, 101, 121, 115]) = false := hx [107, 101, 121, 115] (by simp [fnL2])
  have c6 : (s.toList == [118, 97, 108, 117, 101, 115]) = false := hx [118, 97, 108, 117, 101, 115] (by simp [fnL2])
  have c7 : (s.toList == [100, 101, 108, 101, 116, 101]) = false := hx [100, 101, 108, 101, 116, 101] (by simp [fnL2])
  have c8 : (s.toList == [101, 120, 105, 115, 116, 115]) = false := hx [101, 120, 105, 115, 116, 115] (by simp [fnL2])
  have c9 : (s.toList == [100, 101, 102, 105, 110, 101, 100]) = false := hx [100, 101, 102, 105, 110, 101, 100] (by simp [fnL2])
  have c10 : (s.toList == [115, 99, 97, 108, 97, 114]) = false := hx [115, 99, 97, 108, 97, 114] (by simp [fnL2])
  have c11 : (s.toList == [108, 101, 110, 103, 116, 104]) = false := hx [108, 101, 110, 103, 116, 104] (by simp [fnL2])
  have c12 : (s.toList == [117, 99]) = false := hx [117, 99] (by simp [fnL2])
  have c13 : (s.toList == [108, 99]) = false := hx [108, 99] (by simp [fnL2])
  have c14 : (s.toList == [111, 114, 100]) = false := hx [111, 114, 100] (by simp [fnL2])
  have c15 : (s.toList == [99, 104, 114]) = false := hx [99, 104, 114] (by simp [fnL2])
  have c16 : (s.toList == [114, 101, 102]) = false := hx [114, 101, 102] (by simp [fnL2])
  have c17 : (s.toList == [119, 101, 97, 107, 101, 110]) = false := hx [119, 101, 97, 107, 101, 110] (by simp [fnL2])
  have c18 : (s.toList == [117, 110, 116, 105, 101]) = false := hx [117, 110, 116, 105, 101] (by simp [fnL2])
  have c19 : (s.toList == [103, 117, 97, 114, 100]) = false := hx [103, 117, 97, 114, 100] (by simp [fnL2])
  have c20 : (s.toList == [116, 97, 105, 110, 116, 101, 100]) = false := hx [116, 97, 105, 110, 116, 101, 100] (by simp [fnL2])
  have c21 : (s.toList == [97, 98, 115]) = false := hx [97, 98, 115] (by simp [fnL2])
  have c22 : (s.toList == [101, 118, 97, 108, 117, 97, 116, 101]) = false := hx [101, 118, 97, 108, 117, 97, 116, 101] (by simp [fnL2])
  have c23 : (s.toList == [115, 112, 108, 105, 116]) = false := hx [115, 112, 108, 105, 116] (by simp [fnL2])
  have c24 : (s.toList == [105, 110, 100, 101, 120]) = false := hx [105, 110, 100, 101, 120] (by simp [fnL2])
  have c25 : (s.toList == [98, 108, 101, 115, 115]) = false := hx [98, 108, 101, 115, 115] (by simp [fnL2])
  have c26 : (s.toList == [115, 117, 98, 115, 116, 114]) = false := hx [115, 117, 98, 115, 116, 114] (by simp [fnL2])
  have c27 : (s.toList == [112, 114, 105, 110, 116]) = false := hx [112, 114, 105, 110, 116] (by simp [fnL2])
  have c28 : (s.toList == [114, 101, 118, 101, 114, 115, 101]) = false := hx [114, 101, 118, 101, 114, 115, 101] (by simp [fnL2])
  have c29 : (s.toList == [100, 105, 101]) = false := hx [100, 105, 101] (by simp [fnL2])
  have c30 : (s.toList == [112, 117, 115, 104]) = false := hx [112, 117, 115, 104] (by simp [fnL2])
  have c31 : (s.toList == [117, 110, 115, 104, 105, 102, 116]) = false := hx [117, 110, 115, 104, 105, 102, 116] (by simp [fnL2])
  have c32 : (s.toList == [106, 111, 105, 110]) = false := hx [106, 111, 105, 110] (by simp [fnL2])
  have c33 : (s.toList == [116, 105, 101]) = false := hx [116, 105, 101] (by simp [fnL2])
  have HP : Hid (LkP (.tuple #[.int .i64 0, .int .i64 0, .bool false]) w (.returned (.tuple #[.int .i64 0, .int .i64 0, .bool false])) w) := ⟨rfl, Below.refl _ _⟩
  clear hx
  go_enter Tryz.func8, Tryz.ntmps8
  go_wp2
  refine bodyPost_ret (v := .tuple #[.int .i64 0, .int .i64 0, .bool false]) ?_ rfl HP.out
  simp [results, Tryz.results8, go_sem]


end Go.Proofs.YtaocbhfehncdcaaGreatDoor
