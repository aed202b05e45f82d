/-
  The words of the grammar. Conditions: none.
-/
import Derived.Test.YtaocbhfehncdcaaGreatDoorXM24
namespace Go.Proofs.YtaocbhfehncdcaaGreatDoor
open Go.RowKit

def grL : List (List UInt8) := [[109, 121], [111, 117, 114], [108, 111, 99, 97, 108], [115, 117, 98], [114, 101, 116, 117, 114, 110], [112, 97, 99, 107, 97, 103, 101], [108, 97, 115, 116], [110, 101, 120, 116], [105, 102], [117, 110, 108, 101, 115, 115], [101, 108, 115, 105, 102], [101, 108, 115, 101], [119, 104, 105, 108, 101], [117, 110, 116, 105, 108], [102, 111, 114], [100, 111], [101, 118, 97, 108], [109, 97, 112], [103, 114, 101, 112], [115, 111, 114, 116], [97, 110, 100], [111, 114], [110, 111, 116], [120], [108, 116], [103, 116], [108, 101], [103, 101], [101, 113], [110, 101], [99, 109, 112], [66, 69, 71, 73, 78], [69, 78, 68], [113], [113, 113], [113, 119], [109], [115], [116, 114]]
set_option maxRecDepth 100000 in
set_option maxHeartbeats 8000000 in
theorem gr_my (w : World) : Calls Tryz.prog 22 #[.string ⟨#[109, 121]⟩] w (LkP (.bool true) w) := by
  have HP : Hid (LkP (.bool true) w (.returned (.bool true)) w) := ⟨rfl, Below.refl _ _⟩
  go_enter Tryz.func22, Tryz.ntmps22
  go_wp2
  go_ret
  exact HP.out

set_option maxRecDepth 100000 in
set_option maxHeartbeats 8000000 in
theorem gr_our (w : World) : Calls Tryz.prog 22 #[.string ⟨#[111, 117, 114]⟩] w (LkP (.bool true) w) := by
  have HP : Hid (LkP (.bool true) w (.returned (.bool true)) w) := ⟨rfl, Below.refl _ _⟩
  go_enter Tryz.func22, Tryz.ntmps22
  go_wp2
  go_ret
  exact HP.out

set_option maxRecDepth 100000 in
set_option maxHeartbeats 8000000 in
theorem gr_local (w : World) : Calls Tryz.prog 22 #[.string ⟨#[108, 111, 99, 97, 108]⟩] w (LkP (.bool true) w) := by
  have HP : Hid (LkP (.bool true) w (.returned (.bool true)) w) := ⟨rfl, Below.refl _ _⟩
  go_enter Tryz.func22, Tryz.ntmps22
  go_wp2
  go_ret
  exact HP.out

set_option maxRecDepth 100000 in
set_option maxHeartbeats 8000000 in
theorem gr_sub (w : World) : Calls Tryz.prog 22 #[.string ⟨#[115, 117, 98]⟩] w (LkP (.bool true) w) := by
  have HP : Hid (LkP (.bool true) w (.returned (.bool true)) w) := ⟨rfl, Below.refl _ _⟩
  go_enter Tryz.func22, Tryz.ntmps22
  go_wp2
  go_ret
  exact HP.out

set_option maxRecDepth 100000 in
set_option maxHeartbeats 8000000 in
theorem gr_return (w : World) : Calls Tryz.prog 22 #[.string ⟨#[114, 101, 116, 117, 114, 110]⟩] w (LkP (.bool true) w) := by
  have HP : Hid (LkP (.bool true) w (.returned (.bool true)) w) := ⟨rfl, Below.refl _ _⟩
  go_enter Tryz.func22, Tryz.ntmps22
  go_wp2
  go_ret
  exact HP.out

set_option maxRecDepth 100000 in
set_option maxHeartbeats 8000000 in
theorem gr_package (w : World) : Calls Tryz.prog 22 #[.string ⟨#[112, 97, 99, 107, 97, 103, 101]⟩] w (LkP (.bool true) w) := by
  have HP : Hid (LkP (.bool true) w (.returned (.bool true)) w) := ⟨rfl, Below.refl _ _⟩
  go_enter Tryz.func22, Tryz.ntmps22
  go_wp2
  go_ret
  exact HP.out

set_option maxRecDepth 100000 in
set_option maxHeartbeats 8000000 in
theorem gr_last (w : World) : Calls Tryz.prog 22 #[.string ⟨#[108, 97, 115, 116]⟩] w (LkP (.bool true) w) := by
  have HP : Hid (LkP (.bool true) w (.returned (.bool true)) w) := ⟨rfl, Below.refl _ _⟩
  go_enter Tryz.func22, Tryz.ntmps22
  go_wp2
  go_ret
  exact HP.out

set_option maxRecDepth 100000 in
set_option maxHeartbeats 8000000 in
theorem gr_next (w : World) : Calls Tryz.prog 22 #[.string ⟨#[110, 101, 120, 116]⟩] w (LkP (.bool true) w) := by
  have HP : Hid (LkP (.bool true) w (.returned (.bool true)) w) := ⟨rfl, Below.refl _ _⟩
  go_enter Tryz.func22, Tryz.ntmps22
  go_wp2
  go_ret
  exact HP.out

set_option maxRecDepth 100000 in
set_option maxHeartbeats 8000000 in
theorem gr_if (w : World) : Calls Tryz.prog 22 #[.string ⟨#[105, 102]⟩] w (LkP (.bool true) w) := by
  have HP : Hid (LkP (.bool true) w (.returned (.bool true)) w) := ⟨rfl, Below.refl _ _⟩
  go_enter Tryz.func22, Tryz.ntmps22
  go_wp2
  go_ret
  exact HP.out

set_option maxRecDepth 100000 in
set_option maxHeartbeats 8000000 in
theorem gr_unless (w : World) : Calls Tryz.prog 22 #[.string ⟨#[117, 110, 108, 101, 115, 115]⟩] w (LkP (.bool true) w) := by
  have HP : Hid (LkP (.bool true) w (.returned (.bool true)) w) := ⟨rfl, Below.refl _ _⟩
  go_enter Tryz.func22, Tryz.ntmps22
  go_wp2
  go_ret
  exact HP.out

set_option maxRecDepth 100000 in
set_option maxHeartbeats 8000000 in
theorem gr_elsif (w : World) : Calls Tryz.prog 22 #[.string ⟨#[101, 108, 115, 105, 102]⟩] w (LkP (.bool true) w) := by
  have HP : Hid (LkP (.bool true) w (.returned (.bool true)) w) := ⟨rfl, Below.refl _ _⟩
  go_enter Tryz.func22, Tryz.ntmps22
  go_wp2
  go_ret
  exact HP.out

set_option maxRecDepth 100000 in
set_option maxHeartbeats 8000000 in
theorem gr_else (w : World) : Calls Tryz.prog 22 #[.string ⟨#[101, 108, 115, 101]⟩] w (LkP (.bool true) w) := by
  have HP : Hid (LkP (.bool true) w (.returned (.bool true)) w) := ⟨rfl, Below.refl _ _⟩
  go_enter Tryz.func22, Tryz.ntmps22
  go_wp2
  go_ret
  exact HP.out

set_option maxRecDepth 100000 in
set_option maxHeartbeats 8000000 in
theorem gr_while (w : World) : Calls Tryz.prog 22 #[.string ⟨#[119, 104, 105, 108, 101]⟩] w (LkP (.bool true) w) := by
  have HP : Hid (LkP (.bool true) w (.returned (.bool true)) w) := ⟨rfl, Below.refl _ _⟩
  go_enter Tryz.func22, Tryz.ntmps22
  go_wp2
  go_ret
  exact HP.out

set_option maxRecDepth 100000 in
set_option maxHeartbeats 8000000 in
theorem gr_until (w : World) : Calls Tryz.prog 22 #[.string ⟨#[117, 110, 116, 105, 108]⟩] w (LkP (.bool true) w) := by
  have HP : Hid (LkP (.bool true) w (.returned (.bool true)) w) := ⟨rfl, Below.refl _ _⟩
  go_enter Tryz.func22, Tryz.ntmps22
  go_wp2
  go_ret
  exact HP.out

set_option maxRecDepth 100000 in
set_option maxHeartbeats 8000000 in
theorem gr_for (w : World) : Calls Tryz.prog 22 #[.string ⟨#[102, 111, 114]⟩] w (LkP (.bool true) w) := by
  have HP : Hid (LkP (.bool true) w (.returned (.bool true)) w) := ⟨rfl, Below.refl _ _⟩
  go_enter Tryz.func22, Tryz.ntmps22
  go_wp2
  go_ret
  exact HP.out

set_option maxRecDepth 100000 in
set_option maxHeartbeats 8000000 in
theorem gr_do (w : World) : Calls Tryz.prog 22 #[.string ⟨#[100, 111]⟩] w (LkP (.bool true) w) := by
  have HP : Hid (LkP (.bool true) w (.returned (.bool true)) w) := ⟨rfl, Below.refl _ _⟩
  go_enter Tryz.func22, Tryz.ntmps22
  go_wp2
  go_ret
  exact HP.out

set_option maxRecDepth 100000 in
set_option maxHeartbeats 8000000 in
theorem gr_eval (w : World) : Calls Tryz.prog 22 #[.string ⟨#[101, 118, 97, 108]⟩] w (LkP (.bool true) w) := by
  have HP : Hid (LkP (.bool true) w (.returned (.bool true)) w) := ⟨rfl, Below.refl _ _⟩
  go_enter Tryz.func22, Tryz.ntmps22
  go_wp2
  go_ret
  exact HP.out

set_option maxRecDepth 100000 in
set_option maxHeartbeats 8000000 in
theorem gr_map (w : World) : Calls Tryz.prog 22 #[.string ⟨#[109, 97, 112]⟩] w (LkP (.bool true) w) := by
  have HP : Hid (LkP (.bool true) w (.returned (.bool true)) w) := ⟨rfl, Below.refl _ _⟩
  go_enter Tryz.func22, Tryz.ntmps22
  go_wp2
  go_ret
  exact HP.out

set_option maxRecDepth 100000 in
set_option maxHeartbeats 8000000 in
theorem gr_grep (w : World) : Calls Tryz.prog 22 #[.string ⟨#[103, 114, 101, 112]⟩] w (LkP (.bool true) w) := by
  have HP : Hid (LkP (.bool true) w (.returned (.bool true)) w) := ⟨rfl, Below.refl _ _⟩
  go_enter Tryz.func22, Tryz.ntmps22
  go_wp2
  go_ret
  exact HP.out

set_option maxRecDepth 100000 in
set_option maxHeartbeats 8000000 in
theorem gr_sort (w : World) : Calls Tryz.prog 22 #[.string ⟨#[115, 111, 114, 116]⟩] w (LkP (.bool true) w) := by
  have HP : Hid (LkP (.bool true) w (.returned (.bool true)) w) := ⟨rfl, Below.refl _ _⟩
  go_enter Tryz.func22, Tryz.ntmps22
  go_wp2
  go_ret
  exact HP.out

set_option maxRecDepth 100000 in
set_option maxHeartbeats 8000000 in
theorem gr_and (w : World) : Calls Tryz.prog 22 #[.string ⟨#[97, 110, 100]⟩] w (LkP (.bool true) w) := by
  have HP : Hid (LkP (.bool true) w (.returned (.bool true)) w) := ⟨rfl, Below.refl _ _⟩
  go_enter Tryz.func22, Tryz.ntmps22
  go_wp2
  go_ret
  exact HP.out

set_option maxRecDepth 100000 in
set_option maxHeartbeats 8000000 in
theorem gr_or (w : World) : Calls Tryz.prog 22 #[.string ⟨#[111, 114]⟩] w (LkP (.bool true) w) := by
  have HP : Hid (LkP (.bool true) w (.returned (.bool true)) w) := ⟨rfl, Below.refl _ _⟩
  go_enter Tryz.func22, Tryz.ntmps22
  go_wp2
  go_ret
  exact HP.out

set_option maxRecDepth 100000 in
set_option maxHeartbeats 8000000 in
theorem gr_not (w : World) : Calls Tryz.prog 22 #[.string ⟨#[110, 111, 116]⟩] w (LkP (.bool true) w) := by
  have HP : Hid (LkP (.bool true) w (.returned (.bool true)) w) := ⟨rfl, Below.refl _ _⟩
  go_enter Tryz.func22, Tryz.ntmps22
  go_wp2
  go_ret
  exact HP.out

set_option maxRecDepth 100000 in
set_option maxHeartbeats 8000000 in
theorem gr_x (w : World) : Calls Tryz.prog 22 #[.string ⟨#[120]⟩] w (LkP (.bool true) w) := by
  have HP : Hid (LkP (.bool true) w (.returned (.bool true)) w) := ⟨rfl, Below.refl _ _⟩
  go_enter Tryz.func22, Tryz.ntmps22
  go_wp2
  go_ret
  exact HP.out

set_option maxRecDepth 100000 in
set_option maxHeartbeats 8000000 in
theorem gr_lt (w : World) : Calls Tryz.prog 22 #[.string ⟨#[108, 116]⟩] w (LkP (.bool true) w) := by
  have HP : Hid (LkP (.bool true) w (.returned (.bool true)) w) := ⟨rfl, Below.refl _ _⟩
  go_enter Tryz.func22, Tryz.ntmps22
  go_wp2
  go_ret
  exact HP.out

set_option maxRecDepth 100000 in
set_option maxHeartbeats 8000000 in
theorem gr_gt (w : World) : Calls Tryz.prog 22 #[.string ⟨#[103, 116]⟩] w (LkP (.bool true) w) := by
  have HP : Hid (LkP (.bool true) w (.returned (.bool true)) w) := ⟨rfl, Below.refl _ _⟩
  go_enter Tryz.func22, Tryz.ntmps22
  go_wp2
  go_ret
  exact HP.out

set_option maxRecDepth 100000 in
set_option maxHeartbeats 8000000 in
theorem gr_le (w : World) : Calls Tryz.prog 22 #[.string ⟨#[108, 101]⟩] w (LkP (.bool true) w) := by
  have HP : Hid (LkP (.bool true) w (.returned (.bool true)) w) := ⟨rfl, Below.refl _ _⟩
  go_enter Tryz.func22, Tryz.ntmps22
  go_wp2
  go_ret
  exact HP.out

set_option maxRecDepth 100000 in
set_option maxHeartbeats 8000000 in
theorem gr_ge (w : World) : Calls Tryz.prog 22 #[.string ⟨#[103, 101]⟩] w (LkP (.bool true) w) := by
  have HP : Hid (LkP (.bool true) w (.returned (.bool true)) w) := ⟨rfl, Below.refl _ _⟩
  go_enter Tryz.func22, Tryz.ntmps22
  go_wp2
  go_ret
  exact HP.out

set_option maxRecDepth 100000 in
set_option maxHeartbeats 8000000 in
theorem gr_eq (w : World) : Calls Tryz.prog 22 #[.string ⟨#[101, 113]⟩] w (LkP (.bool true) w) := by
  have HP : Hid (LkP (.bool true) w (.returned (.bool true)) w) := ⟨rfl, Below.refl _ _⟩
  go_enter Tryz.func22, Tryz.ntmps22
  go_wp2
  go_ret
  exact HP.out

set_option maxRecDepth 100000 in
set_option maxHeartbeats 8000000 in
theorem gr_ne (w : World) : Calls Tryz.prog 22 #[.string ⟨#[110, 101]⟩] w (LkP (.bool true) w) := by
  have HP : Hid (LkP (.bool true) w (.returned (.bool true)) w) := ⟨rfl, Below.refl _ _⟩
  go_enter Tryz.func22, Tryz.ntmps22
  go_wp2
  go_ret
  exact HP.out

set_option maxRecDepth 100000 in
set_option maxHeartbeats 8000000 in
theorem gr_cmp (w : World) : Calls Tryz.prog 22 #[.string ⟨#[99, 109, 112]⟩] w (LkP (.bool true) w) := by
  have HP : Hid (LkP (.bool true) w (.returned (.bool true)) w) := ⟨rfl, Below.refl _ _⟩
  go_enter Tryz.func22, Tryz.ntmps22
  go_wp2
  go_ret
  exact HP.out

set_option maxRecDepth 100000 in
set_option maxHeartbeats 8000000 in
theorem gr_BEGIN (w : World) : Calls Tryz.prog 22 #[.string ⟨#[66, 69, 71, 73, 78]⟩] w (LkP (.bool true) w) := by
  have HP : Hid (LkP (.bool true) w (.returned (.bool true)) w) := ⟨rfl, Below.refl _ _⟩
  go_enter Tryz.func22, Tryz.ntmps22
  go_wp2
  go_ret
  exact HP.out

set_option maxRecDepth 100000 in
set_option maxHeartbeats 8000000 in
theorem gr_END (w : World) : Calls Tryz.prog 22 #[.string ⟨#[69, 78, 68]⟩] w (LkP (.bool true) w) := by
  have HP : Hid (LkP (.bool true) w (.returned (.bool true)) w) := ⟨rfl, Below.refl _ _⟩
  go_enter Tryz.func22, Tryz.ntmps22
  go_wp2
  go_ret
  exact HP.out

set_option maxRecDepth 100000 in
set_option maxHeartbeats 8000000 in
theorem gr_q (w : World) : Calls Tryz.prog 22 #[.string ⟨#[113]⟩] w (LkP (.bool true) w) := by
  have HP : Hid (LkP (.bool true) w (.returned (.bool true)) w) := ⟨rfl, Below.refl _ _⟩
  go_enter Tryz.func22, Tryz.ntmps22
  go_wp2
  go_ret
  exact HP.out

set_option maxRecDepth 100000 in
set_option maxHeartbeats 8000000 in
theorem gr_qq (w : World) : Calls Tryz.prog 22 #[.string ⟨#[113, 113]⟩] w (LkP (.bool true) w) := by
  have HP : Hid (LkP (.bool true) w (.returned (.bool true)) w) := ⟨rfl, Below.refl _ _⟩
  go_enter Tryz.func22, Tryz.ntmps22
  go_wp2
  go_ret
  exact HP.out

set_option maxRecDepth 100000 in
set_option maxHeartbeats 8000000 in
theorem gr_qw (w : World) : Calls Tryz.prog 22 #[.string ⟨#[113, 119]⟩] w (LkP (.bool true) w) := by
  have HP : Hid (LkP (.bool true) w (.returned (.bool true)) w) := ⟨rfl, Below.refl _ _⟩
  go_enter Tryz.func22, Tryz.ntmps22
  go_wp2
  go_ret
  exact HP.out

set_option maxRecDepth 100000 in
set_option maxHeartbeats 8000000 in
theorem gr_m (w : World) : Calls Tryz.prog 22 #[.string ⟨#[109]⟩] w (LkP (.bool true) w) := by
  have HP : Hid (LkP (.bool true) w (.returned (.bool true)) w) := ⟨rfl, Below.refl _ _⟩
  go_enter Tryz.func22, Tryz.ntmps22
  go_wp2
  go_ret
  exact HP.out

set_option maxRecDepth 100000 in
set_option maxHeartbeats 8000000 in
theorem gr_s (w : World) : Calls Tryz.prog 22 #[.string ⟨#[115]⟩] w (LkP (.bool true) w) := by
  have HP : Hid (LkP (.bool true) w (.returned (.bool true)) w) := ⟨rfl, Below.refl _ _⟩
  go_enter Tryz.func22, Tryz.ntmps22
  go_wp2
  go_ret
  exact HP.out

set_option maxRecDepth 100000 in
set_option maxHeartbeats 8000000 in
theorem gr_tr (w : World) : Calls Tryz.prog 22 #[.string ⟨#[116, 114]⟩] w (LkP (.bool true) w) := by
  have HP : Hid (LkP (.bool true) w (.returned (.bool true)) w) := ⟨rfl, Below.refl _ _⟩
  go_enter Tryz.func22, Tryz.ntmps22
  go_wp2
  go_ret
  exact HP.out

set_option maxRecDepth 100000 in
set_option maxHeartbeats 8000000 in
theorem gr_none (s : ByteArray) (hx : ∀ u, u ∈ grL → (s.toList == u) = false) (w : World) : Calls Tryz.prog 22 #[.string s] w (LkP (.bool false) w) := by
  have c0 : (s.toList == [109, 121]) = false := hx [109, 121] (by simp [grL])
  have c1 : (s.toList == [111, 117, 114]) = false := hx [111, 117, 114] (by simp [grL])
  have c2 : (s.toList == [108, 111, 99, 97, 108]) = false := hx [108, 111, 99, 97, 108] (by simp [grL])
  have c3 : (s.toList == [115, 117, 98]) = false := hx [115, 117, 98] (by simp [grL])
  have c4 : (s.toList == [114, 101, 116, 117, 114, 110]) = false := hx [114, 101, 116, 117, 114, 110] (by simp [grL])
  have c5 : (s.toList == [112, 97, 99, 107, 97, 103, 101]) = false := hx [112, 97, 99, 107, 97, 103, 101] (by simp [grL])
  have c6 : (s.toList == [108, 97, 115, 116]) = false := hx [108, 97, 115, 116] (by simp [grL])
  have c7 : (s.toList == [110, 101, 120, 116]) = false := hx [110, 101, 120, 116] (by simp [grL])
  have c8 : (s.toList == [105, 102]) = false := hx [105, 102] (by simp [grL])
  have c9 : (s.toList == [117, 110, 108, 101, 115, 115]) = false := hx [117, 110, 108, 101, 115, 115] (by simp [grL])
  have c10 : (s.toList == [101, 108, 115, 105, 102]) = false := hx [101, 108, 115, 105, 102] (by simp [grL])
  have c11 : (s.toList == [101, 108, 115, 101]) = false := hx [101, 108, 115, 101] (by simp [grL])
  have c12 : (s.toList == [119, 104, 105, 108, 101]) = false := hx [119, 104, 105, 108, 101] (by simp [grL])
  have c13 : (s.toList == [117, 110, 116, 105, 108]) = false := hx [117, 110, 116, 105, 108] (by simp [grL])
  have c14 : (s.toList == [102, 111, 114]) = false := hx [102, 111, 114] (by simp [grL])
  have c15 : (s.toList == [100, 111]) = false := hx [100, 111] (by simp [grL])
  have c16 : (s.toList == [101, 118, 97, 108]) = false := hx [101, 118, 97, 108] (by simp [grL])
  have c17 : (s.toList == [109, 97, 112]) = false := hx [109, 97, 112] (by simp [grL])
  have c18 : (s.toList == [103, 114, 101, 112]) = false := hx [103, 114, 101, 112] (by simp [grL])
  have c19 : (s.toList == [115, 111, 114, 116]) = false := hx [115, 111, 114, 116] (by simp [grL])
  have c20 : (s.toList == [97, 110, 100]) = false := hx [97, 110, 100] (by simp [grL])
  have c21 : (s.toList == [111, 114]) = false := hx [111, 114] (by simp [grL])
  have c22 : (s.toList == [110, 111, 116]) = false := hx [110, 111, 116] (by simp [grL])
  have c23 : (s.toList == [120]) = false := hx [120] (by simp [grL])
  have c24 : (s.toList == [108, 116]) = false := hx [108, 116] (by simp [grL])
  have c25 : (s.toList == [103, 116]) = false := hx [103, 116] (by simp [grL])
  have c26 : (s.toList == [108, 101]) = false := hx [108, 101] (by simp [grL])
  have c27 : (s.toList == [103, 101]) = false := hx [103, 101] (by simp [grL])
  have c28 : (s.toList == [101, 113]) = false := hx [101, 113] (by simp [grL])
  have c29 : (s.toList == [110, 101]) = false := hx [110, 101] (by simp [grL])
  have c30 : (s.toList == [99, 109, 112]) = false := hx [99, 109, 112] (by simp [grL])
  have c31 : (s.toList == [66, 69, 71, 73, 78]) = false := hx [66, 69, 71, 73, 78] (by simp [grL])
  have c32 : (s.toList == [69, 78, 68]) = false := hx [69, 78, 68] (by simp [grL])
  have c33 : (s.toList == [113]) = false := hx [113] (by simp [grL])
  have c34 : (s.toList == [113, 113]) = false := hx [113, 113] (by simp [grL])
  have c35 : (s.toList == [113, 119]) = false := hx [113, 119] (by simp [grL])
  have c36 : (s.toList == [109]) = false := hx [109] (by simp [grL])
  have c37 : (s.toList == [115]) = false := hx [115] (by simp [grL])
  have c38 : (s.toList == [116, 114]) = false := hx [116, 114] (by simp [grL])
  have HP : Hid (LkP (.bool false) w (.returned (.bool false)) w) := ⟨rfl, Below.refl _ _⟩
  clear hx
  go_enter Tryz.func22, Tryz.ntmps22
  go_wp2
  go_ret
  exact HP.out

set_option maxRecDepth 100000 in
set_option maxHeartbeats 8000000 in
theorem in_any (l : List (List UInt8)) (s : ByteArray) (g c : Nat) (w : World) (hn : l.length ≤ 1000) (hg : g < w.heap.size) (hr : ∀ (i : Nat) (h : i < l.length), w.cell? ⟨g, i, none⟩ = some (.string (bs l[i]))) :
    Calls Tryz.prog 24 #[.string s, .slice (some ⟨g, 0, none⟩) l.length c] w (LkP (.bool (l.any (· == s.toList))) w) := by
  have HP : Hid (∀ b w', b = l.any (· == s.toList) → Below w.heap.size w w' → LkP (.bool (l.any (· == s.toList))) w (.returned (.bool b)) w') := fun b w' h1 h2 => ⟨by rw [h1], h2⟩
  have HR := Lib.hid hr
  have HT : Hid (∀ (i : Nat) (h : i < l.length), (l[i] == s.toList) = true → true = l.any (· == s.toList)) := fun i h he => by
    symm
    rw [List.any_eq_true]
    exact ⟨l[i], List.getElem_mem h, he⟩
  have HF : Hid ((∀ (i : Nat) (h : i < l.length), (l[i] == s.toList) = false) → false = l.any (· == s.toList)) := fun h => by
    symm
    rw [List.any_eq_false]
    intro x hx
    obtain ⟨i, hi, rfl⟩ := List.getElem_of_mem hx
    rw [h i hi]
    decide
  clear hr
  go_enter Tryz.func24, Tryz.ntmps24
  go_wp2
  go_loopw [5] (fun i wr => ∃ k : Nat, k ≤ l.length ∧ i = .int .i64 (k : Int) ∧ Hid (∀ (j : Nat) (h : j < l.length), j < k → (l[j] == s.toList) = false) ∧ wr = w) (fun i _ => l.length - (intOf i).toNat)
  case atStart => exact ⟨0, Nat.zero_le _, rfl, fun j _ h => absurd h (Nat.not_lt_zero _), rfl⟩
  case round =>
    obtain ⟨k, hk, rfl, hpre, rfl⟩ := hrel
    by_cases hlt : k < l.length
    · have q0 := HR.out k hlt
      have x1 : (k : Int) < (l.length : Int) := by omega
      have x3 : IntKind.i64.wrap ((k : Int) + 1) = (k : Int) + 1 := IntWalk.i64_in _ (by omega)
      have hbt : (bs l[k]).toList = l[k] := by
        rw [Lib.toList_data]
        rfl
      cases hz : (l[k] == s.toList) with
      | true =>
        have HZ := Lib.hid (HT.out k hlt hz)
        have hz2 : ((bs l[k]).toList == s.toList) = true := by rw [hbt]; exact hz
        generalize bs l[k] = y at *
        clear hz hbt
        go_wp2
        go_ret
        exact HP.out _ _ HZ.out (Below.refl _ _)
      | false =>
        have HZ : Hid (∀ (j : Nat) (h : j < l.length), j < k + 1 → (l[j] == s.toList) = false) := fun j h hj => by
          by_cases hjk : j = k
          · subst hjk
            exact hz
          · exact hpre.out j h (by omega)
        have hz2 : ((bs l[k]).toList == s.toList) = false := by rw [hbt]; exact hz
        generalize bs l[k] = y at *
        clear hz hbt
        go_wp2
        go_roundw
        case rel => exact ⟨k + 1, hlt, by first | rfl | go_num, HZ, by first | trivial | rfl⟩
        case measure => simp [intOf]; omega
    · have x1 : (l.length : Int) ≤ (k : Int) := by omega
      have HE := Lib.hid (HF.out fun i h => hpre.out i h (by omega))
      go_wp2
      go_ret
      exact HP.out _ _ HE.out (Below.refl _ _)

set_option maxRecDepth 100000 in
set_option maxHeartbeats 8000000 in
theorem grammar_any (w : World) : Calls Tryz.prog 25 #[] w fun e w' => e = .returned (.slice (some ⟨w.heap.size, 0, none⟩) grL.length 39) ∧ Below w.heap.size w w' ∧ ∀ (i : Nat) (h : i < grL.length), w'.cell? ⟨w.heap.size, i, none⟩ = some (.string (bs grL[i])) := by
  have HB : Hid (∀ o, Below w.heap.size w (w.alloc o)) := fun o => (Below.refl _ _).alloc (Nat.le_refl _) _
  have HC : Hid (∀ (i : Nat) (h : i < grL.length), (w.alloc (.cells #[.string ⟨#[109, 121]⟩, .string ⟨#[111, 117, 114]⟩, .string ⟨#[108, 111, 99, 97, 108]⟩, .string ⟨#[115, 117, 98]⟩, .string ⟨#[114, 101, 116, 117, 114, 110]⟩, .string ⟨#[112, 97, 99, 107, 97, 103, 101]⟩, .string ⟨#[108, 97, 115, 116]⟩, .string ⟨#[110, 101, 120, 116]⟩, .string ⟨#[105, 102]⟩, .string ⟨#[117, 110, 108, 101, 115, 115]⟩, .string ⟨#[101, 108, 115, 105, 102]⟩, .string ⟨#[101, 108, 115, 101]⟩, .string ⟨#[119, 104, 105, 108, 101]⟩, .string ⟨#[117, 110, 116, 105, 108]⟩, .string ⟨#[102, 111, 114]⟩, .string ⟨#[100, 111]⟩, .string ⟨#[101, 118, 97, 108]⟩, .string ⟨#[109, 97, 112]⟩, .string ⟨#[103, 114, 101, 112]⟩, .string ⟨#[115, 111, 114, 116]⟩, .string ⟨#[97, 110, 100]⟩, .string ⟨#[111, 114]⟩, .string ⟨#[110, 111, 116]⟩, .string ⟨#[120]⟩, .string ⟨#[108, 116]⟩, .string ⟨#[103, 116]⟩, .string ⟨#[108, 101]⟩, .string ⟨#[103, 101]⟩, .string ⟨#[101, 113]⟩, .string ⟨#[110, 101]⟩, .string ⟨#[99, 109, 112]⟩, .string ⟨#[66, 69, 71, 73, 78]⟩, .string ⟨#[69, 78, 68]⟩, .string ⟨#[113]⟩, .string ⟨#[113, 113]⟩, .string ⟨#[113, 119]⟩, .string ⟨#[109]⟩, .string ⟨#[115]⟩, .string ⟨#[116, 114]⟩] 9)).cell? ⟨w.heap.size, i, none⟩ = some (.string (bs grL[i]))) := fun i h => by
    rw [Lib.cell_of_heap (Go.MapKept.heap_alloc w _).1]
    have : ∀ (i : Nat) (h : i < grL.length), (#[.string ⟨#[109, 121]⟩, .string ⟨#[111, 117, 114]⟩, .string ⟨#[108, 111, 99, 97, 108]⟩, .string ⟨#[115, 117, 98]⟩, .string ⟨#[114, 101, 116, 117, 114, 110]⟩, .string ⟨#[112, 97, 99, 107, 97, 103, 101]⟩, .string ⟨#[108, 97, 115, 116]⟩, .string ⟨#[110, 101, 120, 116]⟩, .string ⟨#[105, 102]⟩, .string ⟨#[117, 110, 108, 101, 115, 115]⟩, .string ⟨#[101, 108, 115, 105, 102]⟩, .string ⟨#[101, 108, 115, 101]⟩, .string ⟨#[119, 104, 105, 108, 101]⟩, .string ⟨#[117, 110, 116, 105, 108]⟩, .string ⟨#[102, 111, 114]⟩, .string ⟨#[100, 111]⟩, .string ⟨#[101, 118, 97, 108]⟩, .string ⟨#[109, 97, 112]⟩, .string ⟨#[103, 114, 101, 112]⟩, .string ⟨#[115, 111, 114, 116]⟩, .string ⟨#[97, 110, 100]⟩, .string ⟨#[111, 114]⟩, .string ⟨#[110, 111, 116]⟩, .string ⟨#[120]⟩, .string ⟨#[108, 116]⟩, .string ⟨#[103, 116]⟩, .string ⟨#[108, 101]⟩, .string ⟨#[103, 101]⟩, .string ⟨#[101, 113]⟩, .string ⟨#[110, 101]⟩, .string ⟨#[99, 109, 112]⟩, .string ⟨#[66, 69, 71, 73, 78]⟩, .string ⟨#[69, 78, 68]⟩, .string ⟨#[113]⟩, .string ⟨#[113, 113]⟩, .string ⟨#[113, 119]⟩, .string ⟨#[109]⟩, .string ⟨#[115]⟩, .string ⟨#[116, 114]⟩] : Array Value)[i]? = some (.string (bs grL[i])) := by
      intro i h
      have h2 : i < 39 := h
      match i, h2 with
      | 0, _ => rfl
      | 1, _ => rfl
      | 2, _ => rfl
      | 3, _ => rfl
      | 4, _ => rfl
      | 5, _ => rfl
      | 6, _ => rfl
      | 7, _ => rfl
      | 8, _ => rfl
      | 9, _ => rfl
      | 10, _ => rfl
      | 11, _ => rfl
      | 12, _ => rfl
      | 13, _ => rfl
      | 14, _ => rfl
      | 15, _ => rfl
      | 16, _ => rfl
      | 17, _ => rfl
      | 18, _ => rfl
      | 19, _ => rfl
      | 20, _ => rfl
      | 21, _ => rfl
      | 22, _ => rfl
      | 23, _ => rfl
      | 24, _ => rfl
      | 25, _ => rfl
      | 26, _ => rfl
      | 27, _ => rfl
      | 28, _ => rfl
      | 29, _ => rfl
      | 30, _ => rfl
      | 31, _ => rfl
      | 32, _ => rfl
      | 33, _ => rfl
      | 34, _ => rfl
      | 35, _ => rfl
      | 36, _ => rfl
      | 37, _ => rfl
      | 38, _ => rfl
      | i + 39, h2 => exact absurd h2 (by omega)
    exact this i h
  go_enter Tryz.func25, Tryz.ntmps25
  go_wp2
  go_ret
  exact ⟨rfl, HB.out _, HC.out⟩


end Go.Proofs.YtaocbhfehncdcaaGreatDoor
