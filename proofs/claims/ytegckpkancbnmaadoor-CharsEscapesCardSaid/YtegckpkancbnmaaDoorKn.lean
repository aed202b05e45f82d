/-
  The law's known(): true in every world. No condition.
-/
import Derived.Test.YtegckpkancbnmaaDoorSb
namespace Go.Proofs.YtegckpkancbnmaaDoor
open Go.RowKit

def KnownPost (w : World) (e : Ending) (w' : World) : Prop := e = .returned (.bool true) ∧ Below w.heap.size w w'
def LitP (x : ByteArray) (w : World) (e : Ending) (w' : World) : Prop := e = .returned (.tuple #[.string x, .int .i64 0]) ∧ Below w.heap.size w w'

theorem known_fold (w : World) : Calls Tryd.prog 23 #[.string ⟨#[83, 116, 114, 97, 195, 159, 101]⟩] w (LitP ⟨#[115, 116, 114, 97, 115, 115, 101]⟩ w) := by
  refine (Fold_ok ⟨#[83, 116, 114, 97, 195, 159, 101]⟩ [83, 116, 114, 97, 223, 101] (by unfold allC; decide) (by decide +kernel) (by decide) w).mono ?_
  rintro e w' ⟨rfl, hb⟩
  refine ⟨?_, hb⟩
  rw [show frmL fdC [83, 116, 114, 97, 223, 101] = [115, 116, 114, 97, 115, 115, 101] by decide +kernel, show frmE fdC [83, 116, 114, 97, 223, 101] = 0 by decide +kernel]
  rfl
theorem known_upper (w : World) : Calls Tryd.prog 24 #[.string ⟨#[83, 116, 114, 97, 195, 159, 101]⟩] w (LitP ⟨#[83, 84, 82, 65, 83, 83, 69]⟩ w) := by
  refine (Upper_ok ⟨#[83, 116, 114, 97, 195, 159, 101]⟩ [83, 116, 114, 97, 223, 101] (by unfold allC; decide) (by decide +kernel) (by decide) w).mono ?_
  rintro e w' ⟨rfl, hb⟩
  refine ⟨?_, hb⟩
  rw [show frmL cpC [83, 116, 114, 97, 223, 101] = [83, 84, 82, 65, 83, 83, 69] by decide +kernel, show frmE cpC [83, 116, 114, 97, 223, 101] = 0 by decide +kernel]
  rfl
theorem known_sub (w : World) : Calls Tryd.prog 25 #[.string ⟨#[97, 98, 99, 100, 101]⟩, .int .i64 (-3), .int .i64 2] w (LitP ⟨#[99, 100]⟩ w) := by
  refine (Sub_in ⟨#[97, 98, 99, 100, 101]⟩ [97, 98, 99, 100, 101] (by unfold allC; decide) (by decide +kernel) (by decide) (-3) 2 (by decide) (by decide) (by decide) (by decide) 2 2 (by unfold SubIs; decide) w).mono ?_
  rintro e w' ⟨rfl, hb⟩
  refine ⟨?_, hb⟩
  rw [show ens ((List.drop 2 [97, 98, 99, 100, 101]).take 2) = [99, 100] by decide +kernel]
  rfl
theorem known_title (w : World) : Calls Tryd.prog 26 #[.string ⟨#[239, 172, 129, 88]⟩] w (LitP ⟨#[70, 105, 120]⟩ w) := by
  have h := Title_ok [64257, 88] (by unfold allC; decide) (by decide +kernel) w
  rw [show bs (ens [64257, 88]) = ⟨#[239, 172, 129, 88]⟩ by decide +kernel] at h
  refine h.mono ?_
  rintro e w' ⟨rfl, hb⟩
  refine ⟨?_, hb⟩
  rw [show szL (ens (ttL [64257, 88])) = [70, 105, 120] by decide +kernel, show szE (ens (ttL [64257, 88])) = 0 by decide +kernel]
  rfl

set_option maxHeartbeats 1000000 in
theorem known_any (w : World) : Calls Tryd.prog 8 #[] w (KnownPost w) := by
  have H1 := Lib.hid known_fold
  have H2 := Lib.hid known_upper
  have H3 := Lib.hid known_sub
  have H4 := Lib.hid known_title
  go_enter Tryd.func8, Tryd.ntmps8
  go_wp2_with fail
  refine (H1.out _).mono ?_
  rintro e w1 ⟨rfl, hb1⟩
  have HB1 := Lib.hid hb1
  clear hb1
  go_wp2_with fail
  refine (H2.out _).mono ?_
  rintro e w2 ⟨rfl, hb2⟩
  have HB2 : Hid (Below w.heap.size w w2) := HB1.out.trans (hb2.mono HB1.out.size)
  clear hb2
  go_wp2_with fail
  refine (H3.out _).mono ?_
  rintro e w3 ⟨rfl, hb3⟩
  have HB3 : Hid (Below w.heap.size w w3) := HB2.out.trans (hb3.mono HB2.out.size)
  clear hb3
  go_wp2_with fail
  refine (H4.out _).mono ?_
  rintro e w4 ⟨rfl, hb4⟩
  have HB4 : Hid (Below w.heap.size w w4) := HB3.out.trans (hb4.mono HB3.out.size)
  clear hb4
  go_wp2
  go_ret
  exact ⟨rfl, HB4.out⟩

end Go.Proofs.YtegckpkancbnmaaDoor
