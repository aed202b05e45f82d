/-
  A text without its digits in front. Conditions: none.
-/
import Derived.Test.YtnfoafcpcabpmaaDoorRd
import Derived.Shelf.Strings.SlTrimAscii
namespace Go.Proofs.YtnfoafcpcabpmaaDoor
open Go.RowKit

def dgL : List UInt8 := [48, 49, 50, 51, 52, 53, 54, 55, 56, 57]
set_option maxRecDepth 100000 in
theorem dgL_all : ∀ n : Nat, n < 256 → dgL.contains (UInt8.ofNat n) = dgB (UInt8.ofNat n) := by decide
theorem dgL_has (b : UInt8) : dgL.contains b = dgB b := by
  have := dgL_all b.toNat b.toNat_lt
  rwa [UInt8.ofNat_toNat] at this
theorem trimDigits (s : ByteArray) (w : World) : Calls Tryd.prog 57 #[.string s, .string ⟨#[48, 49, 50, 51, 52, 53, 54, 55, 56, 57]⟩] w fun e w' => e = .returned (.string ⟨(s.data.toList.dropWhile dgB).toArray⟩) ∧ Below w.heap.size w w' := by
  refine (Any.strings_TrimLeft_ascii Tryd.lays161 (fun w => by kernel_rfl) (by kernel_rfl) s ⟨#[48, 49, 50, 51, 52, 53, 54, 55, 56, 57]⟩ w (by decide) (fun j b hb => ?_)).mono ?_
  · have : b ∈ dgL := List.mem_of_getElem? hb
    have h2 : ∀ c ∈ dgL, c.toNat < 128 := by decide
    exact h2 b this
  · rintro e w' ⟨rfl, h2⟩
    refine ⟨?_, h2⟩
    congr 3
    unfold Lib.trimLeftS
    show (List.dropWhile (fun x => dgL.contains x) s.data.toList).toArray = _
    rw [show (fun x => dgL.contains x) = dgB from funext dgL_has]
/-- How many digits a text begins with. -/
def dgC (l : List UInt8) : Nat := (l.takeWhile dgB).length
theorem dgC_drop (l : List UInt8) : (l.dropWhile dgB).length + dgC l = l.length := by
  have := congrArg List.length (List.takeWhile_append_dropWhile (p := dgB) (l := l))
  rw [List.length_append] at this
  unfold dgC
  omega

end Go.Proofs.YtnfoafcpcabpmaaDoor
