/-
  No cell of these rows narrows 'for every input' (looked for: loops, veiled, ifaces, maps, wideKeys, modest, calm, conditions, laid).
  DERIVED. THE GIVEN ROWS OF THIS SEAT. 8 by the template 'for every input the law returns true; each argument reads behind the call as it read before'; 0 by the template 'total and deterministic' (their statements: YtdjpjknbbedamaaTotals.lean).
  GIVEN WITH THE SEED: the statements are not yours to turn. If you find one false, say at which input.
  Laid BY PROGRAM, IN A SANDBOX (cutbox-rows.mjs): the forced cells as the released guide's own fill.sh prints them over the translation 96a1241e03505da0… (all of the seat's roots in one cut). By AI agents, Wed Nov 11 2026. No macro, syntax, notation, axiom, sorry.
-/
import Derived.Test.YtdjpjknbbedamaaChecked
import GoSem.Claim
import GoSem.ClaimJoined
import GoSem.ClaimMapViews
import Derived.JoinedTies
import Derived.KernelRfl
namespace Go.Proofs.Ytdjpjknbbedamaa
/- THE CELL 'sum', in the pinned program and in every row, IS THE sha256 OF THE DUMP (.gsa) THAT YtdjpjknbbedamaaProg.lean LOADS. Nothing in Lean hashes anything: it is a label: what it is worth is what the hold of that sum in a sandbox is worth. -/
noncomputable def Try.pinned : Pinned := { name := "ytdjpjknbbedamaa", sum := "96a1241e03505da07e42397473273110978b11e631236973a721f20354ba7010", checked := Try.checked }
namespace Rows
def none {H : Type} : Left H := { results := [], args := [] }

/-- 'motleylaw02.CharsReads': WHATEVER THE INPUT: true; the input reads as it did. -/
def charsReadsSpec : ChangeSpec := { name := "charsReads", fn := fun _ => fun
  | [d] => { results := [.lit (.bool true)], args := [d] }
  | _ => none }
def charsReadsRow : OpenClaim := { program := "ytdjpjknbbedamaa", sum := "96a1241e03505da07e42397473273110978b11e631236973a721f20354ba7010", func := "motley/motleylaw02.CharsReads", spec := "charsReads", inPlace := ["internal/abi.NoEscape"], unfollowed := true, recurses := true, apart := false }
def CharsReadsSaid : Prop := charsReadsRow.holds Try.pinned (OpenSpec.ofChange charsReadsSpec)

/-- ITS FALSE NEIGHBOUR: 'it returns false'. Refute it at one input. -/
def charsReadsWrong : ChangeSpec := { name := "charsReads", fn := fun _ => fun
  | [d] => { results := [.lit (.bool false)], args := [d] }
  | _ => none }
def CharsReadsWrongFalsely : Prop := charsReadsRow.holds Try.pinned (OpenSpec.ofChange charsReadsWrong)

/-- 'motleylaw02.CharsWrites': WHATEVER THE INPUT: true; the input reads as it did. -/
def charsWritesSpec : ChangeSpec := { name := "charsWrites", fn := fun _ => fun
  | [d] => { results := [.lit (.bool true)], args := [d] }
  | _ => none }
def charsWritesRow : OpenClaim := { program := "ytdjpjknbbedamaa", sum := "96a1241e03505da07e42397473273110978b11e631236973a721f20354ba7010", func := "motley/motleylaw02.CharsWrites", spec := "charsWrites", inPlace := ["internal/abi.NoEscape"], unfollowed := true, recurses := true, apart := false }
def CharsWritesSaid : Prop := charsWritesRow.holds Try.pinned (OpenSpec.ofChange charsWritesSpec)

/-- ITS FALSE NEIGHBOUR: 'it returns false'. Refute it at one input. -/
def charsWritesWrong : ChangeSpec := { name := "charsWrites", fn := fun _ => fun
  | [d] => { results := [.lit (.bool false)], args := [d] }
  | _ => none }
def CharsWritesWrongFalsely : Prop := charsWritesRow.holds Try.pinned (OpenSpec.ofChange charsWritesWrong)

/-- 'motleylaw02.CharsClasses': WHATEVER THE INPUT: true; the input reads as it did. -/
def charsClassesSpec : ChangeSpec := { name := "charsClasses", fn := fun _ => fun
  | [d1, d2] => { results := [.lit (.bool true)], args := [d1, d2] }
  | _ => none }
def charsClassesRow : OpenClaim := { program := "ytdjpjknbbedamaa", sum := "96a1241e03505da07e42397473273110978b11e631236973a721f20354ba7010", func := "motley/motleylaw02.CharsClasses", spec := "charsClasses", inPlace := ["internal/abi.NoEscape"], unfollowed := true, recurses := true, apart := false }
def CharsClassesSaid : Prop := charsClassesRow.holds Try.pinned (OpenSpec.ofChange charsClassesSpec)

/-- ITS FALSE NEIGHBOUR: 'it returns false'. Refute it at one input. -/
def charsClassesWrong : ChangeSpec := { name := "charsClasses", fn := fun _ => fun
  | [d1, d2] => { results := [.lit (.bool false)], args := [d1, d2] }
  | _ => none }
def CharsClassesWrongFalsely : Prop := charsClassesRow.holds Try.pinned (OpenSpec.ofChange charsClassesWrong)

/-- 'motleylaw02.CharsForms': WHATEVER THE INPUT: true; the input reads as it did. -/
def charsFormsSpec : ChangeSpec := { name := "charsForms", fn := fun _ => fun
  | [d] => { results := [.lit (.bool true)], args := [d] }
  | _ => none }
def charsFormsRow : OpenClaim := { program := "ytdjpjknbbedamaa", sum := "96a1241e03505da07e42397473273110978b11e631236973a721f20354ba7010", func := "motley/motleylaw02.CharsForms", spec := "charsForms", inPlace := ["internal/abi.NoEscape"], unfollowed := true, recurses := true, apart := false }
def CharsFormsSaid : Prop := charsFormsRow.holds Try.pinned (OpenSpec.ofChange charsFormsSpec)

/-- ITS FALSE NEIGHBOUR: 'it returns false'. Refute it at one input. -/
def charsFormsWrong : ChangeSpec := { name := "charsForms", fn := fun _ => fun
  | [d] => { results := [.lit (.bool false)], args := [d] }
  | _ => none }
def CharsFormsWrongFalsely : Prop := charsFormsRow.holds Try.pinned (OpenSpec.ofChange charsFormsWrong)

/-- 'motleylaw02.CharsFolds': WHATEVER THE INPUT: true; the input reads as it did. -/
def charsFoldsSpec : ChangeSpec := { name := "charsFolds", fn := fun _ => fun
  | [d1, d2] => { results := [.lit (.bool true)], args := [d1, d2] }
  | _ => none }
def charsFoldsRow : OpenClaim := { program := "ytdjpjknbbedamaa", sum := "96a1241e03505da07e42397473273110978b11e631236973a721f20354ba7010", func := "motley/motleylaw02.CharsFolds", spec := "charsFolds", inPlace := ["internal/abi.NoEscape"], unfollowed := true, recurses := true, apart := false }
def CharsFoldsSaid : Prop := charsFoldsRow.holds Try.pinned (OpenSpec.ofChange charsFoldsSpec)

/-- ITS FALSE NEIGHBOUR: 'it returns false'. Refute it at one input. -/
def charsFoldsWrong : ChangeSpec := { name := "charsFolds", fn := fun _ => fun
  | [d1, d2] => { results := [.lit (.bool false)], args := [d1, d2] }
  | _ => none }
def CharsFoldsWrongFalsely : Prop := charsFoldsRow.holds Try.pinned (OpenSpec.ofChange charsFoldsWrong)

/-- 'motleylaw02.CharsSubs': WHATEVER THE INPUT: true; the input reads as it did. -/
def charsSubsSpec : ChangeSpec := { name := "charsSubs", fn := fun _ => fun
  | [d1, d2, d3] => { results := [.lit (.bool true)], args := [d1, d2, d3] }
  | _ => none }
def charsSubsRow : OpenClaim := { program := "ytdjpjknbbedamaa", sum := "96a1241e03505da07e42397473273110978b11e631236973a721f20354ba7010", func := "motley/motleylaw02.CharsSubs", spec := "charsSubs", inPlace := ["internal/abi.NoEscape"], unfollowed := true, recurses := true, apart := false }
def CharsSubsSaid : Prop := charsSubsRow.holds Try.pinned (OpenSpec.ofChange charsSubsSpec)

/-- ITS FALSE NEIGHBOUR: 'it returns false'. Refute it at one input. -/
def charsSubsWrong : ChangeSpec := { name := "charsSubs", fn := fun _ => fun
  | [d1, d2, d3] => { results := [.lit (.bool false)], args := [d1, d2, d3] }
  | _ => none }
def CharsSubsWrongFalsely : Prop := charsSubsRow.holds Try.pinned (OpenSpec.ofChange charsSubsWrong)

/-- 'motleylaw02.CharsFinds': WHATEVER THE INPUT: true; the input reads as it did. -/
def charsFindsSpec : ChangeSpec := { name := "charsFinds", fn := fun _ => fun
  | [d1, d2, d3] => { results := [.lit (.bool true)], args := [d1, d2, d3] }
  | _ => none }
def charsFindsRow : OpenClaim := { program := "ytdjpjknbbedamaa", sum := "96a1241e03505da07e42397473273110978b11e631236973a721f20354ba7010", func := "motley/motleylaw02.CharsFinds", spec := "charsFinds", inPlace := ["internal/abi.NoEscape"], unfollowed := true, recurses := true, apart := false }
def CharsFindsSaid : Prop := charsFindsRow.holds Try.pinned (OpenSpec.ofChange charsFindsSpec)

/-- ITS FALSE NEIGHBOUR: 'it returns false'. Refute it at one input. -/
def charsFindsWrong : ChangeSpec := { name := "charsFinds", fn := fun _ => fun
  | [d1, d2, d3] => { results := [.lit (.bool false)], args := [d1, d2, d3] }
  | _ => none }
def CharsFindsWrongFalsely : Prop := charsFindsRow.holds Try.pinned (OpenSpec.ofChange charsFindsWrong)

/-- 'motleylaw02.CharsTurns': WHATEVER THE INPUT: true; the input reads as it did. -/
def charsTurnsSpec : ChangeSpec := { name := "charsTurns", fn := fun _ => fun
  | [d] => { results := [.lit (.bool true)], args := [d] }
  | _ => none }
def charsTurnsRow : OpenClaim := { program := "ytdjpjknbbedamaa", sum := "96a1241e03505da07e42397473273110978b11e631236973a721f20354ba7010", func := "motley/motleylaw02.CharsTurns", spec := "charsTurns", inPlace := ["internal/abi.NoEscape"], unfollowed := true, recurses := true, apart := false }
def CharsTurnsSaid : Prop := charsTurnsRow.holds Try.pinned (OpenSpec.ofChange charsTurnsSpec)

/-- ITS FALSE NEIGHBOUR: 'it returns false'. Refute it at one input. -/
def charsTurnsWrong : ChangeSpec := { name := "charsTurns", fn := fun _ => fun
  | [d] => { results := [.lit (.bool false)], args := [d] }
  | _ => none }
def CharsTurnsWrongFalsely : Prop := charsTurnsRow.holds Try.pinned (OpenSpec.ofChange charsTurnsWrong)

/- THE SECOND FORM. 'bulk': how many values and letters a reading holds, each counted each time it is reached (what is shared counts as often as it is met; a slice's spare places count too). A statement '..UptoSaid' is the law's where the arguments, and the package variables that the reading takes, are together of bulk at most 1048576: NARROWER than '..Said'. Prove '..Said' where nothing that the law and all that it calls make is longer than what came in: it says more and counts as full. Else prove '..UptoSaid'. A law counts once. -/
mutual
def uptoBulk {H : Type} : DataW H → Nat
  | .lit (.string bytes) => bytes.length + 1
  | .lit _ => 1
  | .nil => 1
  | .ptr d => uptoBulk d + 1
  | .slice elems spare => uptoBulkAll elems + uptoBulkAll spare + 1
  | .agg parts => uptoBulkAll parts + 1
  | .iface _ d => uptoBulk d + 1
  | .map entries => uptoBulkEntries entries + 1
  | .held _ => 1
def uptoBulkAll {H : Type} : List (DataW H) → Nat
  | [] => 0
  | d :: r => uptoBulk d + uptoBulkAll r
def uptoBulkEntries {H : Type} : List (Lit × DataW H) → Nat
  | [] => 0
  | x :: r => uptoBulkEntry x + uptoBulkEntries r
def uptoBulkEntry {H : Type} : Lit × DataW H → Nat
  | (.string bytes, d) => bytes.length + uptoBulk d + 1
  | (_, d) => uptoBulk d + 1
 end
def uptoSmall : (H : Type) → List (DataW H) → Bool := fun _ ds => decide (uptoBulkAll ds ≤ 1048576)
def OpenSpec.upto (s : _root_.Go.ChangeSpec) : _root_.Go.OpenSpec := { _root_.Go.OpenSpec.ofChange s with cond := some uptoSmall }

/-- 'motleylaw02.CharsReads', WHERE WHAT IT READS IS OF BULK AT MOST 1048576: true; the input reads as it did. -/
def charsReadsUptoRow : OpenClaim := { program := "ytdjpjknbbedamaa", sum := "96a1241e03505da07e42397473273110978b11e631236973a721f20354ba7010", func := "motley/motleylaw02.CharsReads", spec := "charsReads", inPlace := ["internal/abi.NoEscape"], unfollowed := true, recurses := true, apart := false, narrowed := true }
def CharsReadsUptoSaid : Prop := charsReadsUptoRow.holds Try.pinned (OpenSpec.upto charsReadsSpec)

/-- 'motleylaw02.CharsWrites', WHERE WHAT IT READS IS OF BULK AT MOST 1048576: true; the input reads as it did. -/
def charsWritesUptoRow : OpenClaim := { program := "ytdjpjknbbedamaa", sum := "96a1241e03505da07e42397473273110978b11e631236973a721f20354ba7010", func := "motley/motleylaw02.CharsWrites", spec := "charsWrites", inPlace := ["internal/abi.NoEscape"], unfollowed := true, recurses := true, apart := false, narrowed := true }
def CharsWritesUptoSaid : Prop := charsWritesUptoRow.holds Try.pinned (OpenSpec.upto charsWritesSpec)

/-- 'motleylaw02.CharsClasses', WHERE WHAT IT READS IS OF BULK AT MOST 1048576: true; the input reads as it did. -/
def charsClassesUptoRow : OpenClaim := { program := "ytdjpjknbbedamaa", sum := "96a1241e03505da07e42397473273110978b11e631236973a721f20354ba7010", func := "motley/motleylaw02.CharsClasses", spec := "charsClasses", inPlace := ["internal/abi.NoEscape"], unfollowed := true, recurses := true, apart := false, narrowed := true }
def CharsClassesUptoSaid : Prop := charsClassesUptoRow.holds Try.pinned (OpenSpec.upto charsClassesSpec)

/-- 'motleylaw02.CharsForms', WHERE WHAT IT READS IS OF BULK AT MOST 1048576: true; the input reads as it did. -/
def charsFormsUptoRow : OpenClaim := { program := "ytdjpjknbbedamaa", sum := "96a1241e03505da07e42397473273110978b11e631236973a721f20354ba7010", func := "motley/motleylaw02.CharsForms", spec := "charsForms", inPlace := ["internal/abi.NoEscape"], unfollowed := true, recurses := true, apart := false, narrowed := true }
def CharsFormsUptoSaid : Prop := charsFormsUptoRow.holds Try.pinned (OpenSpec.upto charsFormsSpec)

/-- 'motleylaw02.CharsFolds', WHERE WHAT IT READS IS OF BULK AT MOST 1048576: true; the input reads as it did. -/
def charsFoldsUptoRow : OpenClaim := { program := "ytdjpjknbbedamaa", sum := "96a1241e03505da07e42397473273110978b11e631236973a721f20354ba7010", func := "motley/motleylaw02.CharsFolds", spec := "charsFolds", inPlace := ["internal/abi.NoEscape"], unfollowed := true, recurses := true, apart := false, narrowed := true }
def CharsFoldsUptoSaid : Prop := charsFoldsUptoRow.holds Try.pinned (OpenSpec.upto charsFoldsSpec)

/-- 'motleylaw02.CharsSubs', WHERE WHAT IT READS IS OF BULK AT MOST 1048576: true; the input reads as it did. -/
def charsSubsUptoRow : OpenClaim := { program := "ytdjpjknbbedamaa", sum := "96a1241e03505da07e42397473273110978b11e631236973a721f20354ba7010", func := "motley/motleylaw02.CharsSubs", spec := "charsSubs", inPlace := ["internal/abi.NoEscape"], unfollowed := true, recurses := true, apart := false, narrowed := true }
def CharsSubsUptoSaid : Prop := charsSubsUptoRow.holds Try.pinned (OpenSpec.upto charsSubsSpec)

/-- 'motleylaw02.CharsFinds', WHERE WHAT IT READS IS OF BULK AT MOST 1048576: true; the input reads as it did. -/
def charsFindsUptoRow : OpenClaim := { program := "ytdjpjknbbedamaa", sum := "96a1241e03505da07e42397473273110978b11e631236973a721f20354ba7010", func := "motley/motleylaw02.CharsFinds", spec := "charsFinds", inPlace := ["internal/abi.NoEscape"], unfollowed := true, recurses := true, apart := false, narrowed := true }
def CharsFindsUptoSaid : Prop := charsFindsUptoRow.holds Try.pinned (OpenSpec.upto charsFindsSpec)

/-- 'motleylaw02.CharsTurns', WHERE WHAT IT READS IS OF BULK AT MOST 1048576: true; the input reads as it did. -/
def charsTurnsUptoRow : OpenClaim := { program := "ytdjpjknbbedamaa", sum := "96a1241e03505da07e42397473273110978b11e631236973a721f20354ba7010", func := "motley/motleylaw02.CharsTurns", spec := "charsTurns", inPlace := ["internal/abi.NoEscape"], unfollowed := true, recurses := true, apart := false, narrowed := true }
def CharsTurnsUptoSaid : Prop := charsTurnsUptoRow.holds Try.pinned (OpenSpec.upto charsTurnsSpec)

end Rows
end Go.Proofs.Ytdjpjknbbedamaa
