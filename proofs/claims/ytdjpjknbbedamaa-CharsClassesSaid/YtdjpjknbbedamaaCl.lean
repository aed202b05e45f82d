/-
  chars.classes: the map of the classes' spans. No condition.
-/
import Derived.Test.YtdjpjknbbedamaaCm
namespace Go.Proofs.Ytdjpjknbbedamaa
open Go.RowKit

/-- The classes, in the order of the code: a name, its spans. -/
def clN : Nat → ByteArray
  | 0 => ⟨#[117, 112, 112, 101, 114]⟩
  | 1 => ⟨#[108, 111, 119, 101, 114]⟩
  | 2 => ⟨#[108, 101, 116, 116, 101, 114]⟩
  | 3 => ⟨#[100, 105, 103, 105, 116]⟩
  | 4 => ⟨#[109, 97, 114, 107]⟩
  | 5 => ⟨#[98, 108, 97, 110, 107]⟩
  | 6 => ⟨#[119, 111, 114, 100]⟩
  | _ => ⟨#[97, 110, 121]⟩
def clS : Nat → List (Nat × Nat)
  | 0 => [(65, 90), (192, 214), (216, 222), (913, 929), (931, 937), (1040, 1071), (7838, 7838), (8490, 8491)]
  | 1 => [(97, 122), (181, 181), (223, 246), (248, 255), (329, 329), (383, 383), (945, 969), (1072, 1103), (64256, 64262)]
  | 2 => [(65, 90), (97, 122), (170, 170), (181, 181), (186, 186), (192, 214), (216, 246), (248, 255), (329, 329), (383, 383), (700, 700), (913, 929), (931, 937), (945, 969), (1040, 1103), (7838, 7838), (8490, 8491), (64256, 64262)]
  | 3 => [(48, 57), (1632, 1641)]
  | 4 => [(768, 879)]
  | 5 => [(9, 13), (32, 32), (133, 133), (160, 160), (8232, 8233)]
  | 6 => [(48, 57), (65, 90), (95, 95), (97, 122), (170, 170), (181, 181), (186, 186), (192, 214), (216, 246), (248, 255), (329, 329), (383, 383), (700, 700), (768, 879), (913, 929), (931, 937), (945, 969), (1040, 1103), (1632, 1641), (7838, 7838), (8490, 8491), (64256, 64262)]
  | _ => [(0, 55295), (57344, 1114111)]
/-- The row of a class: its spans' ends, filled up with zeros. -/
def rowC (l : List (Nat × Nat)) : List Value := l.flatMap (fun p => [.int .i64 p.1, .int .i64 p.2]) ++ List.replicate (44 - 2 * l.length) (.int .i64 0)
def rowV (l : List (Nat × Nat)) : Value := .agg (rowC l).toArray
def tab : List (ByteArray × Value) := [(clN 0, rowV (clS 0)), (clN 1, rowV (clS 1)), (clN 2, rowV (clS 2)), (clN 3, rowV (clS 3)), (clN 4, rowV (clS 4)), (clN 5, rowV (clS 5)), (clN 6, rowV (clS 6)), (clN 7, rowV (clS 7))]

set_option maxRecDepth 100000 in
set_option maxHeartbeats 4000000 in
theorem classes_any (w : World) : Calls Try.prog 57 #[] w fun e w' => e = .returned (.map (some w.heap.size)) ∧ SMap w' w.heap.size tab ∧ Below w.heap.size w w' := by
  have hmm : (Instr.makeMap 70 none).run Try.prog w = .ok (.map (some w.heap.size)) (w.alloc (.map #[] 0)) := @run_makeMap Try.prog 70 w
  have h0 := SMap.made w
  have hb0 : Below w.heap.size w (w.alloc (.map #[] 0)) := (Below.refl _ _).alloc (Nat.le_refl _) _
  generalize w.alloc (.map #[] 0) = w0 at *
  go_enter Try.func57, Try.ntmps57
  go_wp2_with fail
  refine upon_insert h0 Try.underlying70 Try.underlying9 rfl ?_
  intro w1 h1 hb
  rw [Oper.upon_skip]
  have hb1 := hb0.trans hb
  clear hb hb0 h0
  go_wp2_with fail
  refine upon_insert h1 Try.underlying70 Try.underlying9 rfl ?_
  intro w2 h2 hb
  rw [Oper.upon_skip]
  have hb2 := hb1.trans hb
  clear hb hb1 h1
  go_wp2_with fail
  refine upon_insert h2 Try.underlying70 Try.underlying9 rfl ?_
  intro w3 h3 hb
  rw [Oper.upon_skip]
  have hb3 := hb2.trans hb
  clear hb hb2 h2
  go_wp2_with fail
  refine upon_insert h3 Try.underlying70 Try.underlying9 rfl ?_
  intro w4 h4 hb
  rw [Oper.upon_skip]
  have hb4 := hb3.trans hb
  clear hb hb3 h3
  go_wp2_with fail
  refine upon_insert h4 Try.underlying70 Try.underlying9 rfl ?_
  intro w5 h5 hb
  rw [Oper.upon_skip]
  have hb5 := hb4.trans hb
  clear hb hb4 h4
  go_wp2_with fail
  refine upon_insert h5 Try.underlying70 Try.underlying9 rfl ?_
  intro w6 h6 hb
  rw [Oper.upon_skip]
  have hb6 := hb5.trans hb
  clear hb hb5 h5
  go_wp2_with fail
  refine upon_insert h6 Try.underlying70 Try.underlying9 rfl ?_
  intro w7 h7 hb
  rw [Oper.upon_skip]
  have hb7 := hb6.trans hb
  clear hb hb6 h6
  go_wp2_with fail
  refine upon_insert h7 Try.underlying70 Try.underlying9 rfl ?_
  intro w8 h8 hb
  rw [Oper.upon_skip]
  have hb8 := hb7.trans hb
  clear hb hb7 h7
  go_wp2
  go_ret
  exact ⟨rfl, h8, hb8⟩

end Go.Proofs.Ytdjpjknbbedamaa
