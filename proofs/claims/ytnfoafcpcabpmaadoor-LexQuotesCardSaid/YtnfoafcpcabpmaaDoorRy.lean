/-
  What run defers: it recovers from wrong, and goes on where there is no panic. Conditions: none.
-/
import Derived.Test.YtnfoafcpcabpmaaDoorSp2
import Derived.Recover
namespace Go.Proofs.YtnfoafcpcabpmaaDoor
open Go.RowKit

theorem assert_wrong (b : Int) (w : World) : (Instr.typeAssert (.iface 64 (.int .i64 b)) 20 64 true).run Tryd.prog w = .ok (.tuple #[.int .i64 b, .bool true]) w := by kernel_rfl
theorem assert_nil (w : World) : (Instr.typeAssert Value.nilIface 20 64 true).run Tryd.prog w = .ok (.tuple #[.int .i64 0, .bool false]) w := by kernel_rfl

set_option maxRecDepth 100000 in
theorem catch_wrong (p : Addr) (x : Value) (b : Nat) (w : World) (hc : w.cell? p = some x) (hz : w.frozen? p = false) :
    CallsD Tryd.prog 41 #[.pointer (some p)] (.panicking [{ v := .iface 64 (.int .i64 (b : Int)), recovered := false }]) w fun e u' w' =>
      e = .returned (.tuple #[]) ∧ u' = .panicking [{ v := .iface 64 (.int .i64 (b : Int)), recovered := true }] ∧ w' = w.setCell p (.int .i64 (b : Int)) := by
  refine callsD_of_wpS Tryd.func41 rfl fun c₀ cs hu => ?_
  apply wpS_seq
  apply wpS_region
  simp [wpOpsS, go_sem, recoverD, hu, assert_wrong, Tryd.ntmps41, Exit.thenS]
  apply wpS_seq
  apply wpS_region
  simp [wpOpsS, go_sem, Exit.thenS]
  refine wpS_cond (t := true) (by simp [Act.eval, Array.replicate]) ?_
  simp only [if_true]
  apply wpS_region
  simp [wpOpsS, go_sem, hc, hz, bodyPostS, results, Tryd.results41]

set_option maxRecDepth 100000 in
theorem catch_idle (p : Addr) (w : World) :
    CallsD Tryd.prog 41 #[.pointer (some p)] .returning w fun e u' w' => e = .returned (.tuple #[]) ∧ u' = .returning ∧ w' = w := by
  refine callsD_of_wpS Tryd.func41 rfl fun c₀ cs hu => ?_
  apply wpS_seq
  apply wpS_region
  simp [wpOpsS, go_sem, recoverD, hu, assert_nil, Tryd.ntmps41, Exit.thenS]
  apply wpS_seq
  apply wpS_region
  simp [wpOpsS, go_sem, Exit.thenS]
  refine wpS_cond (t := false) (by simp [Act.eval, Array.replicate]) ?_
  simp only [Bool.false_eq_true, if_false]
  refine wpS_of_wp (wp_skip ?_)
  cases c₀
  simp_all [bodyPostS, results, Tryd.results41]

end Go.Proofs.YtnfoafcpcabpmaaDoor
