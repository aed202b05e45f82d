/-
  A scanner at its end: take panics. Conditions: a text of at most 100000 bytes. What run defers: it recovers from wrong, and goes on where there is no panic. Conditions: none.
-/
import Derived.Test.YtaocbhfehncdcaaGreatDoorXM03
import Derived.Recover
namespace Go.Proofs.YtaocbhfehncdcaaGreatDoor
open Go.RowKit

/-- What a method leaves that gives up: the place at which a token was looked for; the scanner is left as it is. -/
def Wrong (B : Nat) (b : Nat) (w : World) (e : Ending) (w' : World) : Prop := e = .panicked [{ v := .iface 130 (.int .i64 (b : Int)), recovered := false }] ∧ But B w w'

set_option maxRecDepth 100000 in
set_option maxHeartbeats 2000000 in
theorem take_no (W0 B : Nat) (σ : Sf) (ρ : Sr) (w : World) (h : IsSc W0 B σ ρ w) (hs : σ.s.size ≤ 100000) (ha : σ.s.size ≤ σ.a) :
    Calls Tryz.prog 170 #[.pointer (some ⟨B, 0, none⟩)] w (Wrong B σ.b w) := by
  obtain ⟨s, a, b, e, t, tk, tm, op, M⟩ := σ
  dsimp only at hs ha
  obtain ⟨c0, c1, c2, c3, c4, c5, c6, c7, c8⟩ := h.sc.fields
  dsimp only at c0 c1 c2 c3 c4 c5 c6 c7 c8
  clear c3 c4 c5 c6 c7 c8
  have HB0 := Lib.hid (But.refl B w)
  have hlti : (s.size : Int) ≤ (a : Int) := by omega
  have HP : Hid (∀ w', But B w w' → Wrong B b w (.panicked [{ v := .iface 130 (.int .i64 (b : Int)), recovered := false }]) w') := fun w' h => ⟨rfl, h⟩
  clear h
  go_enter Tryz.func170, Tryz.ntmps170
  go_wp2
  go_quiet (fail)
  go_wp2
  exact ⟨rfl, HP.out _ (HB0.out.drewN _)⟩

end Go.Proofs.YtaocbhfehncdcaaGreatDoor

namespace Go.Proofs.YtaocbhfehncdcaaGreatDoor
open Go.RowKit

theorem assert_wrong (b : Int) (w : World) : (Instr.typeAssert (.iface 130 (.int .i64 b)) 20 130 true).run Tryz.prog w = .ok (.tuple #[.int .i64 b, .bool true]) w := by kernel_rfl
theorem assert_nil (w : World) : (Instr.typeAssert Value.nilIface 20 130 true).run Tryz.prog w = .ok (.tuple #[.int .i64 0, .bool false]) w := by kernel_rfl

set_option maxRecDepth 100000 in
theorem catch_wrong (p : Addr) (x : Value) (b : Nat) (w : World) (hc : w.cell? p = some x) (hz : w.frozen? p = false) :
    CallsD Tryz.prog 130 #[.pointer (some p)] (.panicking [{ v := .iface 130 (.int .i64 (b : Int)), recovered := false }]) w fun e u' w' =>
      e = .returned (.tuple #[]) ∧ u' = .panicking [{ v := .iface 130 (.int .i64 (b : Int)), recovered := true }] ∧ w' = w.setCell p (.int .i64 (b : Int)) := by
  refine callsD_of_wpS Tryz.func130 rfl fun c₀ cs hu => ?_
  apply wpS_seq
  apply wpS_region
  simp [wpOpsS, go_sem, recoverD, hu, assert_wrong, Tryz.ntmps130, Exit.thenS]
  apply wpS_seq
  apply wpS_region
  simp [wpOpsS, go_sem, Exit.thenS]
  refine wpS_cond (t := true) (by simp [Act.eval, Array.replicate]) ?_
  simp only [if_true]
  apply wpS_region
  simp [wpOpsS, go_sem, hc, hz, bodyPostS, results, Tryz.results130]

set_option maxRecDepth 100000 in
theorem catch_idle (p : Addr) (w : World) :
    CallsD Tryz.prog 130 #[.pointer (some p)] .returning w fun e u' w' => e = .returned (.tuple #[]) ∧ u' = .returning ∧ w' = w := by
  refine callsD_of_wpS Tryz.func130 rfl fun c₀ cs hu => ?_
  apply wpS_seq
  apply wpS_region
  simp [wpOpsS, go_sem, recoverD, hu, assert_nil, Tryz.ntmps130, Exit.thenS]
  apply wpS_seq
  apply wpS_region
  simp [wpOpsS, go_sem, Exit.thenS]
  refine wpS_cond (t := false) (by simp [Act.eval, Array.replicate]) ?_
  simp only [Bool.false_eq_true, if_false]
  refine wpS_of_wp (wp_skip ?_)
  cases c₀
  simp_all [bodyPostS, results, Tryz.results130]

end Go.Proofs.YtaocbhfehncdcaaGreatDoor
