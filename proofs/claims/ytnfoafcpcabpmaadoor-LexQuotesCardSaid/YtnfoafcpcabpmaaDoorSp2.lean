/-
  A scanner at its end: take panics. Conditions: a text of at most 100000 bytes.
-/
import Derived.Test.YtnfoafcpcabpmaaDoorSo
namespace Go.Proofs.YtnfoafcpcabpmaaDoor
open Go.RowKit

/-- What a method leaves that gives up: the place at which a token was looked for; the scanner is left as it is. -/
def Wrong (B : Nat) (b : Nat) (w : World) (e : Ending) (w' : World) : Prop := e = .panicked [{ v := .iface 64 (.int .i64 (b : Int)), recovered := false }] ∧ But B w w'

set_option maxRecDepth 100000 in
set_option maxHeartbeats 2000000 in
theorem take_no (W0 B : Nat) (σ : Sf) (ρ : Sr) (w : World) (h : IsSc W0 B σ ρ w) (hs : σ.s.size ≤ 100000) (ha : σ.s.size ≤ σ.a) :
    Calls Tryd.prog 62 #[.pointer (some ⟨B, 0, none⟩)] w (Wrong B σ.b w) := by
  obtain ⟨s, a, b, e, t, tk, tm, op, M⟩ := σ
  dsimp only at hs ha
  obtain ⟨c0, c1, c2, c3, c4, c5, c6, c7, c8⟩ := h.sc.fields
  dsimp only at c0 c1 c2 c3 c4 c5 c6 c7 c8
  clear c3 c4 c5 c6 c7 c8
  have HB0 := Lib.hid (But.refl B w)
  have hlti : (s.size : Int) ≤ (a : Int) := by omega
  have HP : Hid (∀ w', But B w w' → Wrong B b w (.panicked [{ v := .iface 64 (.int .i64 (b : Int)), recovered := false }]) w') := fun w' h => ⟨rfl, h⟩
  clear h
  go_enter Tryd.func62, Tryd.ntmps62
  go_wp2
  go_quiet (fail)
  go_wp2
  exact ⟨rfl, HP.out _ (HB0.out.drewN _)⟩

end Go.Proofs.YtnfoafcpcabpmaaDoor
