/-
  Lex of a text whose tokens are foretold. Conditions: as of scan.
-/
import Derived.Test.YtaocbhfehncdcaaGreatDoorXM13
namespace Go.Proofs.YtaocbhfehncdcaaGreatDoor
open Go.RowKit

/-- What Lex leaves: a row of tokens of the call's own. -/
def LxP (p : Plan) (w : World) (en : Ending) (w' : World) : Prop :=
  ∃ a c, en = .returned (.tuple #[.slice a (p.R p.k).n c, .int .i64 ((p.R p.k).n : Int), .int .i64 0]) ∧ w'.ownsRow w.heap.size 101 6 (.slice a (p.R p.k).n c) (p.R p.k).n (p.R p.k).tc ∧ Below w.heap.size w w'

set_option maxRecDepth 100000 in
set_option maxHeartbeats 4000000 in
theorem lex_plan (p : Plan) (hp : p.Ok) (hs : p.s.size ≤ 4000) (hn : (p.R p.k).n ≤ 1000) (h0 : p.T 0 = true) (hR : p.R 0 = ⟨[], 0, [], [], []⟩) (hf : fgN p.s.data.toList = p.s.size) (w : World) (hg : SigAt w) :
    Calls Tryz.prog 49 #[.string p.s] w (LxP p w) := by
  have HSC := Lib.hid (scan_plan p hp hs hn h0 hR hf w hg)
  have HP : Hid (∀ a c w', w'.ownsRow w.heap.size 101 6 (.slice a (p.R p.k).n c) (p.R p.k).n (p.R p.k).tc → Below w.heap.size w w' → LxP p w (.returned (.tuple #[.slice a (p.R p.k).n c, .int .i64 ((p.R p.k).n : Int), .int .i64 0])) w') := fun a c w' h1 h2 => ⟨a, c, rfl, h1, h2⟩
  clear hg hf hR h0 hp
  go_enter Tryz.func49, Tryz.ntmps49
  go_wp2_with fail
  refine HSC.out.mono ?_
  rintro e1 w1 ⟨B, M, b, e, tk, tm, op, rfl, hsc, hb⟩
  obtain ⟨a, c, rfl⟩ := row_val hsc.tk
  have H1 := Lib.hid hsc
  have HB := Lib.hid hb
  obtain ⟨c0, c1, c2, c3, c4, c5, c6, c7, c8⟩ := hsc.sc.fields
  dsimp only at c0 c1 c2 c3 c4 c5 c6 c7 c8
  clear c0 c1 c2 c3 c4 c6 c7 c8 hsc hb
  go_wp2
  go_quiet (fail)
  go_wp2
  refine bodyPost_ret (v := .tuple #[.slice a (p.R p.k).n c, .int .i64 ((p.R p.k).n : Int), .int .i64 0]) ?_ rfl (HP.out _ _ _ (H1.out.drew _).tk (bl_drewN HB.out _))
  simp [results, Tryz.results49, go_sem]

end Go.Proofs.YtaocbhfehncdcaaGreatDoor
