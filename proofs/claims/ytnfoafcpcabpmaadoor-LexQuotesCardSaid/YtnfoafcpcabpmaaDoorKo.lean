/-
  known answers true. Conditions: the row of signs holds what the program's text lays.
-/
import Derived.Test.YtnfoafcpcabpmaaDoorKw
namespace Go.Proofs.YtnfoafcpcabpmaaDoor
open Go.RowKit

def KnP (n : Nat) (i : Nat) (k : Int) (x : ByteArray) (w : World) (e : Ending) (w' : World) : Prop :=
  ∃ g c, e = .returned (.tuple #[.slice (some ⟨g, 0, none⟩) n c, .int .i64 (n : Int), .int .i64 0]) ∧ Below w.heap.size w w' ∧ w'.cell? ⟨g, i, none⟩ = some (.int .i64 k) ∧ w'.cell? ⟨g, i + 2, none⟩ = some (.string x) ∧ g < w'.heap.size ∧ w.heap.size ≤ g
theorem knp (p : Plan) (n i : Nat) (k : Int) (x : ByteArray) (w : World) (hn : (p.R p.k).n = n) (h0 : n ≠ 0) (h1 : (p.R p.k).tc[i]? = some (.int .i64 k)) (h2 : (p.R p.k).tc[i + 2]? = some (.string x)) (e : Ending) (w' : World) (h : LxP p w e w') : KnP n i k x w e w' := by
  obtain ⟨a, c, rfl, ho, hb⟩ := h
  rw [hn] at ho ⊢
  obtain ⟨g, rfl, _, hc⟩ := row_cell ho h0
  exact ⟨g, c, rfl, hb, hc _ _ h1, hc _ _ h2, (own_lt ho rfl).1, (own_lt ho rfl).2⟩
theorem lex_one (w : World) (hg : SigAt w) : Calls Tryd.prog 9 #[.string ⟨#[36, 120, 32, 47, 32, 50]⟩] w (KnP 3 6 3 ⟨#[47]⟩ w) :=
  (lex_plan plan1 plan1_ok (by decide) (by decide) rfl rfl (by decide) w hg).mono fun e w' h => knp plan1 3 6 3 _ w rfl (by decide) rfl rfl e w' h
theorem lex_two (w : World) (hg : SigAt w) : Calls Tryd.prog 9 #[.string ⟨#[102, 40, 47, 50, 47, 41]⟩] w (KnP 4 12 7 ⟨#[50]⟩ w) :=
  (lex_plan plan2 plan2_ok (by decide) (by decide) rfl rfl (by decide) w hg).mono fun e w' h => knp plan2 4 12 7 _ w rfl (by decide) rfl rfl e w' h

def TrP (w : World) (e : Ending) (w' : World) : Prop := e = .returned (.bool true) ∧ Below w.heap.size w w'
set_option maxRecDepth 100000 in
set_option maxHeartbeats 4000000 in
theorem known_any (w : World) (hg : SigAt w) : Calls Tryd.prog 8 #[] w (TrP w) := by
  have H1 := Lib.hid (lex_one w hg)
  have HG := Lib.hid hg
  have HP : Hid (∀ w', Below w.heap.size w w' → TrP w (.returned (.bool true)) w') := fun w' h => ⟨rfl, h⟩
  clear hg
  go_enter Tryd.func8, Tryd.ntmps8
  go_wp2_with fail
  refine H1.out.mono ?_
  rintro e1 w1 ⟨g1, c1, rfl, hb1, x1, y1, hl1, _⟩
  have HB1 := Lib.hid hb1
  have H2 := Lib.hid (lex_two w1 (HG.out.block (hb1.block _ HG.out.lt)))
  have HX1 := Lib.hid x1
  have HY1 := Lib.hid y1
  clear hb1 x1 y1
  go_wp2_with fail
  refine H2.out.mono ?_
  rintro e1 w2 ⟨g2, c2, rfl, hb2, x2, y2, _, _⟩
  have x1 : w2.cell? ⟨g1, 6, none⟩ = some (.int .i64 3) := by
    rw [← HX1.out]
    exact hb2.cell (p := ⟨g1, 6, none⟩) hl1
  have y1 : w2.cell? ⟨g1, 8, none⟩ = some (.string ⟨#[47]⟩) := by
    rw [← HY1.out]
    exact hb2.cell (p := ⟨g1, 8, none⟩) hl1
  have HB2 : Hid (Below w.heap.size w w2) := HB1.out.trans (hb2.mono HB1.out.size)
  clear hb2 hl1
  go_wp2
  go_ret
  exact HP.out _ HB2.out

end Go.Proofs.YtnfoafcpcabpmaaDoor
