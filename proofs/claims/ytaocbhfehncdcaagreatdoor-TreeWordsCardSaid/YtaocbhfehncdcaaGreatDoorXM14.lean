/-
  What a sign means that is no brace. Conditions: none. What a closing brace means. Conditions: at most 100000 open braces.
-/
import Derived.Test.YtaocbhfehncdcaaGreatDoorXAd
import Derived.Test.YtaocbhfehncdcaaGreatDoorXAs
import Derived.BigQuiet
import Derived.Deep.QuietTactic
namespace Go.Proofs.YtaocbhfehncdcaaGreatDoor
open Go.RowKit

set_option maxRecDepth 100000 in
set_option maxHeartbeats 4000000 in
theorem meaning_other (c : Value) (x : List UInt8) (w : World) (h1 : x ≠ [123]) (h2 : x ≠ [125]) : Calls Tryz.prog 147 #[c, .string (bs x)] w fun e w' => e = .returned (.int .i64 0) ∧ w' = w := by
  have n1 : ((bs x).toList == [123]) = false := ne_list (bs x) [123] (by rw [bs_list]; exact h1)
  have n2 : ((bs x).toList == [125]) = false := ne_list (bs x) [125] (by rw [bs_list]; exact h2)
  clear h1 h2
  go_enter Tryz.func147, Tryz.ntmps147
  go_wp2
  go_ret
  exact ⟨rfl, rfl⟩

end Go.Proofs.YtaocbhfehncdcaaGreatDoor

namespace Go.Proofs.YtaocbhfehncdcaaGreatDoor
open Go.RowKit

theorem row_pop {w : World} {W0 : Nat} {E : TypeId} {g n cap : Nat} {xs : List Value} {u : Value} (h : w.ownsRow W0 E 1 (.slice (some ⟨g, 0, none⟩) (n + 1) cap) (n + 1) (xs ++ [u])) : w.ownsRow W0 E 1 (.slice (some ⟨g, 0, none⟩) n cap) n xs := by
  have hl := h.1
  simp only [List.length_append, List.length_singleton, Nat.mul_one] at hl
  refine ⟨by omega, .inr ?_⟩
  rcases h.2 with ⟨h0, _⟩ | ⟨g', cap', cur, hv, h1, hg, h2, h3, h4, h5⟩
  · cases h0
  · cases hv
    refine ⟨g, cap, cur, rfl, h1, hg, by omega, h3, h4, ?_⟩
    have := congrArg (List.take n) h5
    rw [List.take_take, List.take_append_of_le_length (by omega)] at this
    rw [show min n ((n + 1) * 1) = n * 1 by omega] at this
    rw [this]
    exact List.take_of_length_le (by omega)
def popV : Value → Value
  | .slice a n cap => .slice a (n - 1) cap
  | v => v

set_option maxRecDepth 100000 in
set_option maxHeartbeats 4000000 in
theorem meaning_none (W0 B : Nat) (σ : Sf) (ρ : Sr) (w : World) (h : IsSc W0 B σ ρ w) (h0 : ρ.ol = []) : Calls Tryz.prog 147 #[.pointer (some ⟨B, 0, none⟩), .string ⟨#[125]⟩] w (MeP W0 B σ ρ σ.op [] 1 w) := by
  have HP : Hid (MeP W0 B σ ρ σ.op [] 1 w (.returned (.int .i64 1)) w) := by
    have := MeP.same h 1
    rwa [h0] at this
  obtain ⟨s, a, b, e, t, tk, tm, op, M⟩ := σ
  obtain ⟨c0, c1, c2, c3, c4, c5, c6, c7, c8⟩ := h.sc.fields
  dsimp only at c0 c1 c2 c3 c4 c5 c6 c7 c8
  have hop := h.op
  rw [h0] at hop
  dsimp only at hop
  clear h h0 c0 c1 c2 c3 c4 c5 c6 c8
  rcases hop.2 with ⟨rfl, _⟩ | ⟨g, cap, cur, rfl, _⟩
  · clear hop
    go_enter Tryz.func147, Tryz.ntmps147
    go_wp2
    go_ret
    exact HP.out
  · clear hop
    go_enter Tryz.func147, Tryz.ntmps147
    simp only [List.length_nil] at c7
    go_wp2
    go_ret
    exact HP.out

set_option maxRecDepth 100000 in
set_option maxHeartbeats 4000000 in
theorem meaning_close (W0 B : Nat) (σ : Sf) (ρ : Sr) (w : World) (h : IsSc W0 B σ ρ w) (ol : List Int) (o : Int) (h0 : ρ.ol = ol ++ [o]) (hn : ol.length ≤ 100000) : Calls Tryz.prog 147 #[.pointer (some ⟨B, 0, none⟩), .string ⟨#[125]⟩] w (MeP W0 B σ ρ (popV σ.op) ol o w) := by
  obtain ⟨s, a, b, e, t, tk, tm, op, M⟩ := σ
  have hop := h.op
  rw [h0] at hop
  dsimp only at hop
  have hnl : (ol ++ [o]).length = ol.length + 1 := by simp
  have hcl : intCells (ol ++ [o]) = intCells ol ++ [.int .i64 o] := by simp [intCells]
  rw [hnl, hcl] at hop
  obtain ⟨g, cap, rfl⟩ : ∃ g cap, op = .slice (some ⟨g, 0, none⟩) (ol.length + 1) cap := by
    rcases hop.2 with ⟨_, h0⟩ | ⟨g, cap, cur, h0, _⟩
    · omega
    · exact ⟨g, cap, h0⟩
  have HPOP := Lib.hid (row_pop hop)
  have HO := Lib.hid hop
  have hcap : ol.length + 1 ≤ cap ∧ cap ≤ maxLen := by
    rcases hop.2 with ⟨_, h0⟩ | ⟨g, cap, cur, hv, _, _, h2, h3, _⟩
    · omega
    · cases hv
      exact ⟨h2, h3⟩
  have q : w.cell? ⟨g, ol.length, none⟩ = some (.int .i64 o) := by
    rw [hop.cellAt ol.length (by omega)]
    rw [List.getElem?_append_right (by simp [intCells])]
    simp [intCells]
  obtain ⟨c0, c1, c2, c3, c4, c5, c6, c7, c8⟩ := h.sc.fields
  dsimp only at c0 c1 c2 c3 c4 c5 c6 c7 c8
  have fz := h.sc.frozen 7
  have HP : Hid (∀ q, MeP W0 B ⟨s, a, b, e, t, tk, tm, .slice (some ⟨g, 0, none⟩) (ol.length + 1) cap, M⟩ ρ (.slice (some ⟨g, 0, none⟩) ol.length cap) ol o w (.returned (.int .i64 o)) ((w.drewN q).setCell ⟨B, 7, none⟩ (.slice (some ⟨g, 0, none⟩) ol.length cap))) := by
    intro q
    have hq := h.drew q
    have hpq : (w.drewN q).ownsRow W0 3 1 (.slice (some ⟨g, 0, none⟩) ol.length cap) ol.length (intCells ol) := HPOP.out
    refine ⟨rfl, ⟨hq.base, hq.sc.setOp _, row_set hq.tk (row_ne hq.tk hq.sc (by decide)) 7 _, row_set hq.tm (row_ne hq.tm hq.sc (by decide)) 7 _, row_set hpq (row_ne hpq hq.sc (by decide)) 7 _, hq.mp.block (Below.heap_setCell _ ⟨B, 7, none⟩ _ M hq.mapNe), hq.mb⟩, (bl_drewN (Below.refl _ _) q).setCell h.base _, ?_, ?_, ?_⟩
    · intro T v0 v1 v2 v3 v4 v5 hT
      exact hT.later (Below.heap_setCell (w.drewN q) ⟨B, 7, none⟩ _ T (hT.ne h.sc))
    · intro T _ h2 _
      exact Below.heap_setCell (w.drewN q) ⟨B, 7, none⟩ _ T h2
    · intro T _ h2
      exact h2
  have w1 : IntKind.i64.wrap ((ol.length : Int) + 1 - 1) = (ol.length : Int) := by
    rw [show (ol.length : Int) + 1 - 1 = (ol.length : Int) by omega]
    exact IntWalk.i64_in _ (by omega)
  obtain ⟨hc1, hc2⟩ := hcap
  have hz : ((ol.length : Int) + 1 == 0) = false := by rw [beq_eq_false_iff_ne]; omega
  unfold maxLen at hc2
  clear h hop hnl hcl h0 c0 c1 c2 c3 c4 c5 c6 c8
  show Calls _ _ _ _ (MeP W0 B ⟨s, a, b, e, t, tk, tm, .slice (some ⟨g, 0, none⟩) (ol.length + 1) cap, M⟩ ρ (.slice (some ⟨g, 0, none⟩) ol.length cap) ol o w)
  generalize ol.length = n at *
  go_enter Tryz.func147, Tryz.ntmps147
  go_wp2
  go_quiet (fail)
  go_wp2
  have HQ : Hid (MeP W0 B ⟨s, a, b, e, t, tk, tm, .slice (some ⟨g, 0, none⟩) (n + 1) cap, M⟩ ρ (.slice (some ⟨g, 0, none⟩) n cap) ol o w (.returned (.int .i64 o)) ((w.drewN nq).drew.setCell ⟨B, 7, none⟩ (.slice (some ⟨g, 0, none⟩) n cap))) := HP.out (nq + 1)
  have d7 : (w.drewN nq).cell? ⟨B, 7, none⟩ = some (.slice (some ⟨g, 0, none⟩) (n + 1) cap) := c7
  have dz : (w.drewN nq).frozen? ⟨B, 7, none⟩ = false := fz
  clear c7 fz q HO HPOP HP
  generalize w.drewN nq = wq at *
  have x1 : (n : Int) ≤ (cap : Int) := by omega
  have x2 : IntKind.i64.wrap (n : Int) = (n : Int) := IntWalk.i64_in _ (by omega)
  go_still_tail 14, (by kernel_rfl)
  change wpList _ _ _ _ _ wq.drew
  have e7 : wq.drew.cell? ⟨B, 7, none⟩ = some (.slice (some ⟨g, 0, none⟩) (n + 1) cap) := d7
  have ez : wq.drew.frozen? ⟨B, 7, none⟩ = false := dz
  clear d7 dz
  go_wp2
  go_ret
  exact HQ.out

end Go.Proofs.YtaocbhfehncdcaaGreatDoor
