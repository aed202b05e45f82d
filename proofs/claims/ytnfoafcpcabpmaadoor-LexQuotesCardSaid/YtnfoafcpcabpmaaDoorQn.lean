/-
  No quote begins. Conditions: a text of at most 100000 bytes.
-/
import Derived.Test.YtnfoafcpcabpmaaDoorTs
namespace Go.Proofs.YtnfoafcpcabpmaaDoor
open Go.RowKit

set_option maxRecDepth 100000 in
set_option maxHeartbeats 4000000 in
theorem quote_none (W0 B : Nat) (σ : Sf) (ρ : Sr) (w : World) (h : IsSc W0 B σ ρ w) (hs : σ.s.size ≤ 100000) (ha : σ.a < σ.s.size) (k : Int) (hno : qkd (σ.s.data.toList.drop σ.a) = (k, -1)) :
    Calls Tryd.prog 52 #[.pointer (some ⟨B, 0, none⟩)] w (ScP W0 B noTok σ ρ w) := by
  have hl0 := h.ltSize
  have h1 := h.later ((Below.refl _ _).alloc (Nat.le_refl _) (.cells #[.int .i64 0, .int .i64 0, .string ⟨#[]⟩, .string ⟨#[]⟩, .string ⟨#[]⟩, .int .i64 0] 33))
  have hb1 : But B w (w.alloc (.cells #[.int .i64 0, .int .i64 0, .string ⟨#[]⟩, .string ⟨#[]⟩, .string ⟨#[]⟩, .int .i64 0] 33)) := But.of ((Below.refl _ _).alloc (Nat.le_refl _) _)
  have HT0 := Lib.hid (TkAt.fresh w)
  have HCP : Hid (∀ w, Calls Tryd.prog 61 #[.string (σ.s.extract σ.a σ.s.size)] w fun e w' => e = .returned (.tuple #[.int .i64 k, .int .i64 (-1)]) ∧ w' = w) := fun w => by
    have hsz : (σ.s.extract σ.a σ.s.size).size = σ.s.size - σ.a := by rw [Lib.size_eq, drop_list, List.length_drop, ← Lib.size_eq]
    have := quoteKind_any (σ.s.extract σ.a σ.s.size) w (by omega) (by omega)
    rw [drop_list, hno] at this
    exact this.mono fun _ _ h => ⟨h.1, h.2.symm⟩
  have HP : Hid (∀ w', IsSc W0 B σ ρ w' → But B w w' → ScP W0 B noTok σ ρ w (.returned noTok) w') := fun w' h1 h2 => ⟨rfl, h1, h2⟩
  obtain ⟨s, a, b, e, t, tk, tm, op, M⟩ := σ
  dsimp only at hs ha HCP
  have HLT := Lib.hid hl0
  obtain ⟨c0, c1, c2, c3, c4, c5, c6, c7, c8⟩ := h1.sc.fields
  dsimp only at c0 c1 c2 c3 c4 c5 c6 c7 c8
  have H1 := Lib.hid h1
  have HB1 := Lib.hid hb1
  have hai : (a : Int) ≤ (s.size : Int) := by omega
  clear c2 c3 c4 c5 c6 c7 c8 h h1 hb1 hl0 hno
  go_enter Tryd.func52, Tryd.ntmps52
  go_wp2
  generalize w.alloc (.cells #[.int .i64 0, .int .i64 0, .string ⟨#[]⟩, .string ⟨#[]⟩, .string ⟨#[]⟩, .int .i64 0] 33) = W1 at *
  generalize hTT : w.heap.size = T at *
  have HTT := Lib.hid hTT
  clear hTT
  go_quiet ((go_at_call 61; exact Calls.quiet_of_same (HCP.out _)))
  have H2 : Hid (IsSc W0 B ⟨s, a, b, e, t, tk, tm, op, M⟩ ρ (W1.drewN nq)) := H1.out.drew _
  have HB2 : Hid (But B w (W1.drewN nq)) := HB1.out.drewN _
  have HT2 : Hid (TkAt T (.int .i64 0) (.int .i64 0) (.string ⟨#[]⟩) (.string ⟨#[]⟩) (.string ⟨#[]⟩) (.int .i64 0) (W1.drewN nq)) := HT0.out.later rfl
  clear c0 c1 H1 HB1 HT0
  generalize W1.drewN nq = W2 at *
  obtain ⟨t0, t1, t2, t3, t4, t5⟩ := HT2.out.cells
  have z0 := HT2.out.frozen 0
  have z1 := HT2.out.frozen 1
  have z2 := HT2.out.frozen 2
  have z3 := HT2.out.frozen 3
  have z4 := HT2.out.frozen 4
  have z5 := HT2.out.frozen 5
  go_wp2
  have HT4 := HT2.out.put (.int .i64 0) (.int .i64 0) (.string ⟨#[]⟩) (.string ⟨#[]⟩) (.string ⟨#[]⟩) (.int .i64 0)
  obtain ⟨r0, r1, r2, r3, r4, r5⟩ := HT4.cells
  have hbe := tkW_below W2 T (.int .i64 0) (.int .i64 0) (.string ⟨#[]⟩) (.string ⟨#[]⟩) (.string ⟨#[]⟩) (.int .i64 0)
  change bodyPost _ _ _ _ _ (tkW W2 T (.int .i64 0) (.int .i64 0) (.string ⟨#[]⟩) (.string ⟨#[]⟩) (.string ⟨#[]⟩) (.int .i64 0))
  clear t0 t1 t2 t3 t4 t5 z0 z1 z2 z3 z4 z5
  refine bodyPost_ret (v := noTok) ?_ rfl (HP.out _ (H2.out.below HLT.out hbe) (HB2.out.more (by rw [HTT.out]; exact hbe)))
  generalize tkW W2 T (.int .i64 0) (.int .i64 0) (.string ⟨#[]⟩) (.string ⟨#[]⟩) (.string ⟨#[]⟩) (.int .i64 0) = W4 at *
  simp [results, Tryd.results52, go_sem, noTok, tokV, r0, r1, r2, r3, r4, r5]

end Go.Proofs.YtnfoafcpcabpmaaDoor
