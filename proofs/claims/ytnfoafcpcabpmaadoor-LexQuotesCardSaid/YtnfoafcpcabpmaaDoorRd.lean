/-
  A scanner's read where an operator is expected: a word. Conditions: a text of at most 100000 bytes.
-/
import Derived.Test.YtnfoafcpcabpmaaDoorTs
namespace Go.Proofs.YtnfoafcpcabpmaaDoor
open Go.RowKit

set_option maxRecDepth 100000 in
set_option maxHeartbeats 4000000 in
theorem read_word (W0 B : Nat) (σ : Sf) (ρ : Sr) (w : World) (h : IsSc W0 B σ ρ w) (hs : σ.s.size ≤ 100000) (ha : σ.a ≤ σ.s.size) (ht : σ.t = false) (n : Nat) (hn : wsz (σ.s.data.toList.drop σ.a) = n) (hn0 : 0 < n) (hn1 : n ≤ 12) :
    Calls Tryd.prog 44 #[.pointer (some ⟨B, 0, none⟩)] w (ScP W0 B (tokV 0 (σ.s.extract σ.a (σ.a + n))) { σ with a := σ.a + n } ρ w) := by
  have hl0 := h.ltSize
  have hBT := h.sc.lt
  have h1 := h.later ((Below.refl _ _).alloc (Nat.le_refl _) (.cells #[.int .i64 0, .int .i64 0, .string ⟨#[]⟩, .string ⟨#[]⟩, .string ⟨#[]⟩, .int .i64 0] 33))
  have hb1 : But B w (w.alloc (.cells #[.int .i64 0, .int .i64 0, .string ⟨#[]⟩, .string ⟨#[]⟩, .string ⟨#[]⟩, .int .i64 0] 33)) := But.of ((Below.refl _ _).alloc (Nat.le_refl _) _)
  have HT0 := Lib.hid (TkAt.fresh w)
  obtain ⟨s, a, b, e, t, tk, tm, op, M⟩ := σ
  dsimp only at hs ha hn ht
  subst ht
  have hnl : n ≤ s.size - a := by
    have := wsz_le (s.data.toList.drop a)
    rw [hn, List.length_drop, ← Lib.size_eq] at this
    exact this
  have HWD : Hid (∀ w, Calls Tryd.prog 55 #[.pointer (some ⟨B, 0, none⟩), .string (s.extract a s.size)] w (InS n w)) := fun w => by
    have h2 : (s.extract a s.size).size ≤ 100000 := by rw [Lib.size_eq, drop_list, List.length_drop, ← Lib.size_eq]; omega
    have := word_ok B (s.extract a s.size) w h2 (by rw [drop_list, hn]; exact hn1)
    rwa [drop_list, hn] at this
  have HCU := Lib.hid (fun w' (h : IsSc W0 B ⟨s, a, b, e, false, tk, tm, op, M⟩ ρ w') => cut_any W0 B ⟨s, a, b, e, false, tk, tm, op, M⟩ ρ 0 n w' h hs (by dsimp only; omega) (by decide) (by decide))
  dsimp only at HCU
  have HP : Hid (∀ w', IsSc W0 B ⟨s, a + n, b, e, false, tk, tm, op, M⟩ ρ w' → But B w w' → ScP W0 B (tokV 0 (s.extract a (a + n))) ⟨s, a + n, b, e, false, tk, tm, op, M⟩ ρ w (.returned (tokV 0 (s.extract a (a + n)))) w') := fun w' h1 h2 => ⟨rfl, h1, h2⟩
  have HLT : Hid (ScLt w.heap.size B ⟨s, a + n, b, e, false, tk, tm, op, M⟩) := ⟨hl0.b, hl0.tk, hl0.tm, hl0.op, hl0.m⟩
  obtain ⟨c0, c1, c2, c3, c4, c5, c6, c7, c8⟩ := h1.sc.fields
  dsimp only at c0 c1 c2 c3 c4 c5 c6 c7 c8
  have H1 := Lib.hid h1
  have HB1 := Lib.hid hb1
  have HBT := Lib.hid hBT
  have hai : (a : Int) ≤ (s.size : Int) := by omega
  have x6 : (0 : Int) < (n : Int) := by omega
  clear c2 c3 c5 c6 c7 c8 h h1 hb1 hl0 hn hBT
  go_enter Tryd.func44, Tryd.ntmps44
  go_wp2
  generalize w.alloc (.cells #[.int .i64 0, .int .i64 0, .string ⟨#[]⟩, .string ⟨#[]⟩, .string ⟨#[]⟩, .int .i64 0] 33) = W1 at *
  generalize hTT : w.heap.size = T at *
  have HTT := Lib.hid hTT
  clear hTT
  go_quiet (fail)
  have H2 : Hid (IsSc W0 B ⟨s, a, b, e, false, tk, tm, op, M⟩ ρ (W1.drewN nq)) := H1.out.drew _
  have HB2 : Hid (But B w (W1.drewN nq)) := HB1.out.drewN _
  have HT2 : Hid (TkAt T (.int .i64 0) (.int .i64 0) (.string ⟨#[]⟩) (.string ⟨#[]⟩) (.string ⟨#[]⟩) (.int .i64 0) (W1.drewN nq)) := HT0.out.later rfl
  clear c0 c1 c4 H1 HB1 HT0
  generalize W1.drewN nq = W2 at *
  generalize s.extract a s.size = rest at *
  go_wp2_with fail
  refine (HWD.out _).mono ?_
  rintro e1 w' ⟨rfl, rfl⟩
  go_wp2_with fail
  refine (HCU.out _ H2.out).mono ?_
  rintro e1 W3 ⟨rfl, hs3, hb3⟩
  have H3 := Lib.hid hs3
  have HB3 : Hid (But B w W3) := HB2.out.trans hb3
  have HT3 : Hid (TkAt T (.int .i64 0) (.int .i64 0) (.string ⟨#[]⟩) (.string ⟨#[]⟩) (.string ⟨#[]⟩) (.int .i64 0) W3) := But.tok HT2.out hb3 HBT.out
  clear hs3 hb3
  obtain ⟨t0, t1, t2, t3, t4, t5⟩ := HT3.out.cells
  have z0 := HT3.out.frozen 0
  have z1 := HT3.out.frozen 1
  have z2 := HT3.out.frozen 2
  have z3 := HT3.out.frozen 3
  have z4 := HT3.out.frozen 4
  have z5 := HT3.out.frozen 5
  generalize s.extract a (a + n) = X at *
  unfold tokV at *
  go_wp2
  have HT4 := HT3.out.put (.int .i64 0) (.int .i64 0) (.string X) (.string ⟨#[]⟩) (.string ⟨#[]⟩) (.int .i64 0)
  obtain ⟨r0, r1, r2, r3, r4, r5⟩ := HT4.cells
  have hbe := tkW_below W3 T (.int .i64 0) (.int .i64 0) (.string X) (.string ⟨#[]⟩) (.string ⟨#[]⟩) (.int .i64 0)
  change bodyPost _ _ _ _ _ (tkW W3 T (.int .i64 0) (.int .i64 0) (.string X) (.string ⟨#[]⟩) (.string ⟨#[]⟩) (.int .i64 0))
  clear t0 t1 t2 t3 t4 t5 z0 z1 z2 z3 z4 z5
  refine bodyPost_ret (v := .agg #[.int .i64 0, .int .i64 0, .string X, .string ⟨#[]⟩, .string ⟨#[]⟩, .int .i64 0]) ?_ rfl (HP.out _ (H3.out.below HLT.out hbe) (HB3.out.more (by rw [HTT.out]; exact hbe)))
  generalize tkW W3 T (.int .i64 0) (.int .i64 0) (.string X) (.string ⟨#[]⟩) (.string ⟨#[]⟩) (.int .i64 0) = W4 at *
  simp [results, Tryd.results44, go_sem, r0, r1, r2, r3, r4, r5]

end Go.Proofs.YtnfoafcpcabpmaaDoor
