/-
  A scanner's read where a term is expected: a quote. Conditions: none beside those stated.
-/
import Derived.Test.YtnfoafcpcabpmaaDoorRq
import Derived.Test.YtnfoafcpcabpmaaDoorQn
namespace Go.Proofs.YtnfoafcpcabpmaaDoor
open Go.RowKit

set_option maxRecDepth 100000 in
set_option maxHeartbeats 4000000 in
theorem read_quote (W0 B : Nat) (σ σ' : Sf) (ρ : Sr) (w : World) (h : IsSc W0 B σ ρ w) (ht : σ.t = true) (k : Int) (x y z : ByteArray) (hl : ScLt w.heap.size B σ')
    (hq : ∀ w', IsSc W0 B σ ρ w' → Calls Tryd.prog 52 #[.pointer (some ⟨B, 0, none⟩)] w' (ScP W0 B (.tuple #[.agg #[.int .i64 k, .int .i64 0, .string x, .string y, .string z, .int .i64 0], .bool true]) σ' ρ w')) :
    Calls Tryd.prog 44 #[.pointer (some ⟨B, 0, none⟩)] w (ScP W0 B (.agg #[.int .i64 k, .int .i64 0, .string x, .string y, .string z, .int .i64 0]) σ' ρ w) := by
  have hl0 := h.ltSize
  have hBT := h.sc.lt
  have h1 := h.later ((Below.refl _ _).alloc (Nat.le_refl _) (.cells #[.int .i64 0, .int .i64 0, .string ⟨#[]⟩, .string ⟨#[]⟩, .string ⟨#[]⟩, .int .i64 0] 33))
  have hb1 : But B w (w.alloc (.cells #[.int .i64 0, .int .i64 0, .string ⟨#[]⟩, .string ⟨#[]⟩, .string ⟨#[]⟩, .int .i64 0] 33)) := But.of ((Below.refl _ _).alloc (Nat.le_refl _) _)
  have HT0 := Lib.hid (TkAt.fresh w)
  obtain ⟨s, a, b, e, t, tk, tm, op, M⟩ := σ
  dsimp only at ht
  subst ht
  have HQ : Hid (∀ w', IsSc W0 B ⟨s, a, b, e, true, tk, tm, op, M⟩ ρ w' → Calls Tryd.prog 52 #[.pointer (some ⟨B, 0, none⟩)] w' (ScP W0 B (.tuple #[.agg #[.int .i64 k, .int .i64 0, .string x, .string y, .string z, .int .i64 0], .bool true]) σ' ρ w')) := hq
  have HP : Hid (∀ w', IsSc W0 B σ' ρ w' → But B w w' → ScP W0 B (.agg #[.int .i64 k, .int .i64 0, .string x, .string y, .string z, .int .i64 0]) σ' ρ w (.returned (.agg #[.int .i64 k, .int .i64 0, .string x, .string y, .string z, .int .i64 0])) w') := fun w' h1 h2 => ⟨rfl, h1, h2⟩
  have HLT := Lib.hid hl
  obtain ⟨c0, c1, c2, c3, c4, c5, c6, c7, c8⟩ := h1.sc.fields
  dsimp only at c0 c1 c2 c3 c4 c5 c6 c7 c8
  have H1 := Lib.hid h1
  have HB1 := Lib.hid hb1
  have HBT := Lib.hid hBT
  clear c2 c3 c5 c6 c7 c8 h h1 hb1 hl0 hl hq hBT
  go_enter Tryd.func44, Tryd.ntmps44
  go_wp2_with fail
  generalize w.alloc (.cells #[.int .i64 0, .int .i64 0, .string ⟨#[]⟩, .string ⟨#[]⟩, .string ⟨#[]⟩, .int .i64 0] 33) = W1 at *
  generalize hTT : w.heap.size = T at *
  have HTT := Lib.hid hTT
  clear hTT
  go_wp2_with fail
  refine (HQ.out _ H1.out).mono ?_
  rintro e1 W2 ⟨rfl, hs2, hb2⟩
  have H2 := Lib.hid hs2
  have HB2 : Hid (But B w W2) := HB1.out.trans hb2
  have HT2 : Hid (TkAt T (.int .i64 0) (.int .i64 0) (.string ⟨#[]⟩) (.string ⟨#[]⟩) (.string ⟨#[]⟩) (.int .i64 0) W2) := But.tok HT0.out hb2 HBT.out
  clear hs2 hb2 c4 H1 HB1 HT0
  have H3 : Hid (IsSc W0 B σ' ρ (W2.alloc (.cells #[.int .i64 k, .int .i64 0, .string x, .string y, .string z, .int .i64 0] 33))) := H2.out.later ((Below.refl _ _).alloc (Nat.le_refl _) _)
  have HB3 : Hid (But B w (W2.alloc (.cells #[.int .i64 k, .int .i64 0, .string x, .string y, .string z, .int .i64 0] 33))) := HB2.out.trans (But.of ((Below.refl _ _).alloc (Nat.le_refl _) _))
  have HT3 : Hid (TkAt T (.int .i64 0) (.int .i64 0) (.string ⟨#[]⟩) (.string ⟨#[]⟩) (.string ⟨#[]⟩) (.int .i64 0) (W2.alloc (.cells #[.int .i64 k, .int .i64 0, .string x, .string y, .string z, .int .i64 0] 33))) := HT2.out.later (((Below.refl _ _).alloc (Nat.le_refl _) _).block T HT2.out.lt)
  obtain ⟨t0, t1, t2, t3, t4, t5⟩ := HT3.out.cells
  have z0 := HT3.out.frozen 0
  have z1 := HT3.out.frozen 1
  have z2 := HT3.out.frozen 2
  have z3 := HT3.out.frozen 3
  have z4 := HT3.out.frozen 4
  have z5 := HT3.out.frozen 5
  go_wp2_with fail
  generalize W2.alloc (.cells #[.int .i64 k, .int .i64 0, .string x, .string y, .string z, .int .i64 0] 33) = W3 at *
  have HT4 := HT3.out.put (.int .i64 k) (.int .i64 0) (.string x) (.string y) (.string z) (.int .i64 0)
  obtain ⟨r0, r1, r2, r3, r4, r5⟩ := HT4.cells
  have hbe := tkW_below W3 T (.int .i64 k) (.int .i64 0) (.string x) (.string y) (.string z) (.int .i64 0)
  change bodyPost _ _ _ _ _ (tkW W3 T (.int .i64 k) (.int .i64 0) (.string x) (.string y) (.string z) (.int .i64 0))
  clear t0 t1 t2 t3 t4 t5 z0 z1 z2 z3 z4 z5
  refine bodyPost_ret (v := .agg #[.int .i64 k, .int .i64 0, .string x, .string y, .string z, .int .i64 0]) ?_ rfl (HP.out _ (H3.out.below HLT.out hbe) (HB3.out.more (by rw [HTT.out]; exact hbe)))
  generalize tkW W3 T (.int .i64 k) (.int .i64 0) (.string x) (.string y) (.string z) (.int .i64 0) = W4 at *
  simp [results, Tryd.results44, go_sem, r0, r1, r2, r3, r4, r5]

end Go.Proofs.YtnfoafcpcabpmaaDoor
