/-
  A scanner's read where a term is expected: a variable or a sign of a term. Conditions: none beside those stated. A scanner's read where a term is expected and none begins with a sign of its own: a word. Conditions: a text of at most 100000 bytes. A scanner's read where a term is expected and none begins with a sign of its own: a number. Conditions: a text of at most 100000 bytes.
-/
import Derived.Test.YtaocbhfehncdcaaGreatDoorXM12
import Derived.Deep.WholeRow
import Derived.Deep.Cut
namespace Go.Proofs.YtaocbhfehncdcaaGreatDoor
open Go.RowKit

set_option maxRecDepth 100000 in
set_option maxHeartbeats 4000000 in
theorem read_term (W0 B : Nat) (σ σ' : Sf) (ρ : Sr) (w : World) (h : IsSc W0 B σ ρ w) (ht : σ.t = true) (k : Int) (x y z : ByteArray) (hl : ScLt w.heap.size B σ')
    (hq : ∀ w', IsSc W0 B σ ρ w' → Calls Tryz.prog 149 #[.pointer (some ⟨B, 0, none⟩)] w' (ScP W0 B noTok σ ρ w'))
    (hh : ∀ w', IsSc W0 B σ ρ w' → Calls Tryz.prog 150 #[.pointer (some ⟨B, 0, none⟩)] w' (ScP W0 B noTok σ ρ w'))
    (hm : ∀ w', IsSc W0 B σ ρ w' → Calls Tryz.prog 151 #[.pointer (some ⟨B, 0, none⟩)] w' (ScP W0 B (.tuple #[.agg #[.int .i64 k, .int .i64 0, .string x, .string y, .string z, .int .i64 0], .bool true]) σ' ρ w')) :
    Calls Tryz.prog 133 #[.pointer (some ⟨B, 0, none⟩)] w (ScP W0 B (.agg #[.int .i64 k, .int .i64 0, .string x, .string y, .string z, .int .i64 0]) σ' ρ w) := by
  have hl0 := h.ltSize
  have hBT := h.sc.lt
  have h1 := h.later ((Below.refl _ _).alloc (Nat.le_refl _) (.cells #[.int .i64 0, .int .i64 0, .string ⟨#[]⟩, .string ⟨#[]⟩, .string ⟨#[]⟩, .int .i64 0] 101))
  have hb1 : But B w (w.alloc (.cells #[.int .i64 0, .int .i64 0, .string ⟨#[]⟩, .string ⟨#[]⟩, .string ⟨#[]⟩, .int .i64 0] 101)) := But.of ((Below.refl _ _).alloc (Nat.le_refl _) _)
  have HT0 := Lib.hid (TkAt.fresh w)
  obtain ⟨s, a, b, e, t, tk, tm, op, M⟩ := σ
  dsimp only at ht
  subst ht
  have HQ : Hid (∀ w', IsSc W0 B ⟨s, a, b, e, true, tk, tm, op, M⟩ ρ w' → Calls Tryz.prog 149 #[.pointer (some ⟨B, 0, none⟩)] w' (ScP W0 B noTok ⟨s, a, b, e, true, tk, tm, op, M⟩ ρ w')) := hq
  have HH : Hid (∀ w', IsSc W0 B ⟨s, a, b, e, true, tk, tm, op, M⟩ ρ w' → Calls Tryz.prog 150 #[.pointer (some ⟨B, 0, none⟩)] w' (ScP W0 B noTok ⟨s, a, b, e, true, tk, tm, op, M⟩ ρ w')) := hh
  have HM : Hid (∀ w', IsSc W0 B ⟨s, a, b, e, true, tk, tm, op, M⟩ ρ w' → Calls Tryz.prog 151 #[.pointer (some ⟨B, 0, none⟩)] w' (ScP W0 B (.tuple #[.agg #[.int .i64 k, .int .i64 0, .string x, .string y, .string z, .int .i64 0], .bool true]) σ' ρ w')) := hm
  have HP : Hid (∀ w', IsSc W0 B σ' ρ w' → But B w w' → ScP W0 B (.agg #[.int .i64 k, .int .i64 0, .string x, .string y, .string z, .int .i64 0]) σ' ρ w (.returned (.agg #[.int .i64 k, .int .i64 0, .string x, .string y, .string z, .int .i64 0])) w') := fun w' h1 h2 => ⟨rfl, h1, h2⟩
  have HLT := Lib.hid hl
  obtain ⟨c0, c1, c2, c3, c4, c5, c6, c7, c8⟩ := h1.sc.fields
  dsimp only at c0 c1 c2 c3 c4 c5 c6 c7 c8
  have H1 := Lib.hid h1
  have HB1 := Lib.hid hb1
  have HBT := Lib.hid hBT
  clear c2 c3 c5 c6 c7 c8 h h1 hb1 hl0 hl hq hh hm hBT
  go_enter Tryz.func133, Tryz.ntmps133
  go_wp2_with fail
  generalize w.alloc (.cells #[.int .i64 0, .int .i64 0, .string ⟨#[]⟩, .string ⟨#[]⟩, .string ⟨#[]⟩, .int .i64 0] 101) = W1 at *
  generalize hTT : w.heap.size = T at *
  have HTT := Lib.hid hTT
  clear hTT
  go_wp2_with fail
  unfold noTok tokV at *
  refine (HQ.out _ H1.out).mono ?_
  rintro e1 W1a ⟨rfl, hs2, hb2⟩
  have H1a : Hid (IsSc W0 B ⟨s, a, b, e, true, tk, tm, op, M⟩ ρ (W1a.alloc (.cells #[.int .i64 0, .int .i64 0, .string ⟨#[]⟩, .string ⟨#[]⟩, .string ⟨#[]⟩, .int .i64 0] 101))) := hs2.later ((Below.refl _ _).alloc (Nat.le_refl _) _)
  have HB1a : Hid (But B w (W1a.alloc (.cells #[.int .i64 0, .int .i64 0, .string ⟨#[]⟩, .string ⟨#[]⟩, .string ⟨#[]⟩, .int .i64 0] 101))) := (HB1.out.trans hb2).trans (But.of ((Below.refl _ _).alloc (Nat.le_refl _) _))
  have HT1a : Hid (TkAt T (.int .i64 0) (.int .i64 0) (.string ⟨#[]⟩) (.string ⟨#[]⟩) (.string ⟨#[]⟩) (.int .i64 0) (W1a.alloc (.cells #[.int .i64 0, .int .i64 0, .string ⟨#[]⟩, .string ⟨#[]⟩, .string ⟨#[]⟩, .int .i64 0] 101))) := (But.tok HT0.out hb2 HBT.out).later (((Below.refl _ _).alloc (Nat.le_refl _) _).block T (But.tok HT0.out hb2 HBT.out).lt)
  clear hs2 hb2 c4 H1 HB1 HT0
  go_wp2_with fail
  generalize W1a.alloc (.cells #[.int .i64 0, .int .i64 0, .string ⟨#[]⟩, .string ⟨#[]⟩, .string ⟨#[]⟩, .int .i64 0] 101) = W1b at *
  refine (HH.out _ H1a.out).mono ?_
  rintro e1 W1c ⟨rfl, hs2, hb2⟩
  have H1d : Hid (IsSc W0 B ⟨s, a, b, e, true, tk, tm, op, M⟩ ρ (W1c.alloc (.cells #[.int .i64 0, .int .i64 0, .string ⟨#[]⟩, .string ⟨#[]⟩, .string ⟨#[]⟩, .int .i64 0] 101))) := hs2.later ((Below.refl _ _).alloc (Nat.le_refl _) _)
  have HB1d : Hid (But B w (W1c.alloc (.cells #[.int .i64 0, .int .i64 0, .string ⟨#[]⟩, .string ⟨#[]⟩, .string ⟨#[]⟩, .int .i64 0] 101))) := (HB1a.out.trans hb2).trans (But.of ((Below.refl _ _).alloc (Nat.le_refl _) _))
  have HT1d : Hid (TkAt T (.int .i64 0) (.int .i64 0) (.string ⟨#[]⟩) (.string ⟨#[]⟩) (.string ⟨#[]⟩) (.int .i64 0) (W1c.alloc (.cells #[.int .i64 0, .int .i64 0, .string ⟨#[]⟩, .string ⟨#[]⟩, .string ⟨#[]⟩, .int .i64 0] 101))) := (But.tok HT1a.out hb2 HBT.out).later (((Below.refl _ _).alloc (Nat.le_refl _) _).block T (But.tok HT1a.out hb2 HBT.out).lt)
  clear hs2 hb2 H1a HB1a HT1a
  go_wp2_with fail
  generalize W1c.alloc (.cells #[.int .i64 0, .int .i64 0, .string ⟨#[]⟩, .string ⟨#[]⟩, .string ⟨#[]⟩, .int .i64 0] 101) = W1e at *
  refine (HM.out _ H1d.out).mono ?_
  rintro e1 W2 ⟨rfl, hs2, hb2⟩
  have H2 := Lib.hid hs2
  have HB2 : Hid (But B w W2) := HB1d.out.trans hb2
  have HT2 : Hid (TkAt T (.int .i64 0) (.int .i64 0) (.string ⟨#[]⟩) (.string ⟨#[]⟩) (.string ⟨#[]⟩) (.int .i64 0) W2) := But.tok HT1d.out hb2 HBT.out
  clear hs2 hb2 H1d HB1d HT1d
  have H3 : Hid (IsSc W0 B σ' ρ (W2.alloc (.cells #[.int .i64 k, .int .i64 0, .string x, .string y, .string z, .int .i64 0] 101))) := H2.out.later ((Below.refl _ _).alloc (Nat.le_refl _) _)
  have HB3 : Hid (But B w (W2.alloc (.cells #[.int .i64 k, .int .i64 0, .string x, .string y, .string z, .int .i64 0] 101))) := HB2.out.trans (But.of ((Below.refl _ _).alloc (Nat.le_refl _) _))
  have HT3 : Hid (TkAt T (.int .i64 0) (.int .i64 0) (.string ⟨#[]⟩) (.string ⟨#[]⟩) (.string ⟨#[]⟩) (.int .i64 0) (W2.alloc (.cells #[.int .i64 k, .int .i64 0, .string x, .string y, .string z, .int .i64 0] 101))) := HT2.out.later (((Below.refl _ _).alloc (Nat.le_refl _) _).block T HT2.out.lt)
  obtain ⟨t0, t1, t2, t3, t4, t5⟩ := HT3.out.cells
  have z0 := HT3.out.frozen 0
  have z1 := HT3.out.frozen 1
  have z2 := HT3.out.frozen 2
  have z3 := HT3.out.frozen 3
  have z4 := HT3.out.frozen 4
  have z5 := HT3.out.frozen 5
  go_wp2_with fail
  generalize W2.alloc (.cells #[.int .i64 k, .int .i64 0, .string x, .string y, .string z, .int .i64 0] 101) = W3 at *
  have HT4 := HT3.out.put (.int .i64 k) (.int .i64 0) (.string x) (.string y) (.string z) (.int .i64 0)
  obtain ⟨r0, r1, r2, r3, r4, r5⟩ := HT4.cells
  have hbe := tkW_below W3 T (.int .i64 k) (.int .i64 0) (.string x) (.string y) (.string z) (.int .i64 0)
  change bodyPost _ _ _ _ _ (tkW W3 T (.int .i64 k) (.int .i64 0) (.string x) (.string y) (.string z) (.int .i64 0))
  clear t0 t1 t2 t3 t4 t5 z0 z1 z2 z3 z4 z5
  refine bodyPost_ret (v := .agg #[.int .i64 k, .int .i64 0, .string x, .string y, .string z, .int .i64 0]) ?_ rfl (HP.out _ (H3.out.below HLT.out hbe) (HB3.out.more (by rw [HTT.out]; exact hbe)))
  generalize tkW W3 T (.int .i64 k) (.int .i64 0) (.string x) (.string y) (.string z) (.int .i64 0) = W4 at *
  simp [results, Tryz.results133, go_sem, r0, r1, r2, r3, r4, r5]

end Go.Proofs.YtaocbhfehncdcaaGreatDoor

namespace Go.Proofs.YtaocbhfehncdcaaGreatDoor
open Go.RowKit

set_option maxRecDepth 100000 in
set_option maxHeartbeats 4000000 in
theorem read_word_t (W0 B : Nat) (σ : Sf) (ρ : Sr) (w : World) (h : IsSc W0 B σ ρ w) (hs : σ.s.size ≤ 100000) (ha : σ.a ≤ σ.s.size) (ht : σ.t = true)
    (hqn : ∀ w', IsSc W0 B σ ρ w' → Calls Tryz.prog 149 #[.pointer (some ⟨B, 0, none⟩)] w' (ScP W0 B noTok σ ρ w'))
    (hhn : ∀ w', IsSc W0 B σ ρ w' → Calls Tryz.prog 150 #[.pointer (some ⟨B, 0, none⟩)] w' (ScP W0 B noTok σ ρ w'))
    (hmn : ∀ w', IsSc W0 B σ ρ w' → Calls Tryz.prog 151 #[.pointer (some ⟨B, 0, none⟩)] w' (ScP W0 B noTok σ ρ w'))
    (n : Nat) (hn : wsz (σ.s.data.toList.drop σ.a) = n) (hn0 : 0 < n) (hn1 : n ≤ 12) :
    Calls Tryz.prog 133 #[.pointer (some ⟨B, 0, none⟩)] w (ScP W0 B (tokV 0 (σ.s.extract σ.a (σ.a + n))) { σ with a := σ.a + n } ρ w) := by
  have hl0 := h.ltSize
  have hBT := h.sc.lt
  have h1 := h.later ((Below.refl _ _).alloc (Nat.le_refl _) (.cells #[.int .i64 0, .int .i64 0, .string ⟨#[]⟩, .string ⟨#[]⟩, .string ⟨#[]⟩, .int .i64 0] 101))
  have hb1 : But B w (w.alloc (.cells #[.int .i64 0, .int .i64 0, .string ⟨#[]⟩, .string ⟨#[]⟩, .string ⟨#[]⟩, .int .i64 0] 101)) := But.of ((Below.refl _ _).alloc (Nat.le_refl _) _)
  have HT0 := Lib.hid (TkAt.fresh w)
  obtain ⟨s, a, b, e, t, tk, tm, op, M⟩ := σ
  dsimp only at hs ha hn ht
  subst ht
  have hnl : n ≤ s.size - a := by
    have := wsz_le (s.data.toList.drop a)
    rw [hn, List.length_drop, ← Lib.size_eq] at this
    exact this
  have HWD : Hid (∀ w, Calls Tryz.prog 152 #[.pointer (some ⟨B, 0, none⟩), .string (s.extract a s.size)] w (InS n w)) := fun w => by
    have h2 : (s.extract a s.size).size ≤ 100000 := by rw [Lib.size_eq, drop_list, List.length_drop, ← Lib.size_eq]; omega
    have := word_ok B (s.extract a s.size) w h2 (by rw [drop_list, hn]; exact hn1)
    rwa [drop_list, hn] at this
  have HCU := Lib.hid (fun w' (h : IsSc W0 B ⟨s, a, b, e, true, tk, tm, op, M⟩ ρ w') => cut_any W0 B ⟨s, a, b, e, true, tk, tm, op, M⟩ ρ 0 n w' h hs (by dsimp only; omega) (by decide) (by decide))
  dsimp only at HCU
  have HQ : Hid (∀ w', IsSc W0 B ⟨s, a, b, e, true, tk, tm, op, M⟩ ρ w' → Calls Tryz.prog 149 #[.pointer (some ⟨B, 0, none⟩)] w' (ScP W0 B noTok ⟨s, a, b, e, true, tk, tm, op, M⟩ ρ w')) := hqn
  have HH : Hid (∀ w', IsSc W0 B ⟨s, a, b, e, true, tk, tm, op, M⟩ ρ w' → Calls Tryz.prog 150 #[.pointer (some ⟨B, 0, none⟩)] w' (ScP W0 B noTok ⟨s, a, b, e, true, tk, tm, op, M⟩ ρ w')) := hhn
  have HM : Hid (∀ w', IsSc W0 B ⟨s, a, b, e, true, tk, tm, op, M⟩ ρ w' → Calls Tryz.prog 151 #[.pointer (some ⟨B, 0, none⟩)] w' (ScP W0 B noTok ⟨s, a, b, e, true, tk, tm, op, M⟩ ρ w')) := hmn
  have HP : Hid (∀ w', IsSc W0 B ⟨s, a + n, b, e, true, tk, tm, op, M⟩ ρ w' → But B w w' → ScP W0 B (tokV 0 (s.extract a (a + n))) ⟨s, a + n, b, e, true, tk, tm, op, M⟩ ρ w (.returned (tokV 0 (s.extract a (a + n)))) w') := fun w' h1 h2 => ⟨rfl, h1, h2⟩
  have HLT : Hid (ScLt w.heap.size B ⟨s, a + n, b, e, true, tk, tm, op, M⟩) := ⟨hl0.b, hl0.tk, hl0.tm, hl0.op, hl0.m⟩
  obtain ⟨c0, c1, c2, c3, c4, c5, c6, c7, c8⟩ := h1.sc.fields
  dsimp only at c0 c1 c2 c3 c4 c5 c6 c7 c8
  have H1 := Lib.hid h1
  have HB1 := Lib.hid hb1
  have HBT := Lib.hid hBT
  have hai : (a : Int) ≤ (s.size : Int) := by omega
  have x6 : (0 : Int) < (n : Int) := by omega
  clear c2 c3 c5 c6 c7 c8 h h1 hb1 hl0 hqn hhn hmn hn hBT
  go_enter Tryz.func133, Tryz.ntmps133
  go_wp2_with fail
  generalize w.alloc (.cells #[.int .i64 0, .int .i64 0, .string ⟨#[]⟩, .string ⟨#[]⟩, .string ⟨#[]⟩, .int .i64 0] 101) = W1 at *
  generalize hTT : w.heap.size = T at *
  have HTT := Lib.hid hTT
  clear hTT
  unfold noTok at HQ HH HM
  clear c0 c1 c4
  refine (HQ.out _ H1.out).mono ?_
  rintro e1 Wa ⟨rfl, hs2, hb2⟩
  have H_0 : Hid (IsSc W0 B ⟨s, a, b, e, true, tk, tm, op, M⟩ ρ (Wa.alloc (.cells #[.int .i64 0, .int .i64 0, .string ⟨#[]⟩, .string ⟨#[]⟩, .string ⟨#[]⟩, .int .i64 0] 101))) := hs2.later ((Below.refl _ _).alloc (Nat.le_refl _) _)
  have HB_0 : Hid (But B w (Wa.alloc (.cells #[.int .i64 0, .int .i64 0, .string ⟨#[]⟩, .string ⟨#[]⟩, .string ⟨#[]⟩, .int .i64 0] 101))) := (HB1.out.trans hb2).trans (But.of ((Below.refl _ _).alloc (Nat.le_refl _) _))
  have HT_0 : Hid (TkAt T (.int .i64 0) (.int .i64 0) (.string ⟨#[]⟩) (.string ⟨#[]⟩) (.string ⟨#[]⟩) (.int .i64 0) (Wa.alloc (.cells #[.int .i64 0, .int .i64 0, .string ⟨#[]⟩, .string ⟨#[]⟩, .string ⟨#[]⟩, .int .i64 0] 101))) := (But.tok HT0.out hb2 HBT.out).later (((Below.refl _ _).alloc (Nat.le_refl _) _).block T (But.tok HT0.out hb2 HBT.out).lt)
  clear hs2 hb2 H1 HB1 HT0
  unfold tokV
  go_wp2_with fail
  generalize Wa.alloc (.cells #[.int .i64 0, .int .i64 0, .string ⟨#[]⟩, .string ⟨#[]⟩, .string ⟨#[]⟩, .int .i64 0] 101) = Wa2 at *
  refine (HH.out _ H_0.out).mono ?_
  rintro e1 Wb ⟨rfl, hs2, hb2⟩
  have H_1 : Hid (IsSc W0 B ⟨s, a, b, e, true, tk, tm, op, M⟩ ρ (Wb.alloc (.cells #[.int .i64 0, .int .i64 0, .string ⟨#[]⟩, .string ⟨#[]⟩, .string ⟨#[]⟩, .int .i64 0] 101))) := hs2.later ((Below.refl _ _).alloc (Nat.le_refl _) _)
  have HB_1 : Hid (But B w (Wb.alloc (.cells #[.int .i64 0, .int .i64 0, .string ⟨#[]⟩, .string ⟨#[]⟩, .string ⟨#[]⟩, .int .i64 0] 101))) := (HB_0.out.trans hb2).trans (But.of ((Below.refl _ _).alloc (Nat.le_refl _) _))
  have HT_1 : Hid (TkAt T (.int .i64 0) (.int .i64 0) (.string ⟨#[]⟩) (.string ⟨#[]⟩) (.string ⟨#[]⟩) (.int .i64 0) (Wb.alloc (.cells #[.int .i64 0, .int .i64 0, .string ⟨#[]⟩, .string ⟨#[]⟩, .string ⟨#[]⟩, .int .i64 0] 101))) := (But.tok HT_0.out hb2 HBT.out).later (((Below.refl _ _).alloc (Nat.le_refl _) _).block T (But.tok HT_0.out hb2 HBT.out).lt)
  clear hs2 hb2 H_0 HB_0 HT_0
  unfold tokV
  go_wp2_with fail
  generalize Wb.alloc (.cells #[.int .i64 0, .int .i64 0, .string ⟨#[]⟩, .string ⟨#[]⟩, .string ⟨#[]⟩, .int .i64 0] 101) = Wb2 at *
  refine (HM.out _ H_1.out).mono ?_
  rintro e1 Wc ⟨rfl, hs2, hb2⟩
  have H_2 : Hid (IsSc W0 B ⟨s, a, b, e, true, tk, tm, op, M⟩ ρ (Wc.alloc (.cells #[.int .i64 0, .int .i64 0, .string ⟨#[]⟩, .string ⟨#[]⟩, .string ⟨#[]⟩, .int .i64 0] 101))) := hs2.later ((Below.refl _ _).alloc (Nat.le_refl _) _)
  have HB_2 : Hid (But B w (Wc.alloc (.cells #[.int .i64 0, .int .i64 0, .string ⟨#[]⟩, .string ⟨#[]⟩, .string ⟨#[]⟩, .int .i64 0] 101))) := (HB_1.out.trans hb2).trans (But.of ((Below.refl _ _).alloc (Nat.le_refl _) _))
  have HT_2 : Hid (TkAt T (.int .i64 0) (.int .i64 0) (.string ⟨#[]⟩) (.string ⟨#[]⟩) (.string ⟨#[]⟩) (.int .i64 0) (Wc.alloc (.cells #[.int .i64 0, .int .i64 0, .string ⟨#[]⟩, .string ⟨#[]⟩, .string ⟨#[]⟩, .int .i64 0] 101))) := (But.tok HT_1.out hb2 HBT.out).later (((Below.refl _ _).alloc (Nat.le_refl _) _).block T (But.tok HT_1.out hb2 HBT.out).lt)
  clear hs2 hb2 H_1 HB_1 HT_1
  unfold tokV
  go_wp2_with fail
  generalize Wc.alloc (.cells #[.int .i64 0, .int .i64 0, .string ⟨#[]⟩, .string ⟨#[]⟩, .string ⟨#[]⟩, .int .i64 0] 101) = Wc2 at *
  obtain ⟨c0, c1, c2, c3, c4, c5, c6, c7, c8⟩ := H_2.out.sc.fields
  dsimp only at c0 c1 c2 c3 c4 c5 c6 c7 c8
  clear c2 c3 c5 c6 c7 c8
  go_quiet (fail)
  have H2 : Hid (IsSc W0 B ⟨s, a, b, e, true, tk, tm, op, M⟩ ρ (Wc2.drewN nq)) := H_2.out.drew _
  have HB2 : Hid (But B w (Wc2.drewN nq)) := HB_2.out.drewN _
  have HT2 : Hid (TkAt T (.int .i64 0) (.int .i64 0) (.string ⟨#[]⟩) (.string ⟨#[]⟩) (.string ⟨#[]⟩) (.int .i64 0) (Wc2.drewN nq)) := HT_2.out.later rfl
  clear c0 c1 c4 H_2 HB_2 HT_2
  generalize Wc2.drewN nq = W2 at *
  generalize s.extract a s.size = rest at *
  go_wp2_with fail
  refine (HWD.out _).mono ?_
  rintro e1 w' ⟨rfl, rfl⟩
  go_wp2_with fail
  refine (HCU.out _ H2.out).mono ?_
  rintro e1 W3 ⟨rfl, hs3, hb3⟩
  have H3 := Lib.hid hs3
  have HB3 : Hid (But B w W3) := HB2.out.trans hb3
  have HT3 : Hid (TkAt T (.int .i64 0) (.int .i64 0) (.string ⟨#[]⟩) (.string ⟨#[]⟩) (.string ⟨#[]⟩) (.int .i64 0) W3) := But.tok HT2.out hb3 HBT.out
  clear hs3 hb3
  obtain ⟨t0, t1, t2, t3, t4, t5⟩ := HT3.out.cells
  have z0 := HT3.out.frozen 0
  have z1 := HT3.out.frozen 1
  have z2 := HT3.out.frozen 2
  have z3 := HT3.out.frozen 3
  have z4 := HT3.out.frozen 4
  have z5 := HT3.out.frozen 5
  generalize s.extract a (a + n) = X at *
  unfold tokV at *
  go_wp2
  have HT4 := HT3.out.put (.int .i64 0) (.int .i64 0) (.string X) (.string ⟨#[]⟩) (.string ⟨#[]⟩) (.int .i64 0)
  obtain ⟨r0, r1, r2, r3, r4, r5⟩ := HT4.cells
  have hbe := tkW_below W3 T (.int .i64 0) (.int .i64 0) (.string X) (.string ⟨#[]⟩) (.string ⟨#[]⟩) (.int .i64 0)
  change bodyPost _ _ _ _ _ (tkW W3 T (.int .i64 0) (.int .i64 0) (.string X) (.string ⟨#[]⟩) (.string ⟨#[]⟩) (.int .i64 0))
  clear t0 t1 t2 t3 t4 t5 z0 z1 z2 z3 z4 z5
  refine bodyPost_ret (v := .agg #[.int .i64 0, .int .i64 0, .string X, .string ⟨#[]⟩, .string ⟨#[]⟩, .int .i64 0]) ?_ rfl (HP.out _ (H3.out.below HLT.out hbe) (HB3.out.more (by rw [HTT.out]; exact hbe)))
  generalize tkW W3 T (.int .i64 0) (.int .i64 0) (.string X) (.string ⟨#[]⟩) (.string ⟨#[]⟩) (.int .i64 0) = W4 at *
  simp [results, Tryz.results133, go_sem, r0, r1, r2, r3, r4, r5]

end Go.Proofs.YtaocbhfehncdcaaGreatDoor

namespace Go.Proofs.YtaocbhfehncdcaaGreatDoor
open Go.RowKit

set_option maxRecDepth 100000 in
set_option maxHeartbeats 4000000 in
theorem read_num_t (W0 B : Nat) (σ : Sf) (ρ : Sr) (w : World) (h : IsSc W0 B σ ρ w) (hs : σ.s.size ≤ 100000) (ha : σ.a ≤ σ.s.size) (ht : σ.t = true)
    (hqn : ∀ w', IsSc W0 B σ ρ w' → Calls Tryz.prog 149 #[.pointer (some ⟨B, 0, none⟩)] w' (ScP W0 B noTok σ ρ w'))
    (hhn : ∀ w', IsSc W0 B σ ρ w' → Calls Tryz.prog 150 #[.pointer (some ⟨B, 0, none⟩)] w' (ScP W0 B noTok σ ρ w'))
    (hmn : ∀ w', IsSc W0 B σ ρ w' → Calls Tryz.prog 151 #[.pointer (some ⟨B, 0, none⟩)] w' (ScP W0 B noTok σ ρ w'))
    (n : Nat) (hn : wsz (σ.s.data.toList.drop σ.a) = 0) (hn0 : 0 < n) (hn1 : dgC (σ.s.data.toList.drop σ.a) = n) :
    Calls Tryz.prog 133 #[.pointer (some ⟨B, 0, none⟩)] w (ScP W0 B (tokV 1 (σ.s.extract σ.a (σ.a + n))) { σ with a := σ.a + n } ρ w) := by
  have hl0 := h.ltSize
  have hBT := h.sc.lt
  have h1 := h.later ((Below.refl _ _).alloc (Nat.le_refl _) (.cells #[.int .i64 0, .int .i64 0, .string ⟨#[]⟩, .string ⟨#[]⟩, .string ⟨#[]⟩, .int .i64 0] 101))
  have hb1 : But B w (w.alloc (.cells #[.int .i64 0, .int .i64 0, .string ⟨#[]⟩, .string ⟨#[]⟩, .string ⟨#[]⟩, .int .i64 0] 101)) := But.of ((Below.refl _ _).alloc (Nat.le_refl _) _)
  have HT0 := Lib.hid (TkAt.fresh w)
  obtain ⟨s, a, b, e, t, tk, tm, op, M⟩ := σ
  dsimp only at hs ha hn ht
  subst ht
  have hrs : (s.extract a s.size).size = s.size - a := by rw [Lib.size_eq, drop_list, List.length_drop, ← Lib.size_eq]
  have hq := dgC_drop (s.data.toList.drop a)
  rw [hn1, List.length_drop, ← Lib.size_eq] at hq
  have hnl : n ≤ s.size - a := by omega
  have HTR : Hid (∀ w, Calls Tryz.prog 154 #[.string (s.extract a s.size), .string ⟨#[48, 49, 50, 51, 52, 53, 54, 55, 56, 57]⟩] w fun e w' => e = .returned (.string ⟨((s.data.toList.drop a).dropWhile dgB).toArray⟩) ∧ Below w.heap.size w w') := fun w => by
    have := trimDigits (s.extract a s.size) w
    rwa [drop_list] at this
  have hts : (⟨((s.data.toList.drop a).dropWhile dgB).toArray⟩ : ByteArray).size = ((s.data.toList.drop a).dropWhile dgB).length := by rw [Lib.size_eq]
  have hsub : ((s.extract a s.size).size : Int) - ((⟨((s.data.toList.drop a).dropWhile dgB).toArray⟩ : ByteArray).size : Int) = (n : Int) := by rw [hrs, hts]; omega
  have hwr : IntKind.i64.wrap (n : Int) = (n : Int) := IntWalk.i64_in _ (by omega)
  clear hq hts hrs
  generalize (⟨((s.data.toList.drop a).dropWhile dgB).toArray⟩ : ByteArray) = tr at *
  have HWD : Hid (∀ w, Calls Tryz.prog 152 #[.pointer (some ⟨B, 0, none⟩), .string (s.extract a s.size)] w (InS 0 w)) := fun w => by
    have h2 : (s.extract a s.size).size ≤ 100000 := by rw [Lib.size_eq, drop_list, List.length_drop, ← Lib.size_eq]; omega
    have := word_ok B (s.extract a s.size) w h2 (by rw [drop_list, hn]; omega)
    rwa [drop_list, hn] at this
  have HCU := Lib.hid (fun w' (h : IsSc W0 B ⟨s, a, b, e, true, tk, tm, op, M⟩ ρ w') => cut_any W0 B ⟨s, a, b, e, true, tk, tm, op, M⟩ ρ 1 n w' h hs (by dsimp only; omega) (by decide) (by decide))
  dsimp only at HCU
  have HQ : Hid (∀ w', IsSc W0 B ⟨s, a, b, e, true, tk, tm, op, M⟩ ρ w' → Calls Tryz.prog 149 #[.pointer (some ⟨B, 0, none⟩)] w' (ScP W0 B noTok ⟨s, a, b, e, true, tk, tm, op, M⟩ ρ w')) := hqn
  have HH : Hid (∀ w', IsSc W0 B ⟨s, a, b, e, true, tk, tm, op, M⟩ ρ w' → Calls Tryz.prog 150 #[.pointer (some ⟨B, 0, none⟩)] w' (ScP W0 B noTok ⟨s, a, b, e, true, tk, tm, op, M⟩ ρ w')) := hhn
  have HM : Hid (∀ w', IsSc W0 B ⟨s, a, b, e, true, tk, tm, op, M⟩ ρ w' → Calls Tryz.prog 151 #[.pointer (some ⟨B, 0, none⟩)] w' (ScP W0 B noTok ⟨s, a, b, e, true, tk, tm, op, M⟩ ρ w')) := hmn
  have HP : Hid (∀ w', IsSc W0 B ⟨s, a + n, b, e, true, tk, tm, op, M⟩ ρ w' → But B w w' → ScP W0 B (tokV 1 (s.extract a (a + n))) ⟨s, a + n, b, e, true, tk, tm, op, M⟩ ρ w (.returned (tokV 1 (s.extract a (a + n)))) w') := fun w' h1 h2 => ⟨rfl, h1, h2⟩
  have HLT : Hid (ScLt w.heap.size B ⟨s, a + n, b, e, true, tk, tm, op, M⟩) := ⟨hl0.b, hl0.tk, hl0.tm, hl0.op, hl0.m⟩
  obtain ⟨c0, c1, c2, c3, c4, c5, c6, c7, c8⟩ := h1.sc.fields
  dsimp only at c0 c1 c2 c3 c4 c5 c6 c7 c8
  have H1 := Lib.hid h1
  have HB1 := Lib.hid hb1
  have HBT := Lib.hid hBT
  have hai : (a : Int) ≤ (s.size : Int) := by omega
  have x6 : (0 : Int) < (n : Int) := by omega
  clear c2 c3 c5 c6 c7 c8 h h1 hb1 hl0 hqn hhn hmn hn hBT
  go_enter Tryz.func133, Tryz.ntmps133
  go_wp2_with fail
  generalize w.alloc (.cells #[.int .i64 0, .int .i64 0, .string ⟨#[]⟩, .string ⟨#[]⟩, .string ⟨#[]⟩, .int .i64 0] 101) = W1 at *
  generalize hTT : w.heap.size = T at *
  have HTT := Lib.hid hTT
  clear hTT
  unfold noTok at HQ HH HM
  clear c0 c1 c4
  refine (HQ.out _ H1.out).mono ?_
  rintro e1 Wa ⟨rfl, hs2, hb2⟩
  have H_0 : Hid (IsSc W0 B ⟨s, a, b, e, true, tk, tm, op, M⟩ ρ (Wa.alloc (.cells #[.int .i64 0, .int .i64 0, .string ⟨#[]⟩, .string ⟨#[]⟩, .string ⟨#[]⟩, .int .i64 0] 101))) := hs2.later ((Below.refl _ _).alloc (Nat.le_refl _) _)
  have HB_0 : Hid (But B w (Wa.alloc (.cells #[.int .i64 0, .int .i64 0, .string ⟨#[]⟩, .string ⟨#[]⟩, .string ⟨#[]⟩, .int .i64 0] 101))) := (HB1.out.trans hb2).trans (But.of ((Below.refl _ _).alloc (Nat.le_refl _) _))
  have HT_0 : Hid (TkAt T (.int .i64 0) (.int .i64 0) (.string ⟨#[]⟩) (.string ⟨#[]⟩) (.string ⟨#[]⟩) (.int .i64 0) (Wa.alloc (.cells #[.int .i64 0, .int .i64 0, .string ⟨#[]⟩, .string ⟨#[]⟩, .string ⟨#[]⟩, .int .i64 0] 101))) := (But.tok HT0.out hb2 HBT.out).later (((Below.refl _ _).alloc (Nat.le_refl _) _).block T (But.tok HT0.out hb2 HBT.out).lt)
  clear hs2 hb2 H1 HB1 HT0
  unfold tokV
  go_wp2_with fail
  generalize Wa.alloc (.cells #[.int .i64 0, .int .i64 0, .string ⟨#[]⟩, .string ⟨#[]⟩, .string ⟨#[]⟩, .int .i64 0] 101) = Wa2 at *
  refine (HH.out _ H_0.out).mono ?_
  rintro e1 Wb ⟨rfl, hs2, hb2⟩
  have H_1 : Hid (IsSc W0 B ⟨s, a, b, e, true, tk, tm, op, M⟩ ρ (Wb.alloc (.cells #[.int .i64 0, .int .i64 0, .string ⟨#[]⟩, .string ⟨#[]⟩, .string ⟨#[]⟩, .int .i64 0] 101))) := hs2.later ((Below.refl _ _).alloc (Nat.le_refl _) _)
  have HB_1 : Hid (But B w (Wb.alloc (.cells #[.int .i64 0, .int .i64 0, .string ⟨#[]⟩, .string ⟨#[]⟩, .string ⟨#[]⟩, .int .i64 0] 101))) := (HB_0.out.trans hb2).trans (But.of ((Below.refl _ _).alloc (Nat.le_refl _) _))
  have HT_1 : Hid (TkAt T (.int .i64 0) (.int .i64 0) (.string ⟨#[]⟩) (.string ⟨#[]⟩) (.string ⟨#[]⟩) (.int .i64 0) (Wb.alloc (.cells #[.int .i64 0, .int .i64 0, .string ⟨#[]⟩, .string ⟨#[]⟩, .string ⟨#[]⟩, .int .i64 0] 101))) := (But.tok HT_0.out hb2 HBT.out).later (((Below.refl _ _).alloc (Nat.le_refl _) _).block T (But.tok HT_0.out hb2 HBT.out).lt)
  clear hs2 hb2 H_0 HB_0 HT_0
  unfold tokV
  go_wp2_with fail
  generalize Wb.alloc (.cells #[.int .i64 0, .int .i64 0, .string ⟨#[]⟩, .string ⟨#[]⟩, .string ⟨#[]⟩, .int .i64 0] 101) = Wb2 at *
  refine (HM.out _ H_1.out).mono ?_
  rintro e1 Wc ⟨rfl, hs2, hb2⟩
  have H_2 : Hid (IsSc W0 B ⟨s, a, b, e, true, tk, tm, op, M⟩ ρ (Wc.alloc (.cells #[.int .i64 0, .int .i64 0, .string ⟨#[]⟩, .string ⟨#[]⟩, .string ⟨#[]⟩, .int .i64 0] 101))) := hs2.later ((Below.refl _ _).alloc (Nat.le_refl _) _)
  have HB_2 : Hid (But B w (Wc.alloc (.cells #[.int .i64 0, .int .i64 0, .string ⟨#[]⟩, .string ⟨#[]⟩, .string ⟨#[]⟩, .int .i64 0] 101))) := (HB_1.out.trans hb2).trans (But.of ((Below.refl _ _).alloc (Nat.le_refl _) _))
  have HT_2 : Hid (TkAt T (.int .i64 0) (.int .i64 0) (.string ⟨#[]⟩) (.string ⟨#[]⟩) (.string ⟨#[]⟩) (.int .i64 0) (Wc.alloc (.cells #[.int .i64 0, .int .i64 0, .string ⟨#[]⟩, .string ⟨#[]⟩, .string ⟨#[]⟩, .int .i64 0] 101))) := (But.tok HT_1.out hb2 HBT.out).later (((Below.refl _ _).alloc (Nat.le_refl _) _).block T (But.tok HT_1.out hb2 HBT.out).lt)
  clear hs2 hb2 H_1 HB_1 HT_1
  unfold tokV
  go_wp2_with fail
  generalize Wc.alloc (.cells #[.int .i64 0, .int .i64 0, .string ⟨#[]⟩, .string ⟨#[]⟩, .string ⟨#[]⟩, .int .i64 0] 101) = Wc2 at *
  obtain ⟨c0, c1, c2, c3, c4, c5, c6, c7, c8⟩ := H_2.out.sc.fields
  dsimp only at c0 c1 c2 c3 c4 c5 c6 c7 c8
  clear c2 c3 c5 c6 c7 c8
  go_quiet (fail)
  have H2 : Hid (IsSc W0 B ⟨s, a, b, e, true, tk, tm, op, M⟩ ρ (Wc2.drewN nq)) := H_2.out.drew _
  have HB2 : Hid (But B w (Wc2.drewN nq)) := HB_2.out.drewN _
  have HT2 : Hid (TkAt T (.int .i64 0) (.int .i64 0) (.string ⟨#[]⟩) (.string ⟨#[]⟩) (.string ⟨#[]⟩) (.int .i64 0) (Wc2.drewN nq)) := HT_2.out.later rfl
  clear c0 c1 c4 H_2 HB_2 HT_2
  generalize Wc2.drewN nq = W2 at *
  generalize s.extract a s.size = rest at *
  go_wp2_with fail
  refine (HWD.out _).mono ?_
  rintro e1 w' ⟨rfl, rfl⟩
  go_wp2_with fail
  refine (HTR.out _).mono ?_
  rintro e1 w2 ⟨rfl, hb2⟩
  replace HB2 : Hid (But B w w2) := HB2.out.trans (But.of hb2)
  replace HT2 := Lib.hid (HT2.out.later (hb2.block T HT2.out.lt))
  replace H2 := Lib.hid (H2.out.later hb2)
  clear hb2
  go_wp2_with fail
  refine (HCU.out _ H2.out).mono ?_
  rintro e1 W3 ⟨rfl, hs3, hb3⟩
  have H3 := Lib.hid hs3
  have HB3 : Hid (But B w W3) := HB2.out.trans hb3
  have HT3 : Hid (TkAt T (.int .i64 0) (.int .i64 0) (.string ⟨#[]⟩) (.string ⟨#[]⟩) (.string ⟨#[]⟩) (.int .i64 0) W3) := But.tok HT2.out hb3 HBT.out
  clear hs3 hb3
  obtain ⟨t0, t1, t2, t3, t4, t5⟩ := HT3.out.cells
  have z0 := HT3.out.frozen 0
  have z1 := HT3.out.frozen 1
  have z2 := HT3.out.frozen 2
  have z3 := HT3.out.frozen 3
  have z4 := HT3.out.frozen 4
  have z5 := HT3.out.frozen 5
  generalize s.extract a (a + n) = X at *
  unfold tokV at *
  go_wp2
  have HT4 := HT3.out.put (.int .i64 1) (.int .i64 0) (.string X) (.string ⟨#[]⟩) (.string ⟨#[]⟩) (.int .i64 0)
  obtain ⟨r0, r1, r2, r3, r4, r5⟩ := HT4.cells
  have hbe := tkW_below W3 T (.int .i64 1) (.int .i64 0) (.string X) (.string ⟨#[]⟩) (.string ⟨#[]⟩) (.int .i64 0)
  change bodyPost _ _ _ _ _ (tkW W3 T (.int .i64 1) (.int .i64 0) (.string X) (.string ⟨#[]⟩) (.string ⟨#[]⟩) (.int .i64 0))
  clear t0 t1 t2 t3 t4 t5 z0 z1 z2 z3 z4 z5
  refine bodyPost_ret (v := .agg #[.int .i64 1, .int .i64 0, .string X, .string ⟨#[]⟩, .string ⟨#[]⟩, .int .i64 0]) ?_ rfl (HP.out _ (H3.out.below HLT.out hbe) (HB3.out.more (by rw [HTT.out]; exact hbe)))
  generalize tkW W3 T (.int .i64 1) (.int .i64 0) (.string X) (.string ⟨#[]⟩) (.string ⟨#[]⟩) (.int .i64 0) = W4 at *
  simp [results, Tryz.results133, go_sem, r0, r1, r2, r3, r4, r5]

end Go.Proofs.YtaocbhfehncdcaaGreatDoor
