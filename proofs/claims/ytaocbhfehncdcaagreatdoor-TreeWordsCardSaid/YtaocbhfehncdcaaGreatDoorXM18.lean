/-
  A scanner's read where a term is expected and none begins with a sign of its own: a number. Conditions: a text of at most 100000 bytes. A scanner's read where a term is expected and none begins with a sign of its own: a sign. Conditions: a text of at most 100000 bytes; the row of signs as it is laid.
-/
import Derived.Test.YtaocbhfehncdcaaGreatDoorXM17
import Derived.Deep.WholeRow
import Derived.Deep.Cut
namespace Go.Proofs.YtaocbhfehncdcaaGreatDoor
open Go.RowKit

set_option maxRecDepth 100000 in
set_option maxHeartbeats 4000000 in
theorem read_num_t (W0 B : Nat) (σ : Sf) (ρ : Sr) (w : World) (h : IsSc W0 B σ ρ w) (hs : σ.s.size ≤ 100000) (ha : σ.a ≤ σ.s.size) (ht : σ.t = true)
    (hqn : ∀ w', IsSc W0 B σ ρ w' → Calls Tryz.prog 149 #[.pointer (some ⟨B, 0, none⟩)] w' (ScP W0 B noTok σ ρ w'))
    (hhn : ∀ w', IsSc W0 B σ ρ w' → Calls Tryz.prog 150 #[.pointer (some ⟨B, 0, none⟩)] w' (ScP W0 B noTok σ ρ w'))
    (hmn : ∀ w', IsSc W0 B σ ρ w' → Calls Tryz.prog 151 #[.pointer (some ⟨B, 0, none⟩)] w' (ScP W0 B noTok σ ρ w'))
    (n : Nat) (hn : wsz (σ.s.data.toList.drop σ.a) = 0) (hn0 : 0 < n) (hn1 : dgC (σ.s.data.toList.drop σ.a) = n) :
    Calls Tryz.prog 133 #[.pointer (some ⟨B, 0, none⟩)] w (ScP W0 B (tokV 1 (σ.s.extract σ.a (σ.a + n))) { σ with a := σ.a + n } ρ w) := by
  have hl0 := h.ltSize
  have hBT := h.sc.lt
  have h1 := h.later ((Below.refl _ _).alloc (Nat.le_refl _) (.cells #[.int .i64 0, .int .i64 0, .string ⟨#[]⟩, .string ⟨#[]⟩, .string ⟨#[]⟩, .int .i64 0] 101))
  have hb1 : But B w (w.alloc (.cells #[.int .i64 0, .int .i64 0, .string ⟨#[]⟩, .string ⟨#[]⟩, .string ⟨#[]⟩, .int .i64 0] 101)) := But.of ((Below.refl _ _).alloc (Nat.le_refl _) _)
  have HT0 := Lib.hid (TkAt.fresh w)
  obtain ⟨s, a, b, e, t, tk, tm, op, M⟩ := σ
  dsimp only at hs ha hn ht
  subst ht
  have hrs : (s.extract a s.size).size = s.size - a := by rw [Lib.size_eq, drop_list, List.length_drop, ← Lib.size_eq]
  have hq := dgC_drop (s.data.toList.drop a)
  rw [hn1, List.length_drop, ← Lib.size_eq] at hq
  have hnl : n ≤ s.size - a := by omega
  have HTR : Hid (∀ w, Calls Tryz.prog 154 #[.string (s.extract a s.size), .string ⟨#[48, 49, 50, 51, 52, 53, 54, 55, 56, 57]⟩] w fun e w' => e = .returned (.string ⟨((s.data.toList.drop a).dropWhile dgB).toArray⟩) ∧ Below w.heap.size w w') := fun w => by
    have := trimDigits (s.extract a s.size) w
    rwa [drop_list] at this
  have hts : (⟨((s.data.toList.drop a).dropWhile dgB).toArray⟩ : ByteArray).size = ((s.data.toList.drop a).dropWhile dgB).length := by rw [Lib.size_eq]
  have hsub : ((s.extract a s.size).size : Int) - ((⟨((s.data.toList.drop a).dropWhile dgB).toArray⟩ : ByteArray).size : Int) = (n : Int) := by rw [hrs, hts]; omega
  have hwr : IntKind.i64.wrap (n : Int) = (n : Int) := IntWalk.i64_in _ (by omega)
  clear hq hts hrs
  generalize (⟨((s.data.toList.drop a).dropWhile dgB).toArray⟩ : ByteArray) = tr at *
  have HWD : Hid (∀ w, Calls Tryz.prog 152 #[.pointer (some ⟨B, 0, none⟩), .string (s.extract a s.size)] w (InS 0 w)) := fun w => by
    have h2 : (s.extract a s.size).size ≤ 100000 := by rw [Lib.size_eq, drop_list, List.length_drop, ← Lib.size_eq]; omega
    have := word_ok B (s.extract a s.size) w h2 (by rw [drop_list, hn]; omega)
    rwa [drop_list, hn] at this
  have HCU := Lib.hid (fun w' (h : IsSc W0 B ⟨s, a, b, e, true, tk, tm, op, M⟩ ρ w') => cut_any W0 B ⟨s, a, b, e, true, tk, tm, op, M⟩ ρ 1 n w' h hs (by dsimp only; omega) (by decide) (by decide))
  dsimp only at HCU
  have HQ : Hid (∀ w', IsSc W0 B ⟨s, a, b, e, true, tk, tm, op, M⟩ ρ w' → Calls Tryz.prog 149 #[.pointer (some ⟨B, 0, none⟩)] w' (ScP W0 B noTok ⟨s, a, b, e, true, tk, tm, op, M⟩ ρ w')) := hqn
  have HH : Hid (∀ w', IsSc W0 B ⟨s, a, b, e, true, tk, tm, op, M⟩ ρ w' → Calls Tryz.prog 150 #[.pointer (some ⟨B, 0, none⟩)] w' (ScP W0 B noTok ⟨s, a, b, e, true, tk, tm, op, M⟩ ρ w')) := hhn
  have HM : Hid (∀ w', IsSc W0 B ⟨s, a, b, e, true, tk, tm, op, M⟩ ρ w' → Calls Tryz.prog 151 #[.pointer (some ⟨B, 0, none⟩)] w' (ScP W0 B noTok ⟨s, a, b, e, true, tk, tm, op, M⟩ ρ w')) := hmn
  have HP : Hid (∀ w', IsSc W0 B ⟨s, a + n, b, e, true, tk, tm, op, M⟩ ρ w' → But B w w' → ScP W0 B (tokV 1 (s.extract a (a + n))) ⟨s, a + n, b, e, true, tk, tm, op, M⟩ ρ w (.returned (tokV 1 (s.extract a (a + n)))) w') := fun w' h1 h2 => ⟨rfl, h1, h2⟩
  have HLT : Hid (ScLt w.heap.size B ⟨s, a + n, b, e, true, tk, tm, op, M⟩) := ⟨hl0.b, hl0.tk, hl0.tm, hl0.op, hl0.m⟩
  obtain ⟨c0, c1, c2, c3, c4, c5, c6, c7, c8⟩ := h1.sc.fields
  dsimp only at c0 c1 c2 c3 c4 c5 c6 c7 c8
  have H1 := Lib.hid h1
  have HB1 := Lib.hid hb1
  have HBT := Lib.hid hBT
  have hai : (a : Int) ≤ (s.size : Int) := by omega
  have x6 : (0 : Int) < (n : Int) := by omega
  clear c2 c3 c5 c6 c7 c8 h h1 hb1 hl0 hqn hhn hmn hn hBT
  go_enter Tryz.func133, Tryz.ntmps133
  go_wp2_with fail
  generalize w.alloc (.cells #[.int .i64 0, .int .i64 0, .string ⟨#[]⟩, .string ⟨#[]⟩, .string ⟨#[]⟩, .int .i64 0] 101) = W1 at *
  generalize hTT : w.heap.size = T at *
  have HTT := Lib.hid hTT
  clear hTT
  unfold noTok at HQ HH HM
  clear c0 c1 c4
  refine (HQ.out _ H1.out).mono ?_
  rintro e1 Wa ⟨rfl, hs2, hb2⟩
  have H_0 : Hid (IsSc W0 B ⟨s, a, b, e, true, tk, tm, op, M⟩ ρ (Wa.alloc (.cells #[.int .i64 0, .int .i64 0, .string ⟨#[]⟩, .string ⟨#[]⟩, .string ⟨#[]⟩, .int .i64 0] 101))) := hs2.later ((Below.refl _ _).alloc (Nat.le_refl _) _)
  have HB_0 : Hid (But B w (Wa.alloc (.cells #[.int .i64 0, .int .i64 0, .string ⟨#[]⟩, .string ⟨#[]⟩, .string ⟨#[]⟩, .int .i64 0] 101))) := (HB1.out.trans hb2).trans (But.of ((Below.refl _ _).alloc (Nat.le_refl _) _))
  have HT_0 : Hid (TkAt T (.int .i64 0) (.int .i64 0) (.string ⟨#[]⟩) (.string ⟨#[]⟩) (.string ⟨#[]⟩) (.int .i64 0) (Wa.alloc (.cells #[.int .i64 0, .int .i64 0, .string ⟨#[]⟩, .string ⟨#[]⟩, .string ⟨#[]⟩, .int .i64 0] 101))) := (But.tok HT0.out hb2 HBT.out).later (((Below.refl _ _).alloc (Nat.le_refl _) _).block T (But.tok HT0.out hb2 HBT.out).lt)
  clear hs2 hb2 H1 HB1 HT0
  unfold tokV
  go_wp2_with fail
  generalize Wa.alloc (.cells #[.int .i64 0, .int .i64 0, .string ⟨#[]⟩, .string ⟨#[]⟩, .string ⟨#[]⟩, .int .i64 0] 101) = Wa2 at *
  refine (HH.out _ H_0.out).mono ?_
  rintro e1 Wb ⟨rfl, hs2, hb2⟩
  have H_1 : Hid (IsSc W0 B ⟨s, a, b, e, true, tk, tm, op, M⟩ ρ (Wb.alloc (.cells #[.int .i64 0, .int .i64 0, .string ⟨#[]⟩, .string ⟨#[]⟩, .string ⟨#[]⟩, .int .i64 0] 101))) := hs2.later ((Below.refl _ _).alloc (Nat.le_refl _) _)
  have HB_1 : Hid (But B w (Wb.alloc (.cells #[.int .i64 0, .int .i64 0, .string ⟨#[]⟩, .string ⟨#[]⟩, .string ⟨#[]⟩, .int .i64 0] 101))) := (HB_0.out.trans hb2).trans (But.of ((Below.refl _ _).alloc (Nat.le_refl _) _))
  have HT_1 : Hid (TkAt T (.int .i64 0) (.int .i64 0) (.string ⟨#[]⟩) (.string ⟨#[]⟩) (.string ⟨#[]⟩) (.int .i64 0) (Wb.alloc (.cells #[.int .i64 0, .int .i64 0, .string ⟨#[]⟩, .string ⟨#[]⟩, .string ⟨#[]⟩, .int .i64 0] 101))) := (But.tok HT_0.out hb2 HBT.out).later (((Below.refl _ _).alloc (Nat.le_refl _) _).block T (But.tok HT_0.out hb2 HBT.out).lt)
  clear hs2 hb2 H_0 HB_0 HT_0
  unfold tokV
  go_wp2_with fail
  generalize Wb.alloc (.cells #[.int .i64 0, .int .i64 0, .string ⟨#[]⟩, .string ⟨#[]⟩, .string ⟨#[]⟩, .int .i64 0] 101) = Wb2 at *
  refine (HM.out _ H_1.out).mono ?_
  rintro e1 Wc ⟨rfl, hs2, hb2⟩
  have H_2 : Hid (IsSc W0 B ⟨s, a, b, e, true, tk, tm, op, M⟩ ρ (Wc.alloc (.cells #[.int .i64 0, .int .i64 0, .string ⟨#[]⟩, .string ⟨#[]⟩, .string ⟨#[]⟩, .int .i64 0] 101))) := hs2.later ((Below.refl _ _).alloc (Nat.le_refl _) _)
  have HB_2 : Hid (But B w (Wc.alloc (.cells #[.int .i64 0, .int .i64 0, .string ⟨#[]⟩, .string ⟨#[]⟩, .string ⟨#[]⟩, .int .i64 0] 101))) := (HB_1.out.trans hb2).trans (But.of ((Below.refl _ _).alloc (Nat.le_refl _) _))
  have HT_2 : Hid (TkAt T (.int .i64 0) (.int .i64 0) (.string ⟨#[]⟩) (.string ⟨#[]⟩) (.string ⟨#[]⟩) (.int .i64 0) (Wc.alloc (.cells #[.int .i64 0, .int .i64 0, .string ⟨#[]⟩, .string ⟨#[]⟩, .string ⟨#[]⟩, .int .i64 0] 101))) := (But.tok HT_1.out hb2 HBT.out).later (((Below.refl _ _).alloc (Nat.le_refl _) _).block T (But.tok HT_1.out hb2 HBT.out).lt)
  clear hs2 hb2 H_1 HB_1 HT_1
  unfold tokV
  go_wp2_with fail
  generalize Wc.alloc (.cells #[.int .i64 0, .int .i64 0, .string ⟨#[]⟩, .string ⟨#[]⟩, .string ⟨#[]⟩, .int .i64 0] 101) = Wc2 at *
  obtain ⟨c0, c1, c2, c3, c4, c5, c6, c7, c8⟩ := H_2.out.sc.fields
  dsimp only at c0 c1 c2 c3 c4 c5 c6 c7 c8
  clear c2 c3 c5 c6 c7 c8
  go_quiet (fail)
  have H2 : Hid (IsSc W0 B ⟨s, a, b, e, true, tk, tm, op, M⟩ ρ (Wc2.drewN nq)) := H_2.out.drew _
  have HB2 : Hid (But B w (Wc2.drewN nq)) := HB_2.out.drewN _
  have HT2 : Hid (TkAt T (.int .i64 0) (.int .i64 0) (.string ⟨#[]⟩) (.string ⟨#[]⟩) (.string ⟨#[]⟩) (.int .i64 0) (Wc2.drewN nq)) := HT_2.out.later rfl
  clear c0 c1 c4 H_2 HB_2 HT_2
  generalize Wc2.drewN nq = W2 at *
  generalize s.extract a s.size = rest at *
  go_wp2_with fail
  refine (HWD.out _).mono ?_
  rintro e1 w' ⟨rfl, rfl⟩
  go_wp2_with fail
  refine (HTR.out _).mono ?_
  rintro e1 w2 ⟨rfl, hb2⟩
  replace HB2 : Hid (But B w w2) := HB2.out.trans (But.of hb2)
  replace HT2 := Lib.hid (HT2.out.later (hb2.block T HT2.out.lt))
  replace H2 := Lib.hid (H2.out.later hb2)
  clear hb2
  go_wp2_with fail
  refine (HCU.out _ H2.out).mono ?_
  rintro e1 W3 ⟨rfl, hs3, hb3⟩
  have H3 := Lib.hid hs3
  have HB3 : Hid (But B w W3) := HB2.out.trans hb3
  have HT3 : Hid (TkAt T (.int .i64 0) (.int .i64 0) (.string ⟨#[]⟩) (.string ⟨#[]⟩) (.string ⟨#[]⟩) (.int .i64 0) W3) := But.tok HT2.out hb3 HBT.out
  clear hs3 hb3
  obtain ⟨t0, t1, t2, t3, t4, t5⟩ := HT3.out.cells
  have z0 := HT3.out.frozen 0
  have z1 := HT3.out.frozen 1
  have z2 := HT3.out.frozen 2
  have z3 := HT3.out.frozen 3
  have z4 := HT3.out.frozen 4
  have z5 := HT3.out.frozen 5
  generalize s.extract a (a + n) = X at *
  unfold tokV at *
  go_wp2
  have HT4 := HT3.out.put (.int .i64 1) (.int .i64 0) (.string X) (.string ⟨#[]⟩) (.string ⟨#[]⟩) (.int .i64 0)
  obtain ⟨r0, r1, r2, r3, r4, r5⟩ := HT4.cells
  have hbe := tkW_below W3 T (.int .i64 1) (.int .i64 0) (.string X) (.string ⟨#[]⟩) (.string ⟨#[]⟩) (.int .i64 0)
  change bodyPost _ _ _ _ _ (tkW W3 T (.int .i64 1) (.int .i64 0) (.string X) (.string ⟨#[]⟩) (.string ⟨#[]⟩) (.int .i64 0))
  clear t0 t1 t2 t3 t4 t5 z0 z1 z2 z3 z4 z5
  refine bodyPost_ret (v := .agg #[.int .i64 1, .int .i64 0, .string X, .string ⟨#[]⟩, .string ⟨#[]⟩, .int .i64 0]) ?_ rfl (HP.out _ (H3.out.below HLT.out hbe) (HB3.out.more (by rw [HTT.out]; exact hbe)))
  generalize tkW W3 T (.int .i64 1) (.int .i64 0) (.string X) (.string ⟨#[]⟩) (.string ⟨#[]⟩) (.int .i64 0) = W4 at *
  simp [results, Tryz.results133, go_sem, r0, r1, r2, r3, r4, r5]

end Go.Proofs.YtaocbhfehncdcaaGreatDoor

namespace Go.Proofs.YtaocbhfehncdcaaGreatDoor
open Go.RowKit

theorem SigAt.but {w w' : World} {B : Nat} (h : SigAt w) (hb : But B w w') (hB : 0 ≠ B) : SigAt w' := h.block (hb.block _ h.lt hB)

set_option maxRecDepth 100000 in
set_option maxHeartbeats 4000000 in
theorem read_sign_t (W0 B : Nat) (σ : Sf) (ρ : Sr) (w : World) (h : IsSc W0 B σ ρ w) (hs : σ.s.size ≤ 100000) (ha : σ.a ≤ σ.s.size) (ht : σ.t = true)
    (hqn : ∀ w', IsSc W0 B σ ρ w' → Calls Tryz.prog 149 #[.pointer (some ⟨B, 0, none⟩)] w' (ScP W0 B noTok σ ρ w'))
    (hhn : ∀ w', IsSc W0 B σ ρ w' → Calls Tryz.prog 150 #[.pointer (some ⟨B, 0, none⟩)] w' (ScP W0 B noTok σ ρ w'))
    (hmn : ∀ w', IsSc W0 B σ ρ w' → Calls Tryz.prog 151 #[.pointer (some ⟨B, 0, none⟩)] w' (ScP W0 B noTok σ ρ w'))
    (hg : SigAt w) (hgB : 0 ≠ B) (g : List UInt8) (hn : wsz (σ.s.data.toList.drop σ.a) = 0) (hn1 : dgC (σ.s.data.toList.drop σ.a) = 0) (hsg : sgF (σ.s.data.toList.drop σ.a) = some g) :
    Calls Tryz.prog 133 #[.pointer (some ⟨B, 0, none⟩)] w (ScP W0 B (tokV 3 (σ.s.extract σ.a (σ.a + g.length))) { σ with a := σ.a + g.length } ρ w) := by
  have hl0 := h.ltSize
  have hBT := h.sc.lt
  have h1 := h.later ((Below.refl _ _).alloc (Nat.le_refl _) (.cells #[.int .i64 0, .int .i64 0, .string ⟨#[]⟩, .string ⟨#[]⟩, .string ⟨#[]⟩, .int .i64 0] 101))
  have hb1 : But B w (w.alloc (.cells #[.int .i64 0, .int .i64 0, .string ⟨#[]⟩, .string ⟨#[]⟩, .string ⟨#[]⟩, .int .i64 0] 101)) := But.of ((Below.refl _ _).alloc (Nat.le_refl _) _)
  have HT0 := Lib.hid (TkAt.fresh w)
  obtain ⟨s, a, b, e, t, tk, tm, op, M⟩ := σ
  dsimp only at hs ha hn ht hn1 hsg
  subst ht
  have hrs : (s.extract a s.size).size = s.size - a := by rw [Lib.size_eq, drop_list, List.length_drop, ← Lib.size_eq]
  have hq := dgC_drop (s.data.toList.drop a)
  rw [hn1, List.length_drop, ← Lib.size_eq] at hq
  have hgl : g.isPrefixOf (s.data.toList.drop a) = true := sgF_pre hsg
  have hnl : g.length ≤ s.size - a := by
    have := (List.isPrefixOf_iff_prefix.1 hgl).length_le
    rw [List.length_drop, ← Lib.size_eq] at this
    exact this
  have HTR : Hid (∀ w, Calls Tryz.prog 154 #[.string (s.extract a s.size), .string ⟨#[48, 49, 50, 51, 52, 53, 54, 55, 56, 57]⟩] w fun e w' => e = .returned (.string ⟨((s.data.toList.drop a).dropWhile dgB).toArray⟩) ∧ Below w.heap.size w w') := fun w => by
    have := trimDigits (s.extract a s.size) w
    rwa [drop_list] at this
  have hts : (⟨((s.data.toList.drop a).dropWhile dgB).toArray⟩ : ByteArray).size = ((s.data.toList.drop a).dropWhile dgB).length := by rw [Lib.size_eq]
  have hsub : ((s.extract a s.size).size : Int) - ((⟨((s.data.toList.drop a).dropWhile dgB).toArray⟩ : ByteArray).size : Int) = 0 := by rw [hrs, hts]; omega
  have hwr : IntKind.i64.wrap (0 : Int) = 0 := IntWalk.i64_in _ (by omega)
  have HPX : Hid (∀ p w, Calls Tryz.prog 58 #[.string (s.extract a s.size), .string (bs p)] w (BoS (p.isPrefixOf (s.data.toList.drop a)) w)) := fun p w => by
    refine (Tryz.strings_HasPrefix (s.extract a s.size) (bs p) w).mono ?_
    rintro e w' ⟨rfl, rfl⟩
    refine ⟨?_, rfl⟩
    rw [drop_list, bs_list]
    rfl
  clear hq hts hrs
  generalize (⟨((s.data.toList.drop a).dropWhile dgB).toArray⟩ : ByteArray) = tr at *
  have HG1 : Hid (SigAt (w.alloc (.cells #[.int .i64 0, .int .i64 0, .string ⟨#[]⟩, .string ⟨#[]⟩, .string ⟨#[]⟩, .int .i64 0] 101))) := hg.block (((Below.refl _ _).alloc (Nat.le_refl _) _).block _ hg.lt)
  have HGB := Lib.hid hgB
  have HST := Lib.hid (fun k (hk : k < 48) => sg_step (s.data.toList.drop a) k hk)
  have HSF : Hid (sgF (s.data.toList.drop a) = some g) := hsg
  have HIX := Lib.hid sig_index
  have HWD : Hid (∀ w, Calls Tryz.prog 152 #[.pointer (some ⟨B, 0, none⟩), .string (s.extract a s.size)] w (InS 0 w)) := fun w => by
    have h2 : (s.extract a s.size).size ≤ 100000 := by rw [Lib.size_eq, drop_list, List.length_drop, ← Lib.size_eq]; omega
    have := word_ok B (s.extract a s.size) w h2 (by rw [drop_list, hn]; omega)
    rwa [drop_list, hn] at this
  have HCU := Lib.hid (fun w' (h : IsSc W0 B ⟨s, a, b, e, true, tk, tm, op, M⟩ ρ w') => cut_any W0 B ⟨s, a, b, e, true, tk, tm, op, M⟩ ρ 3 g.length w' h hs (by dsimp only; omega) (by decide) (by decide))
  dsimp only at HCU
  have HQ : Hid (∀ w', IsSc W0 B ⟨s, a, b, e, true, tk, tm, op, M⟩ ρ w' → Calls Tryz.prog 149 #[.pointer (some ⟨B, 0, none⟩)] w' (ScP W0 B noTok ⟨s, a, b, e, true, tk, tm, op, M⟩ ρ w')) := hqn
  have HH : Hid (∀ w', IsSc W0 B ⟨s, a, b, e, true, tk, tm, op, M⟩ ρ w' → Calls Tryz.prog 150 #[.pointer (some ⟨B, 0, none⟩)] w' (ScP W0 B noTok ⟨s, a, b, e, true, tk, tm, op, M⟩ ρ w')) := hhn
  have HM : Hid (∀ w', IsSc W0 B ⟨s, a, b, e, true, tk, tm, op, M⟩ ρ w' → Calls Tryz.prog 151 #[.pointer (some ⟨B, 0, none⟩)] w' (ScP W0 B noTok ⟨s, a, b, e, true, tk, tm, op, M⟩ ρ w')) := hmn
  have HP : Hid (∀ w', IsSc W0 B ⟨s, a + g.length, b, e, true, tk, tm, op, M⟩ ρ w' → But B w w' → ScP W0 B (tokV 3 (s.extract a (a + g.length))) ⟨s, a + g.length, b, e, true, tk, tm, op, M⟩ ρ w (.returned (tokV 3 (s.extract a (a + g.length)))) w') := fun w' h1 h2 => ⟨rfl, h1, h2⟩
  have HLT : Hid (ScLt w.heap.size B ⟨s, a + g.length, b, e, true, tk, tm, op, M⟩) := ⟨hl0.b, hl0.tk, hl0.tm, hl0.op, hl0.m⟩
  obtain ⟨c0, c1, c2, c3, c4, c5, c6, c7, c8⟩ := h1.sc.fields
  dsimp only at c0 c1 c2 c3 c4 c5 c6 c7 c8
  have H1 := Lib.hid h1
  have HB1 := Lib.hid hb1
  have HBT := Lib.hid hBT
  have hai : (a : Int) ≤ (s.size : Int) := by omega
  clear c2 c3 c5 c6 c7 c8 h h1 hb1 hl0 hqn hhn hmn hn hBT hg hsg hgl
  go_enter Tryz.func133, Tryz.ntmps133
  go_wp2_with fail
  generalize w.alloc (.cells #[.int .i64 0, .int .i64 0, .string ⟨#[]⟩, .string ⟨#[]⟩, .string ⟨#[]⟩, .int .i64 0] 101) = W1 at *
  generalize hTT : w.heap.size = T at *
  have HTT := Lib.hid hTT
  clear hTT
  unfold noTok at HQ HH HM
  clear c0 c1 c4
  refine (HQ.out _ H1.out).mono ?_
  rintro e1 Wa ⟨rfl, hs2, hb2⟩
  have H_0 : Hid (IsSc W0 B ⟨s, a, b, e, true, tk, tm, op, M⟩ ρ (Wa.alloc (.cells #[.int .i64 0, .int .i64 0, .string ⟨#[]⟩, .string ⟨#[]⟩, .string ⟨#[]⟩, .int .i64 0] 101))) := hs2.later ((Below.refl _ _).alloc (Nat.le_refl _) _)
  have HB_0 : Hid (But B w (Wa.alloc (.cells #[.int .i64 0, .int .i64 0, .string ⟨#[]⟩, .string ⟨#[]⟩, .string ⟨#[]⟩, .int .i64 0] 101))) := (HB1.out.trans hb2).trans (But.of ((Below.refl _ _).alloc (Nat.le_refl _) _))
  have HT_0 : Hid (TkAt T (.int .i64 0) (.int .i64 0) (.string ⟨#[]⟩) (.string ⟨#[]⟩) (.string ⟨#[]⟩) (.int .i64 0) (Wa.alloc (.cells #[.int .i64 0, .int .i64 0, .string ⟨#[]⟩, .string ⟨#[]⟩, .string ⟨#[]⟩, .int .i64 0] 101))) := (But.tok HT0.out hb2 HBT.out).later (((Below.refl _ _).alloc (Nat.le_refl _) _).block T (But.tok HT0.out hb2 HBT.out).lt)
  have HG_0 : Hid (SigAt (Wa.alloc (.cells #[.int .i64 0, .int .i64 0, .string ⟨#[]⟩, .string ⟨#[]⟩, .string ⟨#[]⟩, .int .i64 0] 101))) := (HG1.out.but hb2 HGB.out).block (((Below.refl _ _).alloc (Nat.le_refl _) _).block _ (HG1.out.but hb2 HGB.out).lt)
  clear hs2 hb2 H1 HB1 HT0
  unfold tokV
  go_wp2_with fail
  generalize Wa.alloc (.cells #[.int .i64 0, .int .i64 0, .string ⟨#[]⟩, .string ⟨#[]⟩, .string ⟨#[]⟩, .int .i64 0] 101) = Wa2 at *
  refine (HH.out _ H_0.out).mono ?_
  rintro e1 Wb ⟨rfl, hs2, hb2⟩
  have H_1 : Hid (IsSc W0 B ⟨s, a, b, e, true, tk, tm, op, M⟩ ρ (Wb.alloc (.cells #[.int .i64 0, .int .i64 0, .string ⟨#[]⟩, .string ⟨#[]⟩, .string ⟨#[]⟩, .int .i64 0] 101))) := hs2.later ((Below.refl _ _).alloc (Nat.le_refl _) _)
  have HB_1 : Hid (But B w (Wb.alloc (.cells #[.int .i64 0, .int .i64 0, .string ⟨#[]⟩, .string ⟨#[]⟩, .string ⟨#[]⟩, .int .i64 0] 101))) := (HB_0.out.trans hb2).trans (But.of ((Below.refl _ _).alloc (Nat.le_refl _) _))
  have HT_1 : Hid (TkAt T (.int .i64 0) (.int .i64 0) (.string ⟨#[]⟩) (.string ⟨#[]⟩) (.string ⟨#[]⟩) (.int .i64 0) (Wb.alloc (.cells #[.int .i64 0, .int .i64 0, .string ⟨#[]⟩, .string ⟨#[]⟩, .string ⟨#[]⟩, .int .i64 0] 101))) := (But.tok HT_0.out hb2 HBT.out).later (((Below.refl _ _).alloc (Nat.le_refl _) _).block T (But.tok HT_0.out hb2 HBT.out).lt)
  have HG_1 : Hid (SigAt (Wb.alloc (.cells #[.int .i64 0, .int .i64 0, .string ⟨#[]⟩, .string ⟨#[]⟩, .string ⟨#[]⟩, .int .i64 0] 101))) := (HG_0.out.but hb2 HGB.out).block (((Below.refl _ _).alloc (Nat.le_refl _) _).block _ (HG_0.out.but hb2 HGB.out).lt)
  clear hs2 hb2 H_0 HB_0 HT_0
  unfold tokV
  go_wp2_with fail
  generalize Wb.alloc (.cells #[.int .i64 0, .int .i64 0, .string ⟨#[]⟩, .string ⟨#[]⟩, .string ⟨#[]⟩, .int .i64 0] 101) = Wb2 at *
  refine (HM.out _ H_1.out).mono ?_
  rintro e1 Wc ⟨rfl, hs2, hb2⟩
  have H_2 : Hid (IsSc W0 B ⟨s, a, b, e, true, tk, tm, op, M⟩ ρ (Wc.alloc (.cells #[.int .i64 0, .int .i64 0, .string ⟨#[]⟩, .string ⟨#[]⟩, .string ⟨#[]⟩, .int .i64 0] 101))) := hs2.later ((Below.refl _ _).alloc (Nat.le_refl _) _)
  have HB_2 : Hid (But B w (Wc.alloc (.cells #[.int .i64 0, .int .i64 0, .string ⟨#[]⟩, .string ⟨#[]⟩, .string ⟨#[]⟩, .int .i64 0] 101))) := (HB_1.out.trans hb2).trans (But.of ((Below.refl _ _).alloc (Nat.le_refl _) _))
  have HT_2 : Hid (TkAt T (.int .i64 0) (.int .i64 0) (.string ⟨#[]⟩) (.string ⟨#[]⟩) (.string ⟨#[]⟩) (.int .i64 0) (Wc.alloc (.cells #[.int .i64 0, .int .i64 0, .string ⟨#[]⟩, .string ⟨#[]⟩, .string ⟨#[]⟩, .int .i64 0] 101))) := (But.tok HT_1.out hb2 HBT.out).later (((Below.refl _ _).alloc (Nat.le_refl _) _).block T (But.tok HT_1.out hb2 HBT.out).lt)
  have HG_2 : Hid (SigAt (Wc.alloc (.cells #[.int .i64 0, .int .i64 0, .string ⟨#[]⟩, .string ⟨#[]⟩, .string ⟨#[]⟩, .int .i64 0] 101))) := (HG_1.out.but hb2 HGB.out).block (((Below.refl _ _).alloc (Nat.le_refl _) _).block _ (HG_1.out.but hb2 HGB.out).lt)
  clear hs2 hb2 H_1 HB_1 HT_1
  unfold tokV
  go_wp2_with fail
  generalize Wc.alloc (.cells #[.int .i64 0, .int .i64 0, .string ⟨#[]⟩, .string ⟨#[]⟩, .string ⟨#[]⟩, .int .i64 0] 101) = Wc2 at *
  obtain ⟨c0, c1, c2, c3, c4, c5, c6, c7, c8⟩ := H_2.out.sc.fields
  dsimp only at c0 c1 c2 c3 c4 c5 c6 c7 c8
  clear c2 c3 c5 c6 c7 c8
  go_quiet (fail)
  have H2 : Hid (IsSc W0 B ⟨s, a, b, e, true, tk, tm, op, M⟩ ρ (Wc2.drewN nq)) := H_2.out.drew _
  have HB2 : Hid (But B w (Wc2.drewN nq)) := HB_2.out.drewN _
  have HT2 : Hid (TkAt T (.int .i64 0) (.int .i64 0) (.string ⟨#[]⟩) (.string ⟨#[]⟩) (.string ⟨#[]⟩) (.int .i64 0) (Wc2.drewN nq)) := HT_2.out.later rfl
  clear c0 c1 c4 H_2 HB_2 HT_2
  have HG2 : Hid (SigAt (Wc2.drewN nq)) := HG_2.out
  clear HG_2
  generalize Wc2.drewN nq = W2 at *
  generalize s.extract a s.size = rest at *
  generalize s.data.toList.drop a = R at *
  go_wp2_with fail
  refine (HWD.out _).mono ?_
  rintro e1 w' ⟨rfl, rfl⟩
  go_wp2_with fail
  refine (HTR.out _).mono ?_
  rintro e1 w2 ⟨rfl, hb2⟩
  replace HB2 : Hid (But B w w2) := HB2.out.trans (But.of hb2)
  replace HT2 := Lib.hid (HT2.out.later (hb2.block T HT2.out.lt))
  replace H2 := Lib.hid (H2.out.later hb2)
  have HG3 : Hid (SigAt w2) := HG2.out.block (hb2.block _ HG2.out.lt)
  clear hb2 HG2
  have HLO := Lib.hid (sig_load HG3.out)
  go_upto_region 18 with (fail)
  refine wp_region_lit ?_
  refine load_run2 rfl _ _ rfl (.agg sgC) HLO.out ?_
  go_wp2_with fail
  go_loop [68] (fun n => ∃ k : Nat, k ≤ 48 ∧ n = .int .i64 k ∧ Hid (sgF R = (sgAll.drop k).find? fun g => g.isPrefixOf R)) (fun n => 48 - (intOf n).toNat)
  case atStart => exact ⟨0, by omega, rfl, rfl⟩
  case round =>
    obtain ⟨k, hk, rfl, hw⟩ := hrel
    by_cases hlt : k < 48
    · have hix := HIX.out k hlt w2
      have hst := HST.out k hlt
      cases hpx : (sgAll.getD k []).isPrefixOf R
      · have hN : Hid (sgF R = (sgAll.drop (k + 1)).find? fun g => g.isPrefixOf R) := by
          show _ = _
          rw [hw.out, hst, hpx]
          rfl
        clear hst
        generalize sgAll.getD k [] = p at *
        have hp := HPX.out p
        rw [hpx] at hp
        have HPP := Lib.hid hp
        clear hp hpx
        go_wp2_with (go_at_call 58; refine (HPP.out _).mono ?_; rintro e w' ⟨rfl, rfl⟩)
        go_round
        case rel => exact ⟨k + 1, by omega, by go_num, hN⟩
        case measure => simp [intOf]; omega
      · have hgk : sgAll.getD k [] = g := by
          have := hw.out
          rw [hst, hpx, if_pos rfl, HSF.out] at this
          exact (Option.some.inj this).symm
        rw [hgk] at hix hpx
        clear hst hgk
        have hp := HPX.out g
        rw [hpx] at hp
        have HPP := Lib.hid hp
        clear hp hpx
        have hgs := bs_size g
        go_wp2_with (go_at_call 58; refine (HPP.out _).mono ?_; rintro e w' ⟨rfl, rfl⟩)
        refine (HCU.out _ H2.out).mono ?_
        rintro e1 W3 ⟨rfl, hs3, hb3⟩
        have H3 := Lib.hid hs3
        have HB3 : Hid (But B w W3) := HB2.out.trans hb3
        have HT3 : Hid (TkAt T (.int .i64 0) (.int .i64 0) (.string ⟨#[]⟩) (.string ⟨#[]⟩) (.string ⟨#[]⟩) (.int .i64 0) W3) := But.tok HT2.out hb3 HBT.out
        clear hs3 hb3
        obtain ⟨t0, t1, t2, t3, t4, t5⟩ := HT3.out.cells
        have z0 := HT3.out.frozen 0
        have z1 := HT3.out.frozen 1
        have z2 := HT3.out.frozen 2
        have z3 := HT3.out.frozen 3
        have z4 := HT3.out.frozen 4
        have z5 := HT3.out.frozen 5
        unfold tokV at *
        go_wp2
        have HT4 := HT3.out.put (.int .i64 3) (.int .i64 0) (.string (s.extract a (a + g.length))) (.string ⟨#[]⟩) (.string ⟨#[]⟩) (.int .i64 0)
        obtain ⟨r0, r1, r2, r3, r4, r5⟩ := HT4.cells
        have hbe := tkW_below W3 T (.int .i64 3) (.int .i64 0) (.string (s.extract a (a + g.length))) (.string ⟨#[]⟩) (.string ⟨#[]⟩) (.int .i64 0)
        change bodyPost _ _ _ _ _ (tkW W3 T (.int .i64 3) (.int .i64 0) (.string (s.extract a (a + g.length))) (.string ⟨#[]⟩) (.string ⟨#[]⟩) (.int .i64 0))
        clear t0 t1 t2 t3 t4 t5 z0 z1 z2 z3 z4 z5
        refine bodyPost_ret (v := .agg #[.int .i64 3, .int .i64 0, .string (s.extract a (a + g.length)), .string ⟨#[]⟩, .string ⟨#[]⟩, .int .i64 0]) ?_ rfl (HP.out _ (H3.out.below HLT.out hbe) (HB3.out.more (by rw [HTT.out]; exact hbe)))
        generalize tkW W3 T (.int .i64 3) (.int .i64 0) (.string (s.extract a (a + g.length))) (.string ⟨#[]⟩) (.string ⟨#[]⟩) (.int .i64 0) = W4 at *
        simp [results, Tryz.results133, go_sem, r0, r1, r2, r3, r4, r5]
    · exfalso
      have : k = 48 := by omega
      subst this
      have := hw.out
      rw [HSF.out] at this
      cases this

end Go.Proofs.YtaocbhfehncdcaaGreatDoor
