/-
  A scanner's read where a term is expected and none begins with a sign of its own: a sign. Conditions: a text of at most 100000 bytes; the row of signs as it is laid. What the law knows: the tokens of two texts. Conditions: the row of signs holds what the program's text lays.
-/
import Derived.Test.YtaocbhfehncdcaaGreatDoorXM13
import Derived.Deep.WholeRow
import Derived.Deep.Cut
import Derived.Test.YtaocbhfehncdcaaGreatDoorXM10
import Derived.Test.YtaocbhfehncdcaaGreatDoorXM11
import Derived.Test.YtaocbhfehncdcaaGreatDoorXM12
namespace Go.Proofs.YtaocbhfehncdcaaGreatDoor
open Go.RowKit

theorem SigAt.but {w w' : World} {B : Nat} (h : SigAt w) (hb : But B w w') (hB : 0 ≠ B) : SigAt w' := h.block (hb.block _ h.lt hB)

set_option maxRecDepth 100000 in
set_option maxHeartbeats 4000000 in
theorem read_sign_t (W0 B : Nat) (σ : Sf) (ρ : Sr) (w : World) (h : IsSc W0 B σ ρ w) (hs : σ.s.size ≤ 100000) (ha : σ.a ≤ σ.s.size) (ht : σ.t = true)
    (hqn : ∀ w', IsSc W0 B σ ρ w' → Calls Tryz.prog 149 #[.pointer (some ⟨B, 0, none⟩)] w' (ScP W0 B noTok σ ρ w'))
    (hhn : ∀ w', IsSc W0 B σ ρ w' → Calls Tryz.prog 150 #[.pointer (some ⟨B, 0, none⟩)] w' (ScP W0 B noTok σ ρ w'))
    (hmn : ∀ w', IsSc W0 B σ ρ w' → Calls Tryz.prog 151 #[.pointer (some ⟨B, 0, none⟩)] w' (ScP W0 B noTok σ ρ w'))
    (hg : SigAt w) (hgB : 0 ≠ B) (g : List UInt8) (hn : wsz (σ.s.data.toList.drop σ.a) = 0) (hn1 : dgC (σ.s.data.toList.drop σ.a) = 0) (hsg : sgF (σ.s.data.toList.drop σ.a) = some g) :
    Calls Tryz.prog 133 #[.pointer (some ⟨B, 0, none⟩)] w (ScP W0 B (tokV 3 (σ.s.extract σ.a (σ.a + g.length))) { σ with a := σ.a + g.length } ρ w) := by
  have hl0 := h.ltSize
  have hBT := h.sc.lt
  have h1 := h.later ((Below.refl _ _).alloc (Nat.le_refl _) (.cells #[.int .i64 0, .int .i64 0, .string ⟨#[]⟩, .string ⟨#[]⟩, .string ⟨#[]⟩, .int .i64 0] 101))
  have hb1 : But B w (w.alloc (.cells #[.int .i64 0, .int .i64 0, .string ⟨#[]⟩, .string ⟨#[]⟩, .string ⟨#[]⟩, .int .i64 0] 101)) := But.of ((Below.refl _ _).alloc (Nat.le_refl _) _)
  have HT0 := Lib.hid (TkAt.fresh w)
  obtain ⟨s, a, b, e, t, tk, tm, op, M⟩ := σ
  dsimp only at hs ha hn ht hn1 hsg
  subst ht
  have hrs : (s.extract a s.size).size = s.size - a := by rw [Lib.size_eq, drop_list, List.length_drop, ← Lib.size_eq]
  have hq := dgC_drop (s.data.toList.drop a)
  rw [hn1, List.length_drop, ← Lib.size_eq] at hq
  have hgl : g.isPrefixOf (s.data.toList.drop a) = true := sgF_pre hsg
  have hnl : g.length ≤ s.size - a := by
    have := (List.isPrefixOf_iff_prefix.1 hgl).length_le
    rw [List.length_drop, ← Lib.size_eq] at this
    exact this
  have HTR : Hid (∀ w, Calls Tryz.prog 154 #[.string (s.extract a s.size), .string ⟨#[48, 49, 50, 51, 52, 53, 54, 55, 56, 57]⟩] w fun e w' => e = .returned (.string ⟨((s.data.toList.drop a).dropWhile dgB).toArray⟩) ∧ Below w.heap.size w w') := fun w => by
    have := trimDigits (s.extract a s.size) w
    rwa [drop_list] at this
  have hts : (⟨((s.data.toList.drop a).dropWhile dgB).toArray⟩ : ByteArray).size = ((s.data.toList.drop a).dropWhile dgB).length := by rw [Lib.size_eq]
  have hsub : ((s.extract a s.size).size : Int) - ((⟨((s.data.toList.drop a).dropWhile dgB).toArray⟩ : ByteArray).size : Int) = 0 := by rw [hrs, hts]; omega
  have hwr : IntKind.i64.wrap (0 : Int) = 0 := IntWalk.i64_in _ (by omega)
  have HPX : Hid (∀ p w, Calls Tryz.prog 58 #[.string (s.extract a s.size), .string (bs p)] w (BoS (p.isPrefixOf (s.data.toList.drop a)) w)) := fun p w => by
    refine (Tryz.strings_HasPrefix (s.extract a s.size) (bs p) w).mono ?_
    rintro e w' ⟨rfl, rfl⟩
    refine ⟨?_, rfl⟩
    rw [drop_list, bs_list]
    rfl
  clear hq hts hrs
  generalize (⟨((s.data.toList.drop a).dropWhile dgB).toArray⟩ : ByteArray) = tr at *
  have HG1 : Hid (SigAt (w.alloc (.cells #[.int .i64 0, .int .i64 0, .string ⟨#[]⟩, .string ⟨#[]⟩, .string ⟨#[]⟩, .int .i64 0] 101))) := hg.block (((Below.refl _ _).alloc (Nat.le_refl _) _).block _ hg.lt)
  have HGB := Lib.hid hgB
  have HST := Lib.hid (fun k (hk : k < 48) => sg_step (s.data.toList.drop a) k hk)
  have HSF : Hid (sgF (s.data.toList.drop a) = some g) := hsg
  have HIX := Lib.hid sig_index
  have HWD : Hid (∀ w, Calls Tryz.prog 152 #[.pointer (some ⟨B, 0, none⟩), .string (s.extract a s.size)] w (InS 0 w)) := fun w => by
    have h2 : (s.extract a s.size).size ≤ 100000 := by rw [Lib.size_eq, drop_list, List.length_drop, ← Lib.size_eq]; omega
    have := word_ok B (s.extract a s.size) w h2 (by rw [drop_list, hn]; omega)
    rwa [drop_list, hn] at this
  have HCU := Lib.hid (fun w' (h : IsSc W0 B ⟨s, a, b, e, true, tk, tm, op, M⟩ ρ w') => cut_any W0 B ⟨s, a, b, e, true, tk, tm, op, M⟩ ρ 3 g.length w' h hs (by dsimp only; omega) (by decide) (by decide))
  dsimp only at HCU
  have HQ : Hid (∀ w', IsSc W0 B ⟨s, a, b, e, true, tk, tm, op, M⟩ ρ w' → Calls Tryz.prog 149 #[.pointer (some ⟨B, 0, none⟩)] w' (ScP W0 B noTok ⟨s, a, b, e, true, tk, tm, op, M⟩ ρ w')) := hqn
  have HH : Hid (∀ w', IsSc W0 B ⟨s, a, b, e, true, tk, tm, op, M⟩ ρ w' → Calls Tryz.prog 150 #[.pointer (some ⟨B, 0, none⟩)] w' (ScP W0 B noTok ⟨s, a, b, e, true, tk, tm, op, M⟩ ρ w')) := hhn
  have HM : Hid (∀ w', IsSc W0 B ⟨s, a, b, e, true, tk, tm, op, M⟩ ρ w' → Calls Tryz.prog 151 #[.pointer (some ⟨B, 0, none⟩)] w' (ScP W0 B noTok ⟨s, a, b, e, true, tk, tm, op, M⟩ ρ w')) := hmn
  have HP : Hid (∀ w', IsSc W0 B ⟨s, a + g.length, b, e, true, tk, tm, op, M⟩ ρ w' → But B w w' → ScP W0 B (tokV 3 (s.extract a (a + g.length))) ⟨s, a + g.length, b, e, true, tk, tm, op, M⟩ ρ w (.returned (tokV 3 (s.extract a (a + g.length)))) w') := fun w' h1 h2 => ⟨rfl, h1, h2⟩
  have HLT : Hid (ScLt w.heap.size B ⟨s, a + g.length, b, e, true, tk, tm, op, M⟩) := ⟨hl0.b, hl0.tk, hl0.tm, hl0.op, hl0.m⟩
  obtain ⟨c0, c1, c2, c3, c4, c5, c6, c7, c8⟩ := h1.sc.fields
  dsimp only at c0 c1 c2 c3 c4 c5 c6 c7 c8
  have H1 := Lib.hid h1
  have HB1 := Lib.hid hb1
  have HBT := Lib.hid hBT
  have hai : (a : Int) ≤ (s.size : Int) := by omega
  clear c2 c3 c5 c6 c7 c8 h h1 hb1 hl0 hqn hhn hmn hn hBT hg hsg hgl
  go_enter Tryz.func133, Tryz.ntmps133
  go_wp2_with fail
  generalize w.alloc (.cells #[.int .i64 0, .int .i64 0, .string ⟨#[]⟩, .string ⟨#[]⟩, .string ⟨#[]⟩, .int .i64 0] 101) = W1 at *
  generalize hTT : w.heap.size = T at *
  have HTT := Lib.hid hTT
  clear hTT
  unfold noTok at HQ HH HM
  clear c0 c1 c4
  refine (HQ.out _ H1.out).mono ?_
  rintro e1 Wa ⟨rfl, hs2, hb2⟩
  have H_0 : Hid (IsSc W0 B ⟨s, a, b, e, true, tk, tm, op, M⟩ ρ (Wa.alloc (.cells #[.int .i64 0, .int .i64 0, .string ⟨#[]⟩, .string ⟨#[]⟩, .string ⟨#[]⟩, .int .i64 0] 101))) := hs2.later ((Below.refl _ _).alloc (Nat.le_refl _) _)
  have HB_0 : Hid (But B w (Wa.alloc (.cells #[.int .i64 0, .int .i64 0, .string ⟨#[]⟩, .string ⟨#[]⟩, .string ⟨#[]⟩, .int .i64 0] 101))) := (HB1.out.trans hb2).trans (But.of ((Below.refl _ _).alloc (Nat.le_refl _) _))
  have HT_0 : Hid (TkAt T (.int .i64 0) (.int .i64 0) (.string ⟨#[]⟩) (.string ⟨#[]⟩) (.string ⟨#[]⟩) (.int .i64 0) (Wa.alloc (.cells #[.int .i64 0, .int .i64 0, .string ⟨#[]⟩, .string ⟨#[]⟩, .string ⟨#[]⟩, .int .i64 0] 101))) := (But.tok HT0.out hb2 HBT.out).later (((Below.refl _ _).alloc (Nat.le_refl _) _).block T (But.tok HT0.out hb2 HBT.out).lt)
  have HG_0 : Hid (SigAt (Wa.alloc (.cells #[.int .i64 0, .int .i64 0, .string ⟨#[]⟩, .string ⟨#[]⟩, .string ⟨#[]⟩, .int .i64 0] 101))) := (HG1.out.but hb2 HGB.out).block (((Below.refl _ _).alloc (Nat.le_refl _) _).block _ (HG1.out.but hb2 HGB.out).lt)
  clear hs2 hb2 H1 HB1 HT0
  unfold tokV
  go_wp2_with fail
  generalize Wa.alloc (.cells #[.int .i64 0, .int .i64 0, .string ⟨#[]⟩, .string ⟨#[]⟩, .string ⟨#[]⟩, .int .i64 0] 101) = Wa2 at *
  refine (HH.out _ H_0.out).mono ?_
  rintro e1 Wb ⟨rfl, hs2, hb2⟩
  have H_1 : Hid (IsSc W0 B ⟨s, a, b, e, true, tk, tm, op, M⟩ ρ (Wb.alloc (.cells #[.int .i64 0, .int .i64 0, .string ⟨#[]⟩, .string ⟨#[]⟩, .string ⟨#[]⟩, .int .i64 0] 101))) := hs2.later ((Below.refl _ _).alloc (Nat.le_refl _) _)
  have HB_1 : Hid (But B w (Wb.alloc (.cells #[.int .i64 0, .int .i64 0, .string ⟨#[]⟩, .string ⟨#[]⟩, .string ⟨#[]⟩, .int .i64 0] 101))) := (HB_0.out.trans hb2).trans (But.of ((Below.refl _ _).alloc (Nat.le_refl _) _))
  have HT_1 : Hid (TkAt T (.int .i64 0) (.int .i64 0) (.string ⟨#[]⟩) (.string ⟨#[]⟩) (.string ⟨#[]⟩) (.int .i64 0) (Wb.alloc (.cells #[.int .i64 0, .int .i64 0, .string ⟨#[]⟩, .string ⟨#[]⟩, .string ⟨#[]⟩, .int .i64 0] 101))) := (But.tok HT_0.out hb2 HBT.out).later (((Below.refl _ _).alloc (Nat.le_refl _) _).block T (But.tok HT_0.out hb2 HBT.out).lt)
  have HG_1 : Hid (SigAt (Wb.alloc (.cells #[.int .i64 0, .int .i64 0, .string ⟨#[]⟩, .string ⟨#[]⟩, .string ⟨#[]⟩, .int .i64 0] 101))) := (HG_0.out.but hb2 HGB.out).block (((Below.refl _ _).alloc (Nat.le_refl _) _).block _ (HG_0.out.but hb2 HGB.out).lt)
  clear hs2 hb2 H_0 HB_0 HT_0
  unfold tokV
  go_wp2_with fail
  generalize Wb.alloc (.cells #[.int .i64 0, .int .i64 0, .string ⟨#[]⟩, .string ⟨#[]⟩, .string ⟨#[]⟩, .int .i64 0] 101) = Wb2 at *
  refine (HM.out _ H_1.out).mono ?_
  rintro e1 Wc ⟨rfl, hs2, hb2⟩
  have H_2 : Hid (IsSc W0 B ⟨s, a, b, e, true, tk, tm, op, M⟩ ρ (Wc.alloc (.cells #[.int .i64 0, .int .i64 0, .string ⟨#[]⟩, .string ⟨#[]⟩, .string ⟨#[]⟩, .int .i64 0] 101))) := hs2.later ((Below.refl _ _).alloc (Nat.le_refl _) _)
  have HB_2 : Hid (But B w (Wc.alloc (.cells #[.int .i64 0, .int .i64 0, .string ⟨#[]⟩, .string ⟨#[]⟩, .string ⟨#[]⟩, .int .i64 0] 101))) := (HB_1.out.trans hb2).trans (But.of ((Below.refl _ _).alloc (Nat.le_refl _) _))
  have HT_2 : Hid (TkAt T (.int .i64 0) (.int .i64 0) (.string ⟨#[]⟩) (.string ⟨#[]⟩) (.string ⟨#[]⟩) (.int .i64 0) (Wc.alloc (.cells #[.int .i64 0, .int .i64 0, .string ⟨#[]⟩, .string ⟨#[]⟩, .string ⟨#[]⟩, .int .i64 0] 101))) := (But.tok HT_1.out hb2 HBT.out).later (((Below.refl _ _).alloc (Nat.le_refl _) _).block T (But.tok HT_1.out hb2 HBT.out).lt)
  have HG_2 : Hid (SigAt (Wc.alloc (.cells #[.int .i64 0, .int .i64 0, .string ⟨#[]⟩, .string ⟨#[]⟩, .string ⟨#[]⟩, .int .i64 0] 101))) := (HG_1.out.but hb2 HGB.out).block (((Below.refl _ _).alloc (Nat.le_refl _) _).block _ (HG_1.out.but hb2 HGB.out).lt)
  clear hs2 hb2 H_1 HB_1 HT_1
  unfold tokV
  go_wp2_with fail
  generalize Wc.alloc (.cells #[.int .i64 0, .int .i64 0, .string ⟨#[]⟩, .string ⟨#[]⟩, .string ⟨#[]⟩, .int .i64 0] 101) = Wc2 at *
  obtain ⟨c0, c1, c2, c3, c4, c5, c6, c7, c8⟩ := H_2.out.sc.fields
  dsimp only at c0 c1 c2 c3 c4 c5 c6 c7 c8
  clear c2 c3 c5 c6 c7 c8
  go_quiet (fail)
  have H2 : Hid (IsSc W0 B ⟨s, a, b, e, true, tk, tm, op, M⟩ ρ (Wc2.drewN nq)) := H_2.out.drew _
  have HB2 : Hid (But B w (Wc2.drewN nq)) := HB_2.out.drewN _
  have HT2 : Hid (TkAt T (.int .i64 0) (.int .i64 0) (.string ⟨#[]⟩) (.string ⟨#[]⟩) (.string ⟨#[]⟩) (.int .i64 0) (Wc2.drewN nq)) := HT_2.out.later rfl
  clear c0 c1 c4 H_2 HB_2 HT_2
  have HG2 : Hid (SigAt (Wc2.drewN nq)) := HG_2.out
  clear HG_2
  generalize Wc2.drewN nq = W2 at *
  generalize s.extract a s.size = rest at *
  generalize s.data.toList.drop a = R at *
  go_wp2_with fail
  refine (HWD.out _).mono ?_
  rintro e1 w' ⟨rfl, rfl⟩
  go_wp2_with fail
  refine (HTR.out _).mono ?_
  rintro e1 w2 ⟨rfl, hb2⟩
  replace HB2 : Hid (But B w w2) := HB2.out.trans (But.of hb2)
  replace HT2 := Lib.hid (HT2.out.later (hb2.block T HT2.out.lt))
  replace H2 := Lib.hid (H2.out.later hb2)
  have HG3 : Hid (SigAt w2) := HG2.out.block (hb2.block _ HG2.out.lt)
  clear hb2 HG2
  have HLO := Lib.hid (sig_load HG3.out)
  go_upto_region 18 with (fail)
  refine wp_region_lit ?_
  refine load_run2 rfl _ _ rfl (.agg sgC) HLO.out ?_
  go_wp2_with fail
  go_loop [68] (fun n => ∃ k : Nat, k ≤ 48 ∧ n = .int .i64 k ∧ Hid (sgF R = (sgAll.drop k).find? fun g => g.isPrefixOf R)) (fun n => 48 - (intOf n).toNat)
  case atStart => exact ⟨0, by omega, rfl, rfl⟩
  case round =>
    obtain ⟨k, hk, rfl, hw⟩ := hrel
    by_cases hlt : k < 48
    · have hix := HIX.out k hlt w2
      have hst := HST.out k hlt
      cases hpx : (sgAll.getD k []).isPrefixOf R
      · have hN : Hid (sgF R = (sgAll.drop (k + 1)).find? fun g => g.isPrefixOf R) := by
          show _ = _
          rw [hw.out, hst, hpx]
          rfl
        clear hst
        generalize sgAll.getD k [] = p at *
        have hp := HPX.out p
        rw [hpx] at hp
        have HPP := Lib.hid hp
        clear hp hpx
        go_wp2_with (go_at_call 58; refine (HPP.out _).mono ?_; rintro e w' ⟨rfl, rfl⟩)
        go_round
        case rel => exact ⟨k + 1, by omega, by go_num, hN⟩
        case measure => simp [intOf]; omega
      · have hgk : sgAll.getD k [] = g := by
          have := hw.out
          rw [hst, hpx, if_pos rfl, HSF.out] at this
          exact (Option.some.inj this).symm
        rw [hgk] at hix hpx
        clear hst hgk
        have hp := HPX.out g
        rw [hpx] at hp
        have HPP := Lib.hid hp
        clear hp hpx
        have hgs := bs_size g
        go_wp2_with (go_at_call 58; refine (HPP.out _).mono ?_; rintro e w' ⟨rfl, rfl⟩)
        refine (HCU.out _ H2.out).mono ?_
        rintro e1 W3 ⟨rfl, hs3, hb3⟩
        have H3 := Lib.hid hs3
        have HB3 : Hid (But B w W3) := HB2.out.trans hb3
        have HT3 : Hid (TkAt T (.int .i64 0) (.int .i64 0) (.string ⟨#[]⟩) (.string ⟨#[]⟩) (.string ⟨#[]⟩) (.int .i64 0) W3) := But.tok HT2.out hb3 HBT.out
        clear hs3 hb3
        obtain ⟨t0, t1, t2, t3, t4, t5⟩ := HT3.out.cells
        have z0 := HT3.out.frozen 0
        have z1 := HT3.out.frozen 1
        have z2 := HT3.out.frozen 2
        have z3 := HT3.out.frozen 3
        have z4 := HT3.out.frozen 4
        have z5 := HT3.out.frozen 5
        unfold tokV at *
        go_wp2
        have HT4 := HT3.out.put (.int .i64 3) (.int .i64 0) (.string (s.extract a (a + g.length))) (.string ⟨#[]⟩) (.string ⟨#[]⟩) (.int .i64 0)
        obtain ⟨r0, r1, r2, r3, r4, r5⟩ := HT4.cells
        have hbe := tkW_below W3 T (.int .i64 3) (.int .i64 0) (.string (s.extract a (a + g.length))) (.string ⟨#[]⟩) (.string ⟨#[]⟩) (.int .i64 0)
        change bodyPost _ _ _ _ _ (tkW W3 T (.int .i64 3) (.int .i64 0) (.string (s.extract a (a + g.length))) (.string ⟨#[]⟩) (.string ⟨#[]⟩) (.int .i64 0))
        clear t0 t1 t2 t3 t4 t5 z0 z1 z2 z3 z4 z5
        refine bodyPost_ret (v := .agg #[.int .i64 3, .int .i64 0, .string (s.extract a (a + g.length)), .string ⟨#[]⟩, .string ⟨#[]⟩, .int .i64 0]) ?_ rfl (HP.out _ (H3.out.below HLT.out hbe) (HB3.out.more (by rw [HTT.out]; exact hbe)))
        generalize tkW W3 T (.int .i64 3) (.int .i64 0) (.string (s.extract a (a + g.length))) (.string ⟨#[]⟩) (.string ⟨#[]⟩) (.int .i64 0) = W4 at *
        simp [results, Tryz.results133, go_sem, r0, r1, r2, r3, r4, r5]
    · exfalso
      have : k = 48 := by omega
      subst this
      have := hw.out
      rw [HSF.out] at this
      cases this

end Go.Proofs.YtaocbhfehncdcaaGreatDoor

namespace Go.Proofs.YtaocbhfehncdcaaGreatDoor
open Go.RowKit

def tokC (k a : Int) (x : List UInt8) : List Value := [.int .i64 k, .int .i64 a, .string (bs x), .string ⟨#[]⟩, .string ⟨#[]⟩, .int .i64 0]
def tokA (k : Int) (x : List UInt8) : Value := .agg #[.int .i64 k, .int .i64 0, .string (bs x), .string ⟨#[]⟩, .string ⟨#[]⟩, .int .i64 0]
/-- The text `$x / 2`. -/
def plan1 : Plan where
  s := ⟨#[36, 120, 32, 47, 32, 50]⟩
  k := 3
  A := fun | 0 => 0 | 1 => 3 | 2 => 5 | _ => 6
  Z := fun | 0 => 2 | 1 => 4 | _ => 6
  T := fun | 0 => true | 1 => false | 2 => true | _ => false
  R := fun
    | 0 => ⟨[], 0, [], [], []⟩
    | 1 => ⟨[] ++ tokC 2 0 [36, 120], 0 + 1, [] ++ [true], [], []⟩
    | 2 => ⟨([] ++ tokC 2 0 [36, 120]) ++ tokC 3 3 [47], 0 + 1 + 1, ([] ++ [true]) ++ [false], [], []⟩
    | _ => ⟨(([] ++ tokC 2 0 [36, 120]) ++ tokC 3 3 [47]) ++ tokC 1 5 [50], 0 + 1 + 1 + 1, (([] ++ [true]) ++ [false]) ++ [true], [], []⟩
  tok := fun | 0 => tokA 2 [36, 120] | 1 => tokA 3 [47] | _ => tokA 1 [50]
/-- The text `f(/2/)`. -/
def plan2 : Plan where
  s := ⟨#[102, 40, 47, 50, 47, 41]⟩
  k := 4
  A := fun | 0 => 0 | 1 => 1 | 2 => 2 | 3 => 5 | _ => 6
  Z := fun | 0 => 1 | 1 => 2 | 2 => 5 | _ => 6
  T := fun | 0 => true | 1 => false | 2 => true | 3 => false | _ => false
  R := fun
    | 0 => ⟨[], 0, [], [], []⟩
    | 1 => ⟨[] ++ tokC 0 0 [102], 0 + 1, [] ++ [true], [], []⟩
    | 2 => ⟨([] ++ tokC 0 0 [102]) ++ tokC 3 1 [40], 0 + 1 + 1, ([] ++ [true]) ++ [false], [], []⟩
    | 3 => ⟨(([] ++ tokC 0 0 [102]) ++ tokC 3 1 [40]) ++ tokC 7 2 [50], 0 + 1 + 1 + 1, (([] ++ [true]) ++ [false]) ++ [true], [], []⟩
    | _ => ⟨((([] ++ tokC 0 0 [102]) ++ tokC 3 1 [40]) ++ tokC 7 2 [50]) ++ tokC 3 5 [41], 0 + 1 + 1 + 1 + 1, ((([] ++ [true]) ++ [false]) ++ [true]) ++ [false], [], []⟩
  tok := fun | 0 => tokA 0 [102] | 1 => tokA 3 [40] | 2 => tokA 7 [50] | _ => tokA 3 [41]

theorem AdP.ro {W0 B : Nat} {σ : Sf} {ρ : Sr} {k : Int} {x : List UInt8} {y z : ByteArray} {o : Int} {w : World} {en : Ending} {w' : World} (h : AdP W0 B σ ρ k x y z o w en w') :
    RoP W0 B σ.s σ.a σ.b σ.a (exB k x o σ.t) σ.tk σ.tm σ.op σ.M ⟨ρ.tc ++ [.int .i64 k, .int .i64 (σ.b : Int), .string (bs x), .string y, .string z, .int .i64 o], ρ.n + 1, ρ.tl ++ [σ.t], ρ.ol, ρ.ml⟩ w en w' := by
  obtain ⟨he, v5, v6, h1, h2, h3, h4⟩ := h
  exact ⟨he, v5, v6, σ.op, h1, h2.low, fun T hT hB hA => ⟨h2.far T hT hB hA.a hA.b, h3 T hT hA.a, h4 T hT hA.b, hA.c⟩⟩
theorem AsP.ro {W0 B : Nat} {σ : Sf} {ρ : Sr} {x : List UInt8} {y z : ByteArray} {o : Int} {w : World} {en : Ending} {w' : World} (h : AsP W0 B σ ρ σ.op ρ.ol x y z o w en w') :
    RoP W0 B σ.s σ.a σ.b σ.a (exB 3 x o σ.t) σ.tk σ.tm σ.op σ.M ⟨ρ.tc ++ [.int .i64 3, .int .i64 (σ.b : Int), .string (bs x), .string y, .string z, .int .i64 o], ρ.n + 1, ρ.tl ++ [σ.t], ρ.ol, ρ.ml⟩ w en w' := by
  obtain ⟨he, v5, v6, h1, h2, h3, h4, h5⟩ := h
  exact ⟨he, v5, v6, σ.op, h1, h2, fun T hT hB hA => ⟨h3 T hT hB hA.a hA.b hA.c, h4 T hT hA.a, h5 T hT hA.b, hA.c⟩⟩

/-- Where neither a quote nor a heredoc begins. -/
theorem qn (W0 B : Nat) (σ : Sf) (ρ : Sr) (hs : σ.s.size ≤ 100000) (ha : σ.a < σ.s.size) (k : Int) (hno : qkd (σ.s.data.toList.drop σ.a) = (k, -1)) :
    ∀ w', IsSc W0 B σ ρ w' → Calls Tryz.prog 149 #[.pointer (some ⟨B, 0, none⟩)] w' (ScP W0 B noTok σ ρ w') := fun w' h => quote_none W0 B σ ρ w' h hs ha k hno
theorem hn (W0 B : Nat) (σ : Sf) (ρ : Sr) (hs : σ.s.size ≤ 100000) (ha : σ.a ≤ σ.s.size) (hno : ([60, 60] : List UInt8).isPrefixOf (σ.s.data.toList.drop σ.a) = false) :
    ∀ w', IsSc W0 B σ ρ w' → Calls Tryz.prog 150 #[.pointer (some ⟨B, 0, none⟩)] w' (ScP W0 B noTok σ ρ w') := fun w' h => heredoc_none W0 B σ ρ w' h hs ha hno
theorem mn (W0 B : Nat) (σ : Sf) (ρ : Sr) (hs : σ.s.size ≤ 100000) (ha : σ.a < σ.s.size) (hno : σ.s[σ.a] ∉ sgL) :
    ∀ w', IsSc W0 B σ ρ w' → Calls Tryz.prog 151 #[.pointer (some ⟨B, 0, none⟩)] w' (ScP W0 B noTok σ ρ w') := fun w' h => termSign_none W0 B σ ρ w' h hs ha hno
/-- A sign that is no brace is added. -/
theorem add_sg (W0 B : Nat) (σ : Sf) (ρ : Sr) (w : World) (h : IsSc W0 B σ ρ w) (x : List UInt8) (h1 : x ≠ [123]) (h2 : x ≠ [125]) (hn : ρ.n ≤ 100000) (ht : ρ.tl.length = ρ.n) :
    Calls Tryz.prog 132 #[.pointer (some ⟨B, 0, none⟩), tokA 3 x] w (RoP W0 B σ.s σ.a σ.b σ.a (exB 3 x 0 σ.t) σ.tk σ.tm σ.op σ.M ⟨ρ.tc ++ tokC 3 σ.b x, ρ.n + 1, ρ.tl ++ [σ.t], ρ.ol, ρ.ml⟩ w) :=
  (add_sign W0 B σ ρ w h 0 x ⟨#[]⟩ ⟨#[]⟩ 0 0 σ.op ρ.ol (fun w' h' => (meaning_other _ x w' h1 h2).mono fun e w2 he => by
    obtain ⟨rfl, rfl⟩ := he
    exact MeP.same h' 0) hn ht).mono fun _ _ h => h.ro
theorem add_tok (W0 B : Nat) (σ : Sf) (ρ : Sr) (w : World) (h : IsSc W0 B σ ρ w) (k : Int) (x : List UInt8) (hk : k ≠ 3) (hn : ρ.n ≤ 100000) (ht : ρ.tl.length = ρ.n) :
    Calls Tryz.prog 132 #[.pointer (some ⟨B, 0, none⟩), tokA k x] w (RoP W0 B σ.s σ.a σ.b σ.a (exB k x 0 σ.t) σ.tk σ.tm σ.op σ.M ⟨ρ.tc ++ tokC k σ.b x, ρ.n + 1, ρ.tl ++ [σ.t], ρ.ol, ρ.ml⟩ w) :=
  (add_plain W0 B σ ρ w h k 0 x ⟨#[]⟩ ⟨#[]⟩ 0 hk hn ht).mono fun _ _ h => h.ro
theorem lt3 {P : Nat → Prop} (h0 : P 0) (h1 : P 1) (h2 : P 2) : ∀ i, i < 3 → P i
  | 0, _ => h0
  | 1, _ => h1
  | 2, _ => h2
  | i + 3, h => absurd h (by omega)
theorem lt4 {P : Nat → Prop} (h0 : P 0) (h1 : P 1) (h2 : P 2) (h3 : P 3) : ∀ i, i < 4 → P i
  | 0, _ => h0
  | 1, _ => h1
  | 2, _ => h2
  | 3, _ => h3
  | i + 4, h => absurd h (by omega)

theorem k10 : plan1.s[0]'(by decide) ∈ sgL := by decide
theorem k15 : plan1.s[5]'(by decide) ∉ sgL := by decide
theorem k20 : plan2.s[0]'(by decide) ∉ sgL := by decide
theorem k22 : plan2.s[2 + 0]'(by decide) = 47 := by decide

theorem plan1_ok : plan1.Ok where
  small := by decide
  gap0 := by decide
  gaps := lt3 (by decide) (by decide) (by decide)
  lt := lt3 (by decide) (by decide) (by decide)
  fin := by decide
  ml := fun | 0 => rfl | 1 => rfl | 2 => rfl | _ + 3 => rfl
  read := lt3
    (fun W0 B e tk tm op M w h _ _ => read_term W0 B ⟨plan1.s, 0, 0, e, true, tk, tm, op, M⟩ ⟨plan1.s, 2, 0, e, true, tk, tm, op, M⟩ _ w h rfl 2 (bs [36, 120]) ⟨#[]⟩ ⟨#[]⟩ (h.ltSize.withA 2)
      (qn W0 B _ _ (by (try dsimp only); decide) (by (try dsimp only); decide) 0 (by (try dsimp only); decide)) (hn W0 B _ _ (by (try dsimp only); decide) (by (try dsimp only); decide) (by (try dsimp only); decide))
      (fun w' h' => termSign_word W0 B _ _ w' h' (by (try dsimp only); decide) (by (try dsimp only); decide) k10 1 (by (try dsimp only); decide) (by (try dsimp only); decide) (by (try dsimp only); decide)))
    (fun W0 B e tk tm op M w h hg _ => read_sign W0 B ⟨plan1.s, 3, 3, e, false, tk, tm, op, M⟩ _ w h (by (try dsimp only); decide) (by (try dsimp only); decide) rfl hg [47] (by (try dsimp only); decide) (by (try dsimp only); decide) (by (try dsimp only); decide))
    (fun W0 B e tk tm op M w h _ _ => read_num_t W0 B ⟨plan1.s, 5, 5, e, true, tk, tm, op, M⟩ _ w h (by (try dsimp only); decide) (by (try dsimp only); decide) rfl (qn W0 B _ _ (by (try dsimp only); decide) (by (try dsimp only); decide) 0 (by (try dsimp only); decide)) (hn W0 B _ _ (by (try dsimp only); decide) (by (try dsimp only); decide) (by (try dsimp only); decide)) (mn W0 B _ _ (by (try dsimp only); decide) (by (try dsimp only); decide) k15) 1 (by (try dsimp only); decide) (by (try dsimp only); decide) (by (try dsimp only); decide))
  add := lt3
    (fun W0 B e tk tm op M w h => add_tok W0 B _ _ w h 2 [36, 120] (by decide) (by decide) rfl)
    (fun W0 B e tk tm op M w h => add_sg W0 B _ _ w h [47] (by decide) (by decide) (by decide) rfl)
    (fun W0 B e tk tm op M w h => add_tok W0 B _ _ w h 1 [50] (by decide) (by decide) rfl)

theorem plan2_ok : plan2.Ok where
  small := by decide
  gap0 := by decide
  gaps := lt4 (by decide) (by decide) (by decide) (by decide)
  lt := lt4 (by decide) (by decide) (by decide) (by decide)
  fin := by decide
  ml := fun | 0 => rfl | 1 => rfl | 2 => rfl | 3 => rfl | _ + 4 => rfl
  read := lt4
    (fun W0 B e tk tm op M w h _ _ => read_word_t W0 B ⟨plan2.s, 0, 0, e, true, tk, tm, op, M⟩ _ w h (by (try dsimp only); decide) (by (try dsimp only); decide) rfl (qn W0 B _ _ (by (try dsimp only); decide) (by (try dsimp only); decide) 0 (by (try dsimp only); decide)) (hn W0 B _ _ (by (try dsimp only); decide) (by (try dsimp only); decide) (by (try dsimp only); decide)) (mn W0 B _ _ (by (try dsimp only); decide) (by (try dsimp only); decide) k20) 1 (by (try dsimp only); decide) (by (try dsimp only); decide) (by (try dsimp only); decide))
    (fun W0 B e tk tm op M w h hg _ => read_sign W0 B ⟨plan2.s, 1, 1, e, false, tk, tm, op, M⟩ _ w h (by (try dsimp only); decide) (by (try dsimp only); decide) rfl hg [40] (by (try dsimp only); decide) (by (try dsimp only); decide) (by (try dsimp only); decide))
    (fun W0 B e tk tm op M w h _ _ => read_quote W0 B ⟨plan2.s, 2, 2, e, true, tk, tm, op, M⟩ ⟨plan2.s, 5, 2, e, true, tk, tm, op, M⟩ _ w h rfl 7 (bs [50]) ⟨#[]⟩ ⟨#[]⟩ (h.ltSize.withA 5)
      (fun w' h' => quote_pat W0 B _ _ w' h' (by (try dsimp only); decide) (by (try dsimp only); decide) (gd_nil _) 0 3 5 5 47 [50] (by (try dsimp only); decide) (by (try dsimp only); decide) k22 (by (try dsimp only); decide) (by (try dsimp only); decide) (by (try dsimp only); decide) (by (try dsimp only); decide) (by (try dsimp only); decide)))
    (fun W0 B e tk tm op M w h hg _ => read_sign W0 B ⟨plan2.s, 5, 5, e, false, tk, tm, op, M⟩ _ w h (by (try dsimp only); decide) (by (try dsimp only); decide) rfl hg [41] (by (try dsimp only); decide) (by (try dsimp only); decide) (by (try dsimp only); decide))
  add := lt4
    (fun W0 B e tk tm op M w h => add_tok W0 B _ _ w h 0 [102] (by decide) (by decide) rfl)
    (fun W0 B e tk tm op M w h => add_sg W0 B _ _ w h [40] (by decide) (by decide) (by decide) rfl)
    (fun W0 B e tk tm op M w h => add_tok W0 B _ _ w h 7 [50] (by decide) (by decide) rfl)
    (fun W0 B e tk tm op M w h => add_sg W0 B _ _ w h [41] (by decide) (by decide) (by decide) rfl)

end Go.Proofs.YtaocbhfehncdcaaGreatDoor
