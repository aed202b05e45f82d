/-
  A scanner's read where an operator is expected: a sign. Conditions: a text of at most 100000 bytes; the row of signs as it is laid. No quote begins. Conditions: a text of at most 100000 bytes.
-/
import Derived.Test.YtaocbhfehncdcaaGreatDoorXM12
import Derived.Test.YtaocbhfehncdcaaGreatDoorXM08
namespace Go.Proofs.YtaocbhfehncdcaaGreatDoor
open Go.RowKit

theorem sgF_pre {l g : List UInt8} (h : sgF l = some g) : g.isPrefixOf l = true := by
  unfold sgF at h
  have := List.find?_some h
  simpa using this
set_option maxRecDepth 100000 in
set_option maxHeartbeats 4000000 in
theorem read_sign (W0 B : Nat) (σ : Sf) (ρ : Sr) (w : World) (h : IsSc W0 B σ ρ w) (hs : σ.s.size ≤ 100000) (ha : σ.a ≤ σ.s.size) (ht : σ.t = false) (hg : SigAt w) (g : List UInt8) (hn : wsz (σ.s.data.toList.drop σ.a) = 0) (hn1 : dgC (σ.s.data.toList.drop σ.a) = 0) (hsg : sgF (σ.s.data.toList.drop σ.a) = some g) :
    Calls Tryz.prog 133 #[.pointer (some ⟨B, 0, none⟩)] w (ScP W0 B (tokV 3 (σ.s.extract σ.a (σ.a + g.length))) { σ with a := σ.a + g.length } ρ w) := by
  have hl0 := h.ltSize
  have hBT := h.sc.lt
  have h1 := h.later ((Below.refl _ _).alloc (Nat.le_refl _) (.cells #[.int .i64 0, .int .i64 0, .string ⟨#[]⟩, .string ⟨#[]⟩, .string ⟨#[]⟩, .int .i64 0] 101))
  have hb1 : But B w (w.alloc (.cells #[.int .i64 0, .int .i64 0, .string ⟨#[]⟩, .string ⟨#[]⟩, .string ⟨#[]⟩, .int .i64 0] 101)) := But.of ((Below.refl _ _).alloc (Nat.le_refl _) _)
  have HT0 := Lib.hid (TkAt.fresh w)
  obtain ⟨s, a, b, e, t, tk, tm, op, M⟩ := σ
  dsimp only at hs ha hn ht hn1 hsg
  subst ht
  have hrs : (s.extract a s.size).size = s.size - a := by rw [Lib.size_eq, drop_list, List.length_drop, ← Lib.size_eq]
  have hq := dgC_drop (s.data.toList.drop a)
  rw [hn1, List.length_drop, ← Lib.size_eq] at hq
  have hgl : g.isPrefixOf (s.data.toList.drop a) = true := sgF_pre hsg
  have hnl : g.length ≤ s.size - a := by
    have := (List.isPrefixOf_iff_prefix.1 hgl).length_le
    rw [List.length_drop, ← Lib.size_eq] at this
    exact this
  have HTR : Hid (∀ w, Calls Tryz.prog 154 #[.string (s.extract a s.size), .string ⟨#[48, 49, 50, 51, 52, 53, 54, 55, 56, 57]⟩] w fun e w' => e = .returned (.string ⟨((s.data.toList.drop a).dropWhile dgB).toArray⟩) ∧ Below w.heap.size w w') := fun w => by
    have := trimDigits (s.extract a s.size) w
    rwa [drop_list] at this
  have hts : (⟨((s.data.toList.drop a).dropWhile dgB).toArray⟩ : ByteArray).size = ((s.data.toList.drop a).dropWhile dgB).length := by rw [Lib.size_eq]
  have hsub : ((s.extract a s.size).size : Int) - ((⟨((s.data.toList.drop a).dropWhile dgB).toArray⟩ : ByteArray).size : Int) = 0 := by rw [hrs, hts]; omega
  have hwr : IntKind.i64.wrap (0 : Int) = 0 := IntWalk.i64_in _ (by omega)
  have HPX : Hid (∀ p w, Calls Tryz.prog 58 #[.string (s.extract a s.size), .string (bs p)] w (BoS (p.isPrefixOf (s.data.toList.drop a)) w)) := fun p w => by
    refine (Tryz.strings_HasPrefix (s.extract a s.size) (bs p) w).mono ?_
    rintro e w' ⟨rfl, rfl⟩
    refine ⟨?_, rfl⟩
    rw [drop_list, bs_list]
    rfl
  clear hq hts hrs
  generalize (⟨((s.data.toList.drop a).dropWhile dgB).toArray⟩ : ByteArray) = tr at *
  have HG1 : Hid (SigAt (w.alloc (.cells #[.int .i64 0, .int .i64 0, .string ⟨#[]⟩, .string ⟨#[]⟩, .string ⟨#[]⟩, .int .i64 0] 101))) := hg.block (((Below.refl _ _).alloc (Nat.le_refl _) _).block _ hg.lt)
  have HST := Lib.hid (fun k (hk : k < 48) => sg_step (s.data.toList.drop a) k hk)
  have HSF : Hid (sgF (s.data.toList.drop a) = some g) := hsg
  have HIX := Lib.hid sig_index
  have HWD : Hid (∀ w, Calls Tryz.prog 152 #[.pointer (some ⟨B, 0, none⟩), .string (s.extract a s.size)] w (InS 0 w)) := fun w => by
    have h2 : (s.extract a s.size).size ≤ 100000 := by rw [Lib.size_eq, drop_list, List.length_drop, ← Lib.size_eq]; omega
    have := word_ok B (s.extract a s.size) w h2 (by rw [drop_list, hn]; omega)
    rwa [drop_list, hn] at this
  have HCU := Lib.hid (fun w' (h : IsSc W0 B ⟨s, a, b, e, false, tk, tm, op, M⟩ ρ w') => cut_any W0 B ⟨s, a, b, e, false, tk, tm, op, M⟩ ρ 3 g.length w' h hs (by dsimp only; omega) (by decide) (by decide))
  dsimp only at HCU
  have HP : Hid (∀ w', IsSc W0 B ⟨s, a + g.length, b, e, false, tk, tm, op, M⟩ ρ w' → But B w w' → ScP W0 B (tokV 3 (s.extract a (a + g.length))) ⟨s, a + g.length, b, e, false, tk, tm, op, M⟩ ρ w (.returned (tokV 3 (s.extract a (a + g.length)))) w') := fun w' h1 h2 => ⟨rfl, h1, h2⟩
  have HLT : Hid (ScLt w.heap.size B ⟨s, a + g.length, b, e, false, tk, tm, op, M⟩) := ⟨hl0.b, hl0.tk, hl0.tm, hl0.op, hl0.m⟩
  obtain ⟨c0, c1, c2, c3, c4, c5, c6, c7, c8⟩ := h1.sc.fields
  dsimp only at c0 c1 c2 c3 c4 c5 c6 c7 c8
  have H1 := Lib.hid h1
  have HB1 := Lib.hid hb1
  have HBT := Lib.hid hBT
  have hai : (a : Int) ≤ (s.size : Int) := by omega
  clear c2 c3 c5 c6 c7 c8 h h1 hb1 hl0 hn hBT hg hsg hgl
  go_enter Tryz.func133, Tryz.ntmps133
  go_wp2
  generalize w.alloc (.cells #[.int .i64 0, .int .i64 0, .string ⟨#[]⟩, .string ⟨#[]⟩, .string ⟨#[]⟩, .int .i64 0] 101) = W1 at *
  generalize hTT : w.heap.size = T at *
  have HTT := Lib.hid hTT
  clear hTT
  go_quiet (fail)
  have H2 : Hid (IsSc W0 B ⟨s, a, b, e, false, tk, tm, op, M⟩ ρ (W1.drewN nq)) := H1.out.drew _
  have HB2 : Hid (But B w (W1.drewN nq)) := HB1.out.drewN _
  have HT2 : Hid (TkAt T (.int .i64 0) (.int .i64 0) (.string ⟨#[]⟩) (.string ⟨#[]⟩) (.string ⟨#[]⟩) (.int .i64 0) (W1.drewN nq)) := HT0.out.later rfl
  clear c0 c1 c4 H1 HB1 HT0
  have HG2 : Hid (SigAt (W1.drewN nq)) := HG1.out
  clear HG1
  generalize W1.drewN nq = W2 at *
  generalize s.extract a s.size = rest at *
  generalize s.data.toList.drop a = R at *
  go_wp2_with fail
  refine (HWD.out _).mono ?_
  rintro e1 w' ⟨rfl, rfl⟩
  go_wp2_with fail
  refine (HTR.out _).mono ?_
  rintro e1 w2 ⟨rfl, hb2⟩
  replace HB2 : Hid (But B w w2) := HB2.out.trans (But.of hb2)
  replace HT2 := Lib.hid (HT2.out.later (hb2.block T HT2.out.lt))
  replace H2 := Lib.hid (H2.out.later hb2)
  have HG3 : Hid (SigAt w2) := HG2.out.block (hb2.block _ HG2.out.lt)
  clear hb2 HG2
  have HLO := Lib.hid (sig_load HG3.out)
  go_upto_region 18 with (fail)
  refine wp_region_lit ?_
  refine load_run2 rfl _ _ rfl (.agg sgC) HLO.out ?_
  go_wp2_with fail
  go_loop [68] (fun n => ∃ k : Nat, k ≤ 48 ∧ n = .int .i64 k ∧ Hid (sgF R = (sgAll.drop k).find? fun g => g.isPrefixOf R)) (fun n => 48 - (intOf n).toNat)
  case atStart => exact ⟨0, by omega, rfl, rfl⟩
  case round =>
    obtain ⟨k, hk, rfl, hw⟩ := hrel
    by_cases hlt : k < 48
    · have hix := HIX.out k hlt w2
      have hst := HST.out k hlt
      cases hpx : (sgAll.getD k []).isPrefixOf R
      · have hN : Hid (sgF R = (sgAll.drop (k + 1)).find? fun g => g.isPrefixOf R) := by
          show _ = _
          rw [hw.out, hst, hpx]
          rfl
        clear hst
        generalize sgAll.getD k [] = p at *
        have hp := HPX.out p
        rw [hpx] at hp
        have HPP := Lib.hid hp
        clear hp hpx
        go_wp2_with (go_at_call 58; refine (HPP.out _).mono ?_; rintro e w' ⟨rfl, rfl⟩)
        go_round
        case rel => exact ⟨k + 1, by omega, by go_num, hN⟩
        case measure => simp [intOf]; omega
      · have hgk : sgAll.getD k [] = g := by
          have := hw.out
          rw [hst, hpx, if_pos rfl, HSF.out] at this
          exact (Option.some.inj this).symm
        rw [hgk] at hix hpx
        clear hst hgk
        have hp := HPX.out g
        rw [hpx] at hp
        have HPP := Lib.hid hp
        clear hp hpx
        have hgs := bs_size g
        go_wp2_with (go_at_call 58; refine (HPP.out _).mono ?_; rintro e w' ⟨rfl, rfl⟩)
        refine (HCU.out _ H2.out).mono ?_
        rintro e1 W3 ⟨rfl, hs3, hb3⟩
        have H3 := Lib.hid hs3
        have HB3 : Hid (But B w W3) := HB2.out.trans hb3
        have HT3 : Hid (TkAt T (.int .i64 0) (.int .i64 0) (.string ⟨#[]⟩) (.string ⟨#[]⟩) (.string ⟨#[]⟩) (.int .i64 0) W3) := But.tok HT2.out hb3 HBT.out
        clear hs3 hb3
        obtain ⟨t0, t1, t2, t3, t4, t5⟩ := HT3.out.cells
        have z0 := HT3.out.frozen 0
        have z1 := HT3.out.frozen 1
        have z2 := HT3.out.frozen 2
        have z3 := HT3.out.frozen 3
        have z4 := HT3.out.frozen 4
        have z5 := HT3.out.frozen 5
        unfold tokV at *
        go_wp2
        have HT4 := HT3.out.put (.int .i64 3) (.int .i64 0) (.string (s.extract a (a + g.length))) (.string ⟨#[]⟩) (.string ⟨#[]⟩) (.int .i64 0)
        obtain ⟨r0, r1, r2, r3, r4, r5⟩ := HT4.cells
        have hbe := tkW_below W3 T (.int .i64 3) (.int .i64 0) (.string (s.extract a (a + g.length))) (.string ⟨#[]⟩) (.string ⟨#[]⟩) (.int .i64 0)
        change bodyPost _ _ _ _ _ (tkW W3 T (.int .i64 3) (.int .i64 0) (.string (s.extract a (a + g.length))) (.string ⟨#[]⟩) (.string ⟨#[]⟩) (.int .i64 0))
        clear t0 t1 t2 t3 t4 t5 z0 z1 z2 z3 z4 z5
        refine bodyPost_ret (v := .agg #[.int .i64 3, .int .i64 0, .string (s.extract a (a + g.length)), .string ⟨#[]⟩, .string ⟨#[]⟩, .int .i64 0]) ?_ rfl (HP.out _ (H3.out.below HLT.out hbe) (HB3.out.more (by rw [HTT.out]; exact hbe)))
        generalize tkW W3 T (.int .i64 3) (.int .i64 0) (.string (s.extract a (a + g.length))) (.string ⟨#[]⟩) (.string ⟨#[]⟩) (.int .i64 0) = W4 at *
        simp [results, Tryz.results133, go_sem, r0, r1, r2, r3, r4, r5]
    · exfalso
      have : k = 48 := by omega
      subst this
      have := hw.out
      rw [HSF.out] at this
      cases this

end Go.Proofs.YtaocbhfehncdcaaGreatDoor

namespace Go.Proofs.YtaocbhfehncdcaaGreatDoor
open Go.RowKit

set_option maxRecDepth 100000 in
set_option maxHeartbeats 4000000 in
theorem quote_none (W0 B : Nat) (σ : Sf) (ρ : Sr) (w : World) (h : IsSc W0 B σ ρ w) (hs : σ.s.size ≤ 100000) (ha : σ.a < σ.s.size) (k : Int) (hno : qkd (σ.s.data.toList.drop σ.a) = (k, -1)) :
    Calls Tryz.prog 149 #[.pointer (some ⟨B, 0, none⟩)] w (ScP W0 B noTok σ ρ w) := by
  have hl0 := h.ltSize
  have h1 := h.later ((Below.refl _ _).alloc (Nat.le_refl _) (.cells #[.int .i64 0, .int .i64 0, .string ⟨#[]⟩, .string ⟨#[]⟩, .string ⟨#[]⟩, .int .i64 0] 101))
  have hb1 : But B w (w.alloc (.cells #[.int .i64 0, .int .i64 0, .string ⟨#[]⟩, .string ⟨#[]⟩, .string ⟨#[]⟩, .int .i64 0] 101)) := But.of ((Below.refl _ _).alloc (Nat.le_refl _) _)
  have HT0 := Lib.hid (TkAt.fresh w)
  have HCP : Hid (∀ w, Calls Tryz.prog 169 #[.string (σ.s.extract σ.a σ.s.size)] w fun e w' => e = .returned (.tuple #[.int .i64 k, .int .i64 (-1)]) ∧ w' = w) := fun w => by
    have hsz : (σ.s.extract σ.a σ.s.size).size = σ.s.size - σ.a := by rw [Lib.size_eq, drop_list, List.length_drop, ← Lib.size_eq]
    have := quoteKind_any (σ.s.extract σ.a σ.s.size) w (by omega) (by omega)
    rw [drop_list, hno] at this
    exact this.mono fun _ _ h => ⟨h.1, h.2.symm⟩
  have HP : Hid (∀ w', IsSc W0 B σ ρ w' → But B w w' → ScP W0 B noTok σ ρ w (.returned noTok) w') := fun w' h1 h2 => ⟨rfl, h1, h2⟩
  obtain ⟨s, a, b, e, t, tk, tm, op, M⟩ := σ
  dsimp only at hs ha HCP
  have HLT := Lib.hid hl0
  obtain ⟨c0, c1, c2, c3, c4, c5, c6, c7, c8⟩ := h1.sc.fields
  dsimp only at c0 c1 c2 c3 c4 c5 c6 c7 c8
  have H1 := Lib.hid h1
  have HB1 := Lib.hid hb1
  have hai : (a : Int) ≤ (s.size : Int) := by omega
  clear c2 c3 c4 c5 c6 c7 c8 h h1 hb1 hl0 hno
  go_enter Tryz.func149, Tryz.ntmps149
  go_wp2
  generalize w.alloc (.cells #[.int .i64 0, .int .i64 0, .string ⟨#[]⟩, .string ⟨#[]⟩, .string ⟨#[]⟩, .int .i64 0] 101) = W1 at *
  generalize hTT : w.heap.size = T at *
  have HTT := Lib.hid hTT
  clear hTT
  go_quiet ((go_at_call 169; exact Calls.quiet_of_same (HCP.out _)))
  have H2 : Hid (IsSc W0 B ⟨s, a, b, e, t, tk, tm, op, M⟩ ρ (W1.drewN nq)) := H1.out.drew _
  have HB2 : Hid (But B w (W1.drewN nq)) := HB1.out.drewN _
  have HT2 : Hid (TkAt T (.int .i64 0) (.int .i64 0) (.string ⟨#[]⟩) (.string ⟨#[]⟩) (.string ⟨#[]⟩) (.int .i64 0) (W1.drewN nq)) := HT0.out.later rfl
  clear c0 c1 H1 HB1 HT0
  generalize W1.drewN nq = W2 at *
  obtain ⟨t0, t1, t2, t3, t4, t5⟩ := HT2.out.cells
  have z0 := HT2.out.frozen 0
  have z1 := HT2.out.frozen 1
  have z2 := HT2.out.frozen 2
  have z3 := HT2.out.frozen 3
  have z4 := HT2.out.frozen 4
  have z5 := HT2.out.frozen 5
  go_wp2
  have HT4 := HT2.out.put (.int .i64 0) (.int .i64 0) (.string ⟨#[]⟩) (.string ⟨#[]⟩) (.string ⟨#[]⟩) (.int .i64 0)
  obtain ⟨r0, r1, r2, r3, r4, r5⟩ := HT4.cells
  have hbe := tkW_below W2 T (.int .i64 0) (.int .i64 0) (.string ⟨#[]⟩) (.string ⟨#[]⟩) (.string ⟨#[]⟩) (.int .i64 0)
  change bodyPost _ _ _ _ _ (tkW W2 T (.int .i64 0) (.int .i64 0) (.string ⟨#[]⟩) (.string ⟨#[]⟩) (.string ⟨#[]⟩) (.int .i64 0))
  clear t0 t1 t2 t3 t4 t5 z0 z1 z2 z3 z4 z5
  refine bodyPost_ret (v := noTok) ?_ rfl (HP.out _ (H2.out.below HLT.out hbe) (HB2.out.more (by rw [HTT.out]; exact hbe)))
  generalize tkW W2 T (.int .i64 0) (.int .i64 0) (.string ⟨#[]⟩) (.string ⟨#[]⟩) (.string ⟨#[]⟩) (.int .i64 0) = W4 at *
  simp [results, Tryz.results149, go_sem, noTok, tokV, r0, r1, r2, r3, r4, r5]

end Go.Proofs.YtaocbhfehncdcaaGreatDoor
