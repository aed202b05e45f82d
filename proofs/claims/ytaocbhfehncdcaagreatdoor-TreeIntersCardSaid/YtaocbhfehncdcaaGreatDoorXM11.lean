/-
  What a sign means that is no brace. Conditions: none. What a closing brace means. Conditions: at most 100000 open braces. A scanner's read where an operator is expected: a sign. Conditions: a text of at most 100000 bytes; the row of signs as it is laid.
-/
import Derived.Test.YtaocbhfehncdcaaGreatDoorXAd
import Derived.Test.YtaocbhfehncdcaaGreatDoorXAs
import Derived.BigQuiet
import Derived.Deep.QuietTactic
import Derived.Test.YtaocbhfehncdcaaGreatDoorXM09
namespace Go.Proofs.YtaocbhfehncdcaaGreatDoor
open Go.RowKit

set_option maxRecDepth 100000 in
set_option maxHeartbeats 4000000 in
theorem meaning_other (c : Value) (x : List UInt8) (w : World) (h1 : x ≠ [123]) (h2 : x ≠ [125]) : Calls Tryz.prog 147 #[c, .string (bs x)] w fun e w' => e = .returned (.int .i64 0) ∧ w' = w := by
  have n1 : ((bs x).toList == [123]) = false := ne_list (bs x) [123] (by rw [bs_list]; exact h1)
  have n2 : ((bs x).toList == [125]) = false := ne_list (bs x) [125] (by rw [bs_list]; exact h2)
  clear h1 h2
  go_enter Tryz.func147, Tryz.ntmps147
  go_wp2
  go_ret
  exact ⟨rfl, rfl⟩

end Go.Proofs.YtaocbhfehncdcaaGreatDoor

namespace Go.Proofs.YtaocbhfehncdcaaGreatDoor
open Go.RowKit

theorem row_pop {w : World} {W0 : Nat} {E : TypeId} {g n cap : Nat} {xs : List Value} {u : Value} (h : w.ownsRow W0 E 1 (.slice (some ⟨g, 0, none⟩) (n + 1) cap) (n + 1) (xs ++ [u])) : w.ownsRow W0 E 1 (.slice (some ⟨g, 0, none⟩) n cap) n xs := by
  have hl := h.1
  simp only [List.length_append, List.length_singleton, Nat.mul_one] at hl
  refine ⟨by omega, .inr ?_⟩
  rcases h.2 with ⟨h0, _⟩ | ⟨g', cap', cur, hv, h1, hg, h2, h3, h4, h5⟩
  · cases h0
  · cases hv
    refine ⟨g, cap, cur, rfl, h1, hg, by omega, h3, h4, ?_⟩
    have := congrArg (List.take n) h5
    rw [List.take_take, List.take_append_of_le_length (by omega)] at this
    rw [show min n ((n + 1) * 1) = n * 1 by omega] at this
    rw [this]
    exact List.take_of_length_le (by omega)
def popV : Value → Value
  | .slice a n cap => .slice a (n - 1) cap
  | v => v

set_option maxRecDepth 100000 in
set_option maxHeartbeats 4000000 in
theorem meaning_none (W0 B : Nat) (σ : Sf) (ρ : Sr) (w : World) (h : IsSc W0 B σ ρ w) (h0 : ρ.ol = []) : Calls Tryz.prog 147 #[.pointer (some ⟨B, 0, none⟩), .string ⟨#[125]⟩] w (MeP W0 B σ ρ σ.op [] 1 w) := by
  have HP : Hid (MeP W0 B σ ρ σ.op [] 1 w (.returned (.int .i64 1)) w) := by
    have := MeP.same h 1
    rwa [h0] at this
  obtain ⟨s, a, b, e, t, tk, tm, op, M⟩ := σ
  obtain ⟨c0, c1, c2, c3, c4, c5, c6, c7, c8⟩ := h.sc.fields
  dsimp only at c0 c1 c2 c3 c4 c5 c6 c7 c8
  have hop := h.op
  rw [h0] at hop
  dsimp only at hop
  clear h h0 c0 c1 c2 c3 c4 c5 c6 c8
  rcases hop.2 with ⟨rfl, _⟩ | ⟨g, cap, cur, rfl, _⟩
  · clear hop
    go_enter Tryz.func147, Tryz.ntmps147
    go_wp2
    go_ret
    exact HP.out
  · clear hop
    go_enter Tryz.func147, Tryz.ntmps147
    simp only [List.length_nil] at c7
    go_wp2
    go_ret
    exact HP.out

set_option maxRecDepth 100000 in
set_option maxHeartbeats 4000000 in
theorem meaning_close (W0 B : Nat) (σ : Sf) (ρ : Sr) (w : World) (h : IsSc W0 B σ ρ w) (ol : List Int) (o : Int) (h0 : ρ.ol = ol ++ [o]) (hn : ol.length ≤ 100000) : Calls Tryz.prog 147 #[.pointer (some ⟨B, 0, none⟩), .string ⟨#[125]⟩] w (MeP W0 B σ ρ (popV σ.op) ol o w) := by
  obtain ⟨s, a, b, e, t, tk, tm, op, M⟩ := σ
  have hop := h.op
  rw [h0] at hop
  dsimp only at hop
  have hnl : (ol ++ [o]).length = ol.length + 1 := by simp
  have hcl : intCells (ol ++ [o]) = intCells ol ++ [.int .i64 o] := by simp [intCells]
  rw [hnl, hcl] at hop
  obtain ⟨g, cap, rfl⟩ : ∃ g cap, op = .slice (some ⟨g, 0, none⟩) (ol.length + 1) cap := by
    rcases hop.2 with ⟨_, h0⟩ | ⟨g, cap, cur, h0, _⟩
    · omega
    · exact ⟨g, cap, h0⟩
  have HPOP := Lib.hid (row_pop hop)
  have HO := Lib.hid hop
  have hcap : ol.length + 1 ≤ cap ∧ cap ≤ maxLen := by
    rcases hop.2 with ⟨_, h0⟩ | ⟨g, cap, cur, hv, _, _, h2, h3, _⟩
    · omega
    · cases hv
      exact ⟨h2, h3⟩
  have q : w.cell? ⟨g, ol.length, none⟩ = some (.int .i64 o) := by
    rw [hop.cellAt ol.length (by omega)]
    rw [List.getElem?_append_right (by simp [intCells])]
    simp [intCells]
  obtain ⟨c0, c1, c2, c3, c4, c5, c6, c7, c8⟩ := h.sc.fields
  dsimp only at c0 c1 c2 c3 c4 c5 c6 c7 c8
  have fz := h.sc.frozen 7
  have HP : Hid (∀ q, MeP W0 B ⟨s, a, b, e, t, tk, tm, .slice (some ⟨g, 0, none⟩) (ol.length + 1) cap, M⟩ ρ (.slice (some ⟨g, 0, none⟩) ol.length cap) ol o w (.returned (.int .i64 o)) ((w.drewN q).setCell ⟨B, 7, none⟩ (.slice (some ⟨g, 0, none⟩) ol.length cap))) := by
    intro q
    have hq := h.drew q
    have hpq : (w.drewN q).ownsRow W0 3 1 (.slice (some ⟨g, 0, none⟩) ol.length cap) ol.length (intCells ol) := HPOP.out
    refine ⟨rfl, ⟨hq.base, hq.sc.setOp _, row_set hq.tk (row_ne hq.tk hq.sc (by decide)) 7 _, row_set hq.tm (row_ne hq.tm hq.sc (by decide)) 7 _, row_set hpq (row_ne hpq hq.sc (by decide)) 7 _, hq.mp.block (Below.heap_setCell _ ⟨B, 7, none⟩ _ M hq.mapNe), hq.mb⟩, (bl_drewN (Below.refl _ _) q).setCell h.base _, ?_, ?_, ?_⟩
    · intro T v0 v1 v2 v3 v4 v5 hT
      exact hT.later (Below.heap_setCell (w.drewN q) ⟨B, 7, none⟩ _ T (hT.ne h.sc))
    · intro T _ h2 _
      exact Below.heap_setCell (w.drewN q) ⟨B, 7, none⟩ _ T h2
    · intro T _ h2
      exact h2
  have w1 : IntKind.i64.wrap ((ol.length : Int) + 1 - 1) = (ol.length : Int) := by
    rw [show (ol.length : Int) + 1 - 1 = (ol.length : Int) by omega]
    exact IntWalk.i64_in _ (by omega)
  obtain ⟨hc1, hc2⟩ := hcap
  have hz : ((ol.length : Int) + 1 == 0) = false := by rw [beq_eq_false_iff_ne]; omega
  unfold maxLen at hc2
  clear h hop hnl hcl h0 c0 c1 c2 c3 c4 c5 c6 c8
  show Calls _ _ _ _ (MeP W0 B ⟨s, a, b, e, t, tk, tm, .slice (some ⟨g, 0, none⟩) (ol.length + 1) cap, M⟩ ρ (.slice (some ⟨g, 0, none⟩) ol.length cap) ol o w)
  generalize ol.length = n at *
  go_enter Tryz.func147, Tryz.ntmps147
  go_wp2
  go_quiet (fail)
  go_wp2
  have HQ : Hid (MeP W0 B ⟨s, a, b, e, t, tk, tm, .slice (some ⟨g, 0, none⟩) (n + 1) cap, M⟩ ρ (.slice (some ⟨g, 0, none⟩) n cap) ol o w (.returned (.int .i64 o)) ((w.drewN nq).drew.setCell ⟨B, 7, none⟩ (.slice (some ⟨g, 0, none⟩) n cap))) := HP.out (nq + 1)
  have d7 : (w.drewN nq).cell? ⟨B, 7, none⟩ = some (.slice (some ⟨g, 0, none⟩) (n + 1) cap) := c7
  have dz : (w.drewN nq).frozen? ⟨B, 7, none⟩ = false := fz
  clear c7 fz q HO HPOP HP
  generalize w.drewN nq = wq at *
  have x1 : (n : Int) ≤ (cap : Int) := by omega
  have x2 : IntKind.i64.wrap (n : Int) = (n : Int) := IntWalk.i64_in _ (by omega)
  go_still_tail 14, (by kernel_rfl)
  change wpList _ _ _ _ _ wq.drew
  have e7 : wq.drew.cell? ⟨B, 7, none⟩ = some (.slice (some ⟨g, 0, none⟩) (n + 1) cap) := d7
  have ez : wq.drew.frozen? ⟨B, 7, none⟩ = false := dz
  clear d7 dz
  go_wp2
  go_ret
  exact HQ.out

end Go.Proofs.YtaocbhfehncdcaaGreatDoor

namespace Go.Proofs.YtaocbhfehncdcaaGreatDoor
open Go.RowKit

theorem sgF_pre {l g : List UInt8} (h : sgF l = some g) : g.isPrefixOf l = true := by
  unfold sgF at h
  have := List.find?_some h
  simpa using this
set_option maxRecDepth 100000 in
set_option maxHeartbeats 4000000 in
theorem read_sign (W0 B : Nat) (σ : Sf) (ρ : Sr) (w : World) (h : IsSc W0 B σ ρ w) (hs : σ.s.size ≤ 100000) (ha : σ.a ≤ σ.s.size) (ht : σ.t = false) (hg : SigAt w) (g : List UInt8) (hn : wsz (σ.s.data.toList.drop σ.a) = 0) (hn1 : dgC (σ.s.data.toList.drop σ.a) = 0) (hsg : sgF (σ.s.data.toList.drop σ.a) = some g) :
    Calls Tryz.prog 133 #[.pointer (some ⟨B, 0, none⟩)] w (ScP W0 B (tokV 3 (σ.s.extract σ.a (σ.a + g.length))) { σ with a := σ.a + g.length } ρ w) := by
  have hl0 := h.ltSize
  have hBT := h.sc.lt
  have h1 := h.later ((Below.refl _ _).alloc (Nat.le_refl _) (.cells #[.int .i64 0, .int .i64 0, .string ⟨#[]⟩, .string ⟨#[]⟩, .string ⟨#[]⟩, .int .i64 0] 101))
  have hb1 : But B w (w.alloc (.cells #[.int .i64 0, .int .i64 0, .string ⟨#[]⟩, .string ⟨#[]⟩, .string ⟨#[]⟩, .int .i64 0] 101)) := But.of ((Below.refl _ _).alloc (Nat.le_refl _) _)
  have HT0 := Lib.hid (TkAt.fresh w)
  obtain ⟨s, a, b, e, t, tk, tm, op, M⟩ := σ
  dsimp only at hs ha hn ht hn1 hsg
  subst ht
  have hrs : (s.extract a s.size).size = s.size - a := by rw [Lib.size_eq, drop_list, List.length_drop, ← Lib.size_eq]
  have hq := dgC_drop (s.data.toList.drop a)
  rw [hn1, List.length_drop, ← Lib.size_eq] at hq
  have hgl : g.isPrefixOf (s.data.toList.drop a) = true := sgF_pre hsg
  have hnl : g.length ≤ s.size - a := by
    have := (List.isPrefixOf_iff_prefix.1 hgl).length_le
    rw [List.length_drop, ← Lib.size_eq] at this
    exact this
  have HTR : Hid (∀ w, Calls Tryz.prog 154 #[.string (s.extract a s.size), .string ⟨#[48, 49, 50, 51, 52, 53, 54, 55, 56, 57]⟩] w fun e w' => e = .returned (.string ⟨((s.data.toList.drop a).dropWhile dgB).toArray⟩) ∧ Below w.heap.size w w') := fun w => by
    have := trimDigits (s.extract a s.size) w
    rwa [drop_list] at this
  have hts : (⟨((s.data.toList.drop a).dropWhile dgB).toArray⟩ : ByteArray).size = ((s.data.toList.drop a).dropWhile dgB).length := by rw [Lib.size_eq]
  have hsub : ((s.extract a s.size).size : Int) - ((⟨((s.data.toList.drop a).dropWhile dgB).toArray⟩ : ByteArray).size : Int) = 0 := by rw [hrs, hts]; omega
  have hwr : IntKind.i64.wrap (0 : Int) = 0 := IntWalk.i64_in _ (by omega)
  have HPX : Hid (∀ p w, Calls Tryz.prog 58 #[.string (s.extract a s.size), .string (bs p)] w (BoS (p.isPrefixOf (s.data.toList.drop a)) w)) := fun p w => by
    refine (Tryz.strings_HasPrefix (s.extract a s.size) (bs p) w).mono ?_
    rintro e w' ⟨rfl, rfl⟩
    refine ⟨?_, rfl⟩
    rw [drop_list, bs_list]
    rfl
  clear hq hts hrs
  generalize (⟨((s.data.toList.drop a).dropWhile dgB).toArray⟩ : ByteArray) = tr at *
  have HG1 : Hid (SigAt (w.alloc (.cells #[.int .i64 0, .int .i64 0, .string ⟨#[]⟩, .string ⟨#[]⟩, .string ⟨#[]⟩, .int .i64 0] 101))) := hg.block (((Below.refl _ _).alloc (Nat.le_refl _) _).block _ hg.lt)
  have HST := Lib.hid (fun k (hk : k < 48) => sg_step (s.data.toList.drop a) k hk)
  have HSF : Hid (sgF (s.data.toList.drop a) = some g) := hsg
  have HIX := Lib.hid sig_index
  have HWD : Hid (∀ w, Calls Tryz.prog 152 #[.pointer (some ⟨B, 0, none⟩), .string (s.extract a s.size)] w (InS 0 w)) := fun w => by
    have h2 : (s.extract a s.size).size ≤ 100000 := by rw [Lib.size_eq, drop_list, List.length_drop, ← Lib.size_eq]; omega
    have := word_ok B (s.extract a s.size) w h2 (by rw [drop_list, hn]; omega)
    rwa [drop_list, hn] at this
  have HCU := Lib.hid (fun w' (h : IsSc W0 B ⟨s, a, b, e, false, tk, tm, op, M⟩ ρ w') => cut_any W0 B ⟨s, a, b, e, false, tk, tm, op, M⟩ ρ 3 g.length w' h hs (by dsimp only; omega) (by decide) (by decide))
  dsimp only at HCU
  have HP : Hid (∀ w', IsSc W0 B ⟨s, a + g.length, b, e, false, tk, tm, op, M⟩ ρ w' → But B w w' → ScP W0 B (tokV 3 (s.extract a (a + g.length))) ⟨s, a + g.length, b, e, false, tk, tm, op, M⟩ ρ w (.returned (tokV 3 (s.extract a (a + g.length)))) w') := fun w' h1 h2 => ⟨rfl, h1, h2⟩
  have HLT : Hid (ScLt w.heap.size B ⟨s, a + g.length, b, e, false, tk, tm, op, M⟩) := ⟨hl0.b, hl0.tk, hl0.tm, hl0.op, hl0.m⟩
  obtain ⟨c0, c1, c2, c3, c4, c5, c6, c7, c8⟩ := h1.sc.fields
  dsimp only at c0 c1 c2 c3 c4 c5 c6 c7 c8
  have H1 := Lib.hid h1
  have HB1 := Lib.hid hb1
  have HBT := Lib.hid hBT
  have hai : (a : Int) ≤ (s.size : Int) := by omega
  clear c2 c3 c5 c6 c7 c8 h h1 hb1 hl0 hn hBT hg hsg hgl
  go_enter Tryz.func133, Tryz.ntmps133
  go_wp2
  generalize w.alloc (.cells #[.int .i64 0, .int .i64 0, .string ⟨#[]⟩, .string ⟨#[]⟩, .string ⟨#[]⟩, .int .i64 0] 101) = W1 at *
  generalize hTT : w.heap.size = T at *
  have HTT := Lib.hid hTT
  clear hTT
  go_quiet (fail)
  have H2 : Hid (IsSc W0 B ⟨s, a, b, e, false, tk, tm, op, M⟩ ρ (W1.drewN nq)) := H1.out.drew _
  have HB2 : Hid (But B w (W1.drewN nq)) := HB1.out.drewN _
  have HT2 : Hid (TkAt T (.int .i64 0) (.int .i64 0) (.string ⟨#[]⟩) (.string ⟨#[]⟩) (.string ⟨#[]⟩) (.int .i64 0) (W1.drewN nq)) := HT0.out.later rfl
  clear c0 c1 c4 H1 HB1 HT0
  have HG2 : Hid (SigAt (W1.drewN nq)) := HG1.out
  clear HG1
  generalize W1.drewN nq = W2 at *
  generalize s.extract a s.size = rest at *
  generalize s.data.toList.drop a = R at *
  go_wp2_with fail
  refine (HWD.out _).mono ?_
  rintro e1 w' ⟨rfl, rfl⟩
  go_wp2_with fail
  refine (HTR.out _).mono ?_
  rintro e1 w2 ⟨rfl, hb2⟩
  replace HB2 : Hid (But B w w2) := HB2.out.trans (But.of hb2)
  replace HT2 := Lib.hid (HT2.out.later (hb2.block T HT2.out.lt))
  replace H2 := Lib.hid (H2.out.later hb2)
  have HG3 : Hid (SigAt w2) := HG2.out.block (hb2.block _ HG2.out.lt)
  clear hb2 HG2
  have HLO := Lib.hid (sig_load HG3.out)
  go_upto_region 18 with (fail)
  refine wp_region_lit ?_
  refine load_run2 rfl _ _ rfl (.agg sgC) HLO.out ?_
  go_wp2_with fail
  go_loop [68] (fun n => ∃ k : Nat, k ≤ 48 ∧ n = .int .i64 k ∧ Hid (sgF R = (sgAll.drop k).find? fun g => g.isPrefixOf R)) (fun n => 48 - (intOf n).toNat)
  case atStart => exact ⟨0, by omega, rfl, rfl⟩
  case round =>
    obtain ⟨k, hk, rfl, hw⟩ := hrel
    by_cases hlt : k < 48
    · have hix := HIX.out k hlt w2
      have hst := HST.out k hlt
      cases hpx : (sgAll.getD k []).isPrefixOf R
      · have hN : Hid (sgF R = (sgAll.drop (k + 1)).find? fun g => g.isPrefixOf R) := by
          show _ = _
          rw [hw.out, hst, hpx]
          rfl
        clear hst
        generalize sgAll.getD k [] = p at *
        have hp := HPX.out p
        rw [hpx] at hp
        have HPP := Lib.hid hp
        clear hp hpx
        go_wp2_with (go_at_call 58; refine (HPP.out _).mono ?_; rintro e w' ⟨rfl, rfl⟩)
        go_round
        case rel => exact ⟨k + 1, by omega, by go_num, hN⟩
        case measure => simp [intOf]; omega
      · have hgk : sgAll.getD k [] = g := by
          have := hw.out
          rw [hst, hpx, if_pos rfl, HSF.out] at this
          exact (Option.some.inj this).symm
        rw [hgk] at hix hpx
        clear hst hgk
        have hp := HPX.out g
        rw [hpx] at hp
        have HPP := Lib.hid hp
        clear hp hpx
        have hgs := bs_size g
        go_wp2_with (go_at_call 58; refine (HPP.out _).mono ?_; rintro e w' ⟨rfl, rfl⟩)
        refine (HCU.out _ H2.out).mono ?_
        rintro e1 W3 ⟨rfl, hs3, hb3⟩
        have H3 := Lib.hid hs3
        have HB3 : Hid (But B w W3) := HB2.out.trans hb3
        have HT3 : Hid (TkAt T (.int .i64 0) (.int .i64 0) (.string ⟨#[]⟩) (.string ⟨#[]⟩) (.string ⟨#[]⟩) (.int .i64 0) W3) := But.tok HT2.out hb3 HBT.out
        clear hs3 hb3
        obtain ⟨t0, t1, t2, t3, t4, t5⟩ := HT3.out.cells
        have z0 := HT3.out.frozen 0
        have z1 := HT3.out.frozen 1
        have z2 := HT3.out.frozen 2
        have z3 := HT3.out.frozen 3
        have z4 := HT3.out.frozen 4
        have z5 := HT3.out.frozen 5
        unfold tokV at *
        go_wp2
        have HT4 := HT3.out.put (.int .i64 3) (.int .i64 0) (.string (s.extract a (a + g.length))) (.string ⟨#[]⟩) (.string ⟨#[]⟩) (.int .i64 0)
        obtain ⟨r0, r1, r2, r3, r4, r5⟩ := HT4.cells
        have hbe := tkW_below W3 T (.int .i64 3) (.int .i64 0) (.string (s.extract a (a + g.length))) (.string ⟨#[]⟩) (.string ⟨#[]⟩) (.int .i64 0)
        change bodyPost _ _ _ _ _ (tkW W3 T (.int .i64 3) (.int .i64 0) (.string (s.extract a (a + g.length))) (.string ⟨#[]⟩) (.string ⟨#[]⟩) (.int .i64 0))
        clear t0 t1 t2 t3 t4 t5 z0 z1 z2 z3 z4 z5
        refine bodyPost_ret (v := .agg #[.int .i64 3, .int .i64 0, .string (s.extract a (a + g.length)), .string ⟨#[]⟩, .string ⟨#[]⟩, .int .i64 0]) ?_ rfl (HP.out _ (H3.out.below HLT.out hbe) (HB3.out.more (by rw [HTT.out]; exact hbe)))
        generalize tkW W3 T (.int .i64 3) (.int .i64 0) (.string (s.extract a (a + g.length))) (.string ⟨#[]⟩) (.string ⟨#[]⟩) (.int .i64 0) = W4 at *
        simp [results, Tryz.results133, go_sem, r0, r1, r2, r3, r4, r5]
    · exfalso
      have : k = 48 := by omega
      subst this
      have := hw.out
      rw [HSF.out] at this
      cases this

end Go.Proofs.YtaocbhfehncdcaaGreatDoor
