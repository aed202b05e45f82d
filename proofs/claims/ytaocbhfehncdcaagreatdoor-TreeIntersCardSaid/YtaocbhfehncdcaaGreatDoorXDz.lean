/-
  The document's reader: what scalar leaves, where a `$` stands. Conditions: texts of at most 100000 bytes, rows of at most 900000 parts.
-/
import Derived.Test.YtaocbhfehncdcaaGreatDoorXM28
namespace Go.Proofs.YtaocbhfehncdcaaGreatDoor
open Go.RowKit

set_option maxRecDepth 100000 in
set_option maxHeartbeats 16000000 in
theorem scalar_any (B R : Nat) (L : List UInt8) (a : Nat) (tx : List UInt8) (ps : List Nd) (tv lv : Value) (w : World) (h : DiAt B R L a tx ps tv lv w) (hB : B ≤ w.heap.size) (hps : ps.length ≤ 900000) (hz : L.length ≤ 100000) (t : List UInt8) (hr : L.drop a = 36 :: t) :
    Calls Tryz.prog 46 #[.pointer (some ⟨R, 0, none⟩)] w (ScQ B R L a tx ps (vrN (36 :: t)) w) := by
  have hlen : L.length = a + 1 + t.length := by
    have h1 := congrArg List.length hr
    rw [List.length_drop, List.length_cons] at h1
    omega
  have hdt : L.drop (a + 1) = t := by
    rw [← List.drop_drop, hr]
    rfl
  have hsz : (bs L).size = L.length := bs_size L
  have HSU : Hid ((bs L).extract (a + 1) (bs L).size = bs t) := by
    show _ = _
    rw [bs_suf L (a + 1) (by omega), hdt]
  have HDR : Hid (∀ n, L.drop (a + (1 + n)) = t.drop n) := fun n => by
    rw [← Nat.add_assoc, ← List.drop_drop, hdt]
  have x0 : IntKind.i64.wrap ((a : Int) + 1) = (a : Int) + 1 := IntWalk.i64_in _ (by omega)
  have x1 : (0 : Int) ≤ (a : Int) + 1 := by omega
  have x2 : (a : Int) + 1 ≤ ((bs L).size : Int) := by omega
  have x3 : a + 1 ≤ (bs L).size := by omega
  have HLEN := Lib.hid hlen
  have HZ := Lib.hid hz
  have HPS := Lib.hid hps
  have HH := Lib.hid h
  have HBW := Lib.hid hB
  have HRW : Hid (R < w.heap.size) := h.lt
  have HLV : Hid (∀ g, lv.ownBlock = some g → g < w.heap.size) := fun g hg => (h.bps.lt hg).2
  obtain ⟨c0, c1, _, _⟩ := h.cells
  have htz : t.length ≤ 100000 := by omega
  have hts : (bs t).size = t.length := bs_size t
  have HBR := Lib.hid (fun w => dbr_any t htz w)
  have HWD := Lib.hid (fun w => word_bs t htz w)
  have hwl := wd_le t
  clear hlen hdt hsz hr h hB hps hz
  cases hbr : brN t with
  | some x =>
    obtain ⟨d, n⟩ := x
    have hnm : nmN t = some (d, n) := nmN_br hbr
    have hn1 := nmN_size hnm
    have HNL : Hid (n ≤ t.length) := hn1.2
    have hn0 := hn1.1
    dsimp only at hn0
    have HV : Hid (vrN (36 :: t) = some (elN d (1 + n) (t.drop n))) := by
      show _ = _
      simp only [vrN_36, hnm]
    have y0 : ((n : Int) == 0) = false := by rw [beq_eq_false_iff_ne]; omega
    rw [hbr] at HBR
    unfold BrS brV at HBR
    dsimp only at HBR
    clear hbr hnm hn1 hn0 HWD
    have HPL0 := Lib.hid (fun w => place_any (t.drop n) (by rw [List.length_drop]; omega) w)
    have HB20 := Lib.hid (fun w => dbr_any (t.drop n) (by rw [List.length_drop]; omega) w)
    cases hpl : plN (t.drop n) with
    | some p =>
      obtain ⟨pn, pk⟩ := p
      obtain ⟨po, pv, px, hpx, hpk⟩ := plN_leaf hpl
      dsimp only at hpx hpk
      subst hpx
      have hple := plN_le hpl
      rw [List.length_drop] at hple
      have HPK : Hid (n + pk ≤ t.length) := by
        show _ ≤ _
        have := HNL.out
        dsimp only at hple
        omega
      have HPP : Hid (0 < pk) := hpk
      have HF := Lib.hid (sc_some (B := B) (R := R) (L := L) (tx := tx) (ps := ps) (w := w) (a := a) (b := a + (1 + n) + pk) (HV.out.trans (show some (elN d (1 + n) (t.drop n)) = some (pairN 8 (leafN 6 d) (.mk po (bs px) ⟨#[]⟩ pv []), 1 + n + pk) by unfold elN; rw [plN_brN hpl, hpl])) (by omega))
      have HPL : Hid (∀ w, Calls Tryz.prog 72 #[.string (bs (L.drop (a + (1 + n))))] w (PlP (some (.mk po (bs px) ⟨#[]⟩ pv [], pk)) w)) := fun w => by
        rw [HDR.out, ← hpl]
        exact HPL0.out w
      unfold PlP plV lfV at HPL
      dsimp only at HPL
      clear hpl hple hpk HPL0 HB20 HV hwl hts htz
      go_enter Tryz.func46, Tryz.ntmps46
      go_wp2
      go_quiet (fail)
      have H1 : Hid (DiAt B R L a tx ps tv lv (w.drewN nq)) := HH.out.below (bl_drewN (Below.refl _ _) _)
      have HB1 : Hid (Below B w (w.drewN nq)) := bl_drewN (Below.refl _ _) _
      have HS1 : Hid (w.heap.size ≤ (w.drewN nq).heap.size) := Nat.le_refl _
      generalize w.drewN nq = W1 at *
      clear c0 c1 x0 x1 x2 x3
      go_upto_region 2 with fail
      rw [HSU.out]
      obtain ⟨_, c1, _, _⟩ := H1.out.cells
      have f1 := H1.out.frozen 1
      go_wp2_with fail
      refine (HBR.out _).mono ?_
      rintro e w' ⟨rfl, rfl⟩
      have y1 : IntKind.i64.wrap (1 + (n : Int)) = 1 + (n : Int) := IntWalk.i64_in _ (by have := HNL.out; have := HLEN.out; have := HZ.out; omega)
      have y2 : IntKind.i64.wrap ((a : Int) + (1 + (n : Int))) = (a : Int) + (1 + (n : Int)) := IntWalk.i64_in _ (by have := HNL.out; have := HLEN.out; have := HZ.out; omega)
      have H2 : Hid (DiAt B R L (a + (1 + n)) tx ps tv lv (W1.setCell ⟨R, 1, none⟩ (.int .i64 ((a : Int) + (1 + (n : Int)))))) := H1.out.setAtI _ _ (by omega)
      have HB2 : Hid (Below B w (W1.setCell ⟨R, 1, none⟩ (.int .i64 ((a : Int) + (1 + (n : Int)))))) := HB1.out.setCell (p := ⟨R, 1, none⟩) H1.out.lo _
      have HS2 : Hid (w.heap.size ≤ (W1.setCell ⟨R, 1, none⟩ (.int .i64 ((a : Int) + (1 + (n : Int))))).heap.size) := HB2.out.size
      go_wp2_with fail
      generalize W1.setCell _ _ = W2 at *
      clear c1 f1 y1 y2
      refine (rest_any B R L (a + (1 + n)) tx ps tv lv W2 H2.out (by have := HNL.out; have := HLEN.out; omega)).mono ?_
      rintro e W3 ⟨rfl, hb3⟩
      have H3 := Lib.hid (H2.out.below hb3)
      have HB3 : Hid (Below B w W3) := HB2.out.trans (hb3.mono (by have := HS2.out; have := HBW.out; omega))
      clear hb3
      go_wp2_with fail
      refine (HPL.out _).mono ?_
      rintro e W4 ⟨rfl, hb4⟩
      have H4 := Lib.hid (H3.out.below hb4)
      have HB4 : Hid (Below B w W4) := HB3.out.trans (hb4.mono (by have := HB3.out.size; have := HBW.out; omega))
      clear hb4
      have H5 := Lib.hid (H4.out.alloc (.cells #[.int .i64 po, .string (bs px), .string ⟨#[]⟩, .int .i64 pv, .slice none 0 0] 28))
      have HX5 : Hid (NkAt W4.heap.size (.int .i64 po) (.string (bs px)) (.string ⟨#[]⟩) (.int .i64 pv) (.slice none 0 0) (W4.alloc (.cells #[.int .i64 po, .string (bs px), .string ⟨#[]⟩, .int .i64 pv, .slice none 0 0] 28))) := NkAt.new _ _ _ _ _ _
      have HB5 : Hid (Below B w (W4.alloc (.cells #[.int .i64 po, .string (bs px), .string ⟨#[]⟩, .int .i64 pv, .slice none 0 0] 28))) := HB4.out.alloc (by have := HB4.out.size; have := HBW.out; omega) _
      have HRX : Hid (R < W4.heap.size) := H4.out.lt
      go_upto_region 14 with fail
      generalize W4.alloc _ = W5 at *
      generalize W4.heap.size = X at *
      have hRX : R ≠ X := Nat.ne_of_lt HRX.out
      have hXR : X ≠ R := fun e => hRX e.symm
      obtain ⟨_, c1, _, _⟩ := H5.out.cells
      have f1 := H5.out.frozen 1
      have y3 : IntKind.i64.wrap ((a : Int) + (1 + (n : Int)) + (pk : Int)) = (a : Int) + (1 + (n : Int)) + (pk : Int) := IntWalk.i64_in _ (by have := HNL.out; have := HPK.out; have := HLEN.out; have := HZ.out; omega)
      have y4 : (0 : Int) < (pk : Int) := by have := HPP.out; omega
      have H6 : Hid (DiAt B R L (a + (1 + n) + pk) tx ps tv lv (W5.setCell ⟨R, 1, none⟩ (.int .i64 ((a : Int) + (1 + (n : Int)) + (pk : Int))))) := H5.out.setAtI _ _ (by omega)
      have HB6 : Hid (Below B w (W5.setCell ⟨R, 1, none⟩ (.int .i64 ((a : Int) + (1 + (n : Int)) + (pk : Int))))) := HB5.out.setCell (p := ⟨R, 1, none⟩) H5.out.lo _
      have HX6 : Hid (NkAt X (.int .i64 po) (.string (bs px)) (.string ⟨#[]⟩) (.int .i64 pv) (.slice none 0 0) (W5.setCell ⟨R, 1, none⟩ (.int .i64 ((a : Int) + (1 + (n : Int)) + (pk : Int))))) := (Below.heap_setCell W5 ⟨R, 1, none⟩ _ X hXR).trans HX5.out
      go_upto_region 16 with fail
      generalize W5.setCell _ _ = W6 at *
      clear c1 f1 y3 y4 hRX hXR
      obtain ⟨k0, k1, k2, k3, k4⟩ := HX6.out.cells
      have HB7 : Hid (Below B w (W6.alloc (.cells #[.int .i64 6, .string (bs d), .string ⟨#[]⟩, .int .i64 0, .slice none 0 0, .int .i64 po, .string (bs px), .string ⟨#[]⟩, .int .i64 pv, .slice none 0 0] 28))) := HB6.out.alloc (by have := HB6.out.size; have := HBW.out; omega) _
      have HPT := Lib.hid (put_any B R L (a + (1 + n) + pk) tx ps tv lv (W6.alloc (.cells #[.int .i64 6, .string (bs d), .string ⟨#[]⟩, .int .i64 0, .slice none 0 0, .int .i64 po, .string (bs px), .string ⟨#[]⟩, .int .i64 pv, .slice none 0 0] 28)) (H6.out.alloc _) (by have := HB6.out.size; have := HBW.out; have := HRW.out; have h8 : (W6.alloc (.cells #[.int .i64 6, .string (bs d), .string ⟨#[]⟩, .int .i64 0, .slice none 0 0, .int .i64 po, .string (bs px), .string ⟨#[]⟩, .int .i64 pv, .slice none 0 0] 28)).heap.size = W6.heap.size + 1 := (by simp); omega) HPS.out W6.heap.size 8 0 ⟨#[]⟩ ⟨#[]⟩ [.mk 6 (bs d) ⟨#[]⟩ 0 [], .mk po (bs px) ⟨#[]⟩ pv []] (some ⟨W6.heap.size, 0, none⟩) 2 2 (two_nodes W6 _ _ _ _ _ _ _ _) (by have := HB6.out.size; have := HBW.out; have := HRW.out; have h8 : (W6.alloc (.cells #[.int .i64 6, .string (bs d), .string ⟨#[]⟩, .int .i64 0, .slice none 0 0, .int .i64 po, .string (bs px), .string ⟨#[]⟩, .int .i64 pv, .slice none 0 0] 28)).heap.size = W6.heap.size + 1 := (by simp); omega) (by have := HB6.out.size; have := HBW.out; have := HRW.out; have h8 : (W6.alloc (.cells #[.int .i64 6, .string (bs d), .string ⟨#[]⟩, .int .i64 0, .slice none 0 0, .int .i64 po, .string (bs px), .string ⟨#[]⟩, .int .i64 pv, .slice none 0 0] 28)).heap.size = W6.heap.size + 1 := (by simp); omega) (fun g hg => by have h9 := HLV.out g hg; have := HB6.out.size; have := HBW.out; have := HRW.out; have h8 : (W6.alloc (.cells #[.int .i64 6, .string (bs d), .string ⟨#[]⟩, .int .i64 0, .slice none 0 0, .int .i64 po, .string (bs px), .string ⟨#[]⟩, .int .i64 pv, .slice none 0 0] 28)).heap.size = W6.heap.size + 1 := (by simp); omega))
      go_wp2_with fail
      generalize W6.alloc _ = W7 at *
      refine HPT.out.mono ?_
      rintro e W9 ⟨rfl, tv', lv', hd9, hb9⟩
      have HB9 : Hid (Below B w W9) := HB7.out.trans hb9
      clear hb9
      go_wp2
      go_ret
      exact HF.out _ _ _ hd9 HB9.out
    | none =>
      have HPL : Hid (∀ w, Calls Tryz.prog 72 #[.string (bs (L.drop (a + (1 + n))))] w (PlP none w)) := fun w => by
        rw [HDR.out, ← hpl]
        exact HPL0.out w
      unfold PlP plV at HPL
      dsimp only at HPL
      cases hb2 : brN (t.drop n) with
      | some p =>
        obtain ⟨px, pk⟩ := p
        have hple := brN_le hb2
        have hpk := brN_pos hb2
        rw [List.length_drop] at hple
        have HPK : Hid (n + pk ≤ t.length) := by
          show _ ≤ _
          have := HNL.out
          dsimp only at hple
          omega
        have HPP : Hid (0 < pk) := hpk
        have HF := Lib.hid (sc_some (B := B) (R := R) (L := L) (tx := tx) (ps := ps) (w := w) (a := a) (b := a + (1 + n) + pk) (HV.out.trans (show some (elN d (1 + n) (t.drop n)) = some (pairN 9 (leafN 7 d) (leafN 2 px), 1 + n + pk) by unfold elN; rw [hb2])) (by omega))
        have HB2R : Hid (∀ w, Calls Tryz.prog 68 #[.string (bs (L.drop (a + (1 + n))))] w (BrS (some (px, pk)) w)) := fun w => by
          rw [HDR.out, ← hb2]
          exact HB20.out w
        unfold BrS brV at HB2R
        dsimp only at HB2R
        clear hpl hb2 hple hpk HPL0 HB20 HV hwl hts htz
        go_enter Tryz.func46, Tryz.ntmps46
        go_wp2
        go_quiet (fail)
        have H1 : Hid (DiAt B R L a tx ps tv lv (w.drewN nq)) := HH.out.below (bl_drewN (Below.refl _ _) _)
        have HB1 : Hid (Below B w (w.drewN nq)) := bl_drewN (Below.refl _ _) _
        have HS1 : Hid (w.heap.size ≤ (w.drewN nq).heap.size) := Nat.le_refl _
        generalize w.drewN nq = W1 at *
        clear c0 c1 x0 x1 x2 x3
        go_upto_region 2 with fail
        rw [HSU.out]
        obtain ⟨_, c1, _, _⟩ := H1.out.cells
        have f1 := H1.out.frozen 1
        go_wp2_with fail
        refine (HBR.out _).mono ?_
        rintro e w' ⟨rfl, rfl⟩
        have y1 : IntKind.i64.wrap (1 + (n : Int)) = 1 + (n : Int) := IntWalk.i64_in _ (by have := HNL.out; have := HLEN.out; have := HZ.out; omega)
        have y2 : IntKind.i64.wrap ((a : Int) + (1 + (n : Int))) = (a : Int) + (1 + (n : Int)) := IntWalk.i64_in _ (by have := HNL.out; have := HLEN.out; have := HZ.out; omega)
        have H2 : Hid (DiAt B R L (a + (1 + n)) tx ps tv lv (W1.setCell ⟨R, 1, none⟩ (.int .i64 ((a : Int) + (1 + (n : Int)))))) := H1.out.setAtI _ _ (by omega)
        have HB2 : Hid (Below B w (W1.setCell ⟨R, 1, none⟩ (.int .i64 ((a : Int) + (1 + (n : Int)))))) := HB1.out.setCell (p := ⟨R, 1, none⟩) H1.out.lo _
        have HS2 : Hid (w.heap.size ≤ (W1.setCell ⟨R, 1, none⟩ (.int .i64 ((a : Int) + (1 + (n : Int))))).heap.size) := HB2.out.size
        go_wp2_with fail
        generalize W1.setCell _ _ = W2 at *
        clear c1 f1 y1 y2
        refine (rest_any B R L (a + (1 + n)) tx ps tv lv W2 H2.out (by have := HNL.out; have := HLEN.out; omega)).mono ?_
        rintro e W3 ⟨rfl, hb3⟩
        have H3 := Lib.hid (H2.out.below hb3)
        have HB3 : Hid (Below B w W3) := HB2.out.trans (hb3.mono (by have := HS2.out; have := HBW.out; omega))
        clear hb3
        go_wp2_with fail
        refine (HPL.out _).mono ?_
        rintro e W4 ⟨rfl, hb4⟩
        have H4 := Lib.hid (H3.out.below hb4)
        have HB4 : Hid (Below B w W4) := HB3.out.trans (hb4.mono (by have := HB3.out.size; have := HBW.out; omega))
        clear hb4
        have H5 := Lib.hid (H4.out.alloc (.cells #[.int .i64 0, .string ⟨#[]⟩, .string ⟨#[]⟩, .int .i64 0, .slice none 0 0] 28))
        have HB5 : Hid (Below B w (W4.alloc (.cells #[.int .i64 0, .string ⟨#[]⟩, .string ⟨#[]⟩, .int .i64 0, .slice none 0 0] 28))) := HB4.out.alloc (by have := HB4.out.size; have := HBW.out; omega) _
        go_wp2_with fail
        generalize W4.alloc _ = W5 at *
        refine (rest_any B R L (a + (1 + n)) tx ps tv lv W5 H5.out (by have := HNL.out; have := HLEN.out; omega)).mono ?_
        rintro e W6 ⟨rfl, hb6⟩
        have H6 := Lib.hid (H5.out.below hb6)
        have HB6 : Hid (Below B w W6) := HB5.out.trans (hb6.mono (by have := HB5.out.size; have := HBW.out; omega))
        clear hb6
        go_wp2_with fail
        refine (HB2R.out _).mono ?_
        rintro e w' ⟨rfl, rfl⟩
        obtain ⟨_, c1, _, _⟩ := H6.out.cells
        have f1 := H6.out.frozen 1
        have y3 : IntKind.i64.wrap ((a : Int) + (1 + (n : Int)) + (pk : Int)) = (a : Int) + (1 + (n : Int)) + (pk : Int) := IntWalk.i64_in _ (by have := HNL.out; have := HPK.out; have := HLEN.out; have := HZ.out; omega)
        have y4 : (0 : Int) < (pk : Int) := by have := HPP.out; omega
        have H7 : Hid (DiAt B R L (a + (1 + n) + pk) tx ps tv lv (W6.setCell ⟨R, 1, none⟩ (.int .i64 ((a : Int) + (1 + (n : Int)) + (pk : Int))))) := H6.out.setAtI _ _ (by omega)
        have HB7 : Hid (Below B w (W6.setCell ⟨R, 1, none⟩ (.int .i64 ((a : Int) + (1 + (n : Int)) + (pk : Int))))) := HB6.out.setCell (p := ⟨R, 1, none⟩) H6.out.lo _
        go_upto_region 21 with fail
        generalize W6.setCell _ _ = W7 at *
        clear c1 f1 y3 y4
        have HB8 : Hid (Below B w (W7.alloc (.cells #[.int .i64 7, .string (bs d), .string ⟨#[]⟩, .int .i64 0, .slice none 0 0, .int .i64 2, .string (bs px), .string ⟨#[]⟩, .int .i64 0, .slice none 0 0] 28))) := HB7.out.alloc (by have := HB7.out.size; have := HBW.out; omega) _
        have HPT := Lib.hid (put_any B R L (a + (1 + n) + pk) tx ps tv lv (W7.alloc (.cells #[.int .i64 7, .string (bs d), .string ⟨#[]⟩, .int .i64 0, .slice none 0 0, .int .i64 2, .string (bs px), .string ⟨#[]⟩, .int .i64 0, .slice none 0 0] 28)) (H7.out.alloc _) (by have := HB7.out.size; have := HBW.out; have := HRW.out; have h8 : (W7.alloc (.cells #[.int .i64 7, .string (bs d), .string ⟨#[]⟩, .int .i64 0, .slice none 0 0, .int .i64 2, .string (bs px), .string ⟨#[]⟩, .int .i64 0, .slice none 0 0] 28)).heap.size = W7.heap.size + 1 := (by simp); omega) HPS.out W7.heap.size 9 0 ⟨#[]⟩ ⟨#[]⟩ [.mk 7 (bs d) ⟨#[]⟩ 0 [], .mk 2 (bs px) ⟨#[]⟩ 0 []] (some ⟨W7.heap.size, 0, none⟩) 2 2 (two_nodes W7 _ _ _ _ _ _ _ _) (by have := HB7.out.size; have := HBW.out; have := HRW.out; have h8 : (W7.alloc (.cells #[.int .i64 7, .string (bs d), .string ⟨#[]⟩, .int .i64 0, .slice none 0 0, .int .i64 2, .string (bs px), .string ⟨#[]⟩, .int .i64 0, .slice none 0 0] 28)).heap.size = W7.heap.size + 1 := (by simp); omega) (by have := HB7.out.size; have := HBW.out; have := HRW.out; have h8 : (W7.alloc (.cells #[.int .i64 7, .string (bs d), .string ⟨#[]⟩, .int .i64 0, .slice none 0 0, .int .i64 2, .string (bs px), .string ⟨#[]⟩, .int .i64 0, .slice none 0 0] 28)).heap.size = W7.heap.size + 1 := (by simp); omega) (fun g hg => by have h9 := HLV.out g hg; have := HB7.out.size; have := HBW.out; have := HRW.out; have h8 : (W7.alloc (.cells #[.int .i64 7, .string (bs d), .string ⟨#[]⟩, .int .i64 0, .slice none 0 0, .int .i64 2, .string (bs px), .string ⟨#[]⟩, .int .i64 0, .slice none 0 0] 28)).heap.size = W7.heap.size + 1 := (by simp); omega))
        go_wp2_with fail
        generalize W7.alloc _ = W8 at *
        refine HPT.out.mono ?_
        rintro e W9 ⟨rfl, tv', lv', hd9, hb9⟩
        have HB9 : Hid (Below B w W9) := HB8.out.trans hb9
        clear hb9
        go_wp2
        go_ret
        exact HF.out _ _ _ hd9 HB9.out
      | none =>
        have HF := Lib.hid (sc_some (B := B) (R := R) (L := L) (tx := tx) (ps := ps) (w := w) (a := a) (b := a + (1 + n)) (HV.out.trans (show some (elN d (1 + n) (t.drop n)) = some (leafN 5 d, 1 + n) by unfold elN; rw [hb2]; dsimp only; rw [hpl])) (by omega))
        have HB2R : Hid (∀ w, Calls Tryz.prog 68 #[.string (bs (L.drop (a + (1 + n))))] w (BrS none w)) := fun w => by
          rw [HDR.out, ← hb2]
          exact HB20.out w
        unfold BrS brV at HB2R
        dsimp only at HB2R
        clear hpl hb2 HPL0 HB20 HV hwl hts htz
        go_enter Tryz.func46, Tryz.ntmps46
        go_wp2
        go_quiet (fail)
        have H1 : Hid (DiAt B R L a tx ps tv lv (w.drewN nq)) := HH.out.below (bl_drewN (Below.refl _ _) _)
        have HB1 : Hid (Below B w (w.drewN nq)) := bl_drewN (Below.refl _ _) _
        have HS1 : Hid (w.heap.size ≤ (w.drewN nq).heap.size) := Nat.le_refl _
        generalize w.drewN nq = W1 at *
        clear c0 c1 x0 x1 x2 x3
        go_upto_region 2 with fail
        rw [HSU.out]
        obtain ⟨_, c1, _, _⟩ := H1.out.cells
        have f1 := H1.out.frozen 1
        go_wp2_with fail
        refine (HBR.out _).mono ?_
        rintro e w' ⟨rfl, rfl⟩
        have y1 : IntKind.i64.wrap (1 + (n : Int)) = 1 + (n : Int) := IntWalk.i64_in _ (by have := HNL.out; have := HLEN.out; have := HZ.out; omega)
        have y2 : IntKind.i64.wrap ((a : Int) + (1 + (n : Int))) = (a : Int) + (1 + (n : Int)) := IntWalk.i64_in _ (by have := HNL.out; have := HLEN.out; have := HZ.out; omega)
        have H2 : Hid (DiAt B R L (a + (1 + n)) tx ps tv lv (W1.setCell ⟨R, 1, none⟩ (.int .i64 ((a : Int) + (1 + (n : Int)))))) := H1.out.setAtI _ _ (by omega)
        have HB2 : Hid (Below B w (W1.setCell ⟨R, 1, none⟩ (.int .i64 ((a : Int) + (1 + (n : Int)))))) := HB1.out.setCell (p := ⟨R, 1, none⟩) H1.out.lo _
        have HS2 : Hid (w.heap.size ≤ (W1.setCell ⟨R, 1, none⟩ (.int .i64 ((a : Int) + (1 + (n : Int))))).heap.size) := HB2.out.size
        go_wp2_with fail
        generalize W1.setCell _ _ = W2 at *
        clear c1 f1 y1 y2
        refine (rest_any B R L (a + (1 + n)) tx ps tv lv W2 H2.out (by have := HNL.out; have := HLEN.out; omega)).mono ?_
        rintro e W3 ⟨rfl, hb3⟩
        have H3 := Lib.hid (H2.out.below hb3)
        have HB3 : Hid (Below B w W3) := HB2.out.trans (hb3.mono (by have := HS2.out; have := HBW.out; omega))
        clear hb3
        go_wp2_with fail
        refine (HPL.out _).mono ?_
        rintro e W4 ⟨rfl, hb4⟩
        have H4 := Lib.hid (H3.out.below hb4)
        have HB4 : Hid (Below B w W4) := HB3.out.trans (hb4.mono (by have := HB3.out.size; have := HBW.out; omega))
        clear hb4
        have H5 := Lib.hid (H4.out.alloc (.cells #[.int .i64 0, .string ⟨#[]⟩, .string ⟨#[]⟩, .int .i64 0, .slice none 0 0] 28))
        have HB5 : Hid (Below B w (W4.alloc (.cells #[.int .i64 0, .string ⟨#[]⟩, .string ⟨#[]⟩, .int .i64 0, .slice none 0 0] 28))) := HB4.out.alloc (by have := HB4.out.size; have := HBW.out; omega) _
        go_wp2_with fail
        generalize W4.alloc _ = W5 at *
        refine (rest_any B R L (a + (1 + n)) tx ps tv lv W5 H5.out (by have := HNL.out; have := HLEN.out; omega)).mono ?_
        rintro e W6 ⟨rfl, hb6⟩
        have H6 := Lib.hid (H5.out.below hb6)
        have HB6 : Hid (Below B w W6) := HB5.out.trans (hb6.mono (by have := HB5.out.size; have := HBW.out; omega))
        clear hb6
        go_wp2_with fail
        refine (HB2R.out _).mono ?_
        rintro e w' ⟨rfl, rfl⟩
        have HPT := Lib.hid (put_any B R L (a + (1 + n)) tx ps tv lv W6 H6.out (by have := HB6.out.size; have := HBW.out; have := HRW.out; omega) HPS.out W6.heap.size 5 0 (bs d) ⟨#[]⟩ [] none 0 0 .none (by have := HB6.out.size; have := HBW.out; have := HRW.out; omega) (by have := HB6.out.size; have := HBW.out; have := HRW.out; omega) (fun g hg => by have h9 := HLV.out g hg; have := HB6.out.size; have := HBW.out; have := HRW.out; omega))
        go_wp2_with fail
        refine HPT.out.mono ?_
        rintro e W9 ⟨rfl, tv', lv', hd9, hb9⟩
        have HB9 : Hid (Below B w W9) := HB6.out.trans hb9
        clear hb9
        go_wp2
        go_ret
        exact HF.out _ _ _ hd9 HB9.out
  | none =>
    rw [hbr] at HBR
    unfold BrS brV at HBR
    dsimp only at HBR
    by_cases hw0 : wd t = 0
    · have hnm : nmN t = none := nmN_no hbr hw0
      rw [hw0] at HWD
      have e00 : (bs t).extract 0 0 = ⟨#[]⟩ := bs_part t 0 0
      cases t with
      | nil =>
        have HF := Lib.hid (sc_none (B := B) (R := R) (L := L) (tx := tx) (ps := ps) (w := w) (a := a) (o := vrN [36]) (by simp only [vrN_36, hnm]))
        have e0 : (bs ([] : List UInt8)).size = 0 := rfl
        clear hbr hw0 hnm hwl hts htz
        go_enter Tryz.func46, Tryz.ntmps46
        go_wp2
        go_quiet (fail)
        have H1 : Hid (DiAt B R L a tx ps tv lv (w.drewN nq)) := HH.out.below (bl_drewN (Below.refl _ _) _)
        have HB1 : Hid (Below B w (w.drewN nq)) := bl_drewN (Below.refl _ _) _
        have HS1 : Hid (w.heap.size ≤ (w.drewN nq).heap.size) := Nat.le_refl _
        generalize w.drewN nq = W1 at *
        clear c0 c1 x0 x1 x2 x3
        go_upto_region 2 with fail
        rw [HSU.out]
        obtain ⟨_, c1, _, _⟩ := H1.out.cells
        have f1 := H1.out.frozen 1
        go_wp2_with fail
        refine (HBR.out _).mono ?_
        rintro e w' ⟨rfl, rfl⟩
        go_wp2_with fail
        refine (HWD.out _).mono ?_
        rintro e w' ⟨rfl, rfl⟩
        go_wp2
        go_ret
        exact HF.out _ _ _ H1.out HB1.out
      | cons c t =>
        have hszc : (bs (c :: t)).size = t.length + 1 := bs_size _
        have y1 : (1 : Int) ≤ ((bs (c :: t)).size : Int) := by omega
        have y2 : (((bs (c :: t)).size : Int) == 0) = false := by rw [beq_eq_false_iff_ne]; omega
        have y3 : 1 ≤ (bs (c :: t)).size := by omega
        have hpart : (bs (c :: t)).extract 0 1 = bs [c] := bs_part (c :: t) 0 1
        have HO : Hid (∀ w, Calls Tryz.prog 70 #[.string ((bs (c :: t)).extract 0 1)] w (BoS (spB c) w)) := fun w => by
          rw [hpart]
          exact spec_any c w
        have HPX := Lib.hid hpart
        cases hsp : spB c
        · have HF := Lib.hid (sc_none (B := B) (R := R) (L := L) (tx := tx) (ps := ps) (w := w) (a := a) (o := vrN (36 :: c :: t)) (by simp [vrN_36, hnm, hsp]))
          rw [hsp] at HO
          clear hbr hw0 hnm hwl hts htz hsp hszc hpart
          go_enter Tryz.func46, Tryz.ntmps46
          go_wp2
          go_quiet (fail)
          have H1 : Hid (DiAt B R L a tx ps tv lv (w.drewN nq)) := HH.out.below (bl_drewN (Below.refl _ _) _)
          have HB1 : Hid (Below B w (w.drewN nq)) := bl_drewN (Below.refl _ _) _
          have HS1 : Hid (w.heap.size ≤ (w.drewN nq).heap.size) := Nat.le_refl _
          generalize w.drewN nq = W1 at *
          clear c0 c1 x0 x1 x2 x3
          go_upto_region 2 with fail
          rw [HSU.out]
          obtain ⟨_, c1, _, _⟩ := H1.out.cells
          have f1 := H1.out.frozen 1
          go_wp2_with fail
          refine (HBR.out _).mono ?_
          rintro e w' ⟨rfl, rfl⟩
          go_wp2_with fail
          refine (HWD.out _).mono ?_
          rintro e w' ⟨rfl, rfl⟩
          go_wp2_with fail
          refine (HO.out _).mono ?_
          rintro e w' ⟨rfl, rfl⟩
          go_wp2
          go_ret
          exact HF.out _ _ _ H1.out HB1.out
        · have HF := Lib.hid (sc_some (B := B) (R := R) (L := L) (tx := tx) (ps := ps) (w := w) (a := a) (b := a + 2) (o := vrN (36 :: c :: t)) (x := leafN 5 [c]) (k := 2) (by simp [vrN_36, hnm, hsp]) rfl)
          rw [hsp] at HO
          clear hbr hw0 hnm hwl hts htz hsp hszc hpart
          go_enter Tryz.func46, Tryz.ntmps46
          go_wp2
          go_quiet (fail)
          have H1 : Hid (DiAt B R L a tx ps tv lv (w.drewN nq)) := HH.out.below (bl_drewN (Below.refl _ _) _)
          have HB1 : Hid (Below B w (w.drewN nq)) := bl_drewN (Below.refl _ _) _
          have HS1 : Hid (w.heap.size ≤ (w.drewN nq).heap.size) := Nat.le_refl _
          generalize w.drewN nq = W1 at *
          clear c0 c1 x0 x1 x2 x3
          go_upto_region 2 with fail
          rw [HSU.out]
          obtain ⟨_, c1, _, _⟩ := H1.out.cells
          have f1 := H1.out.frozen 1
          go_wp2_with fail
          refine (HBR.out _).mono ?_
          rintro e w' ⟨rfl, rfl⟩
          go_wp2_with fail
          refine (HWD.out _).mono ?_
          rintro e w' ⟨rfl, rfl⟩
          go_wp2_with fail
          refine (HO.out _).mono ?_
          rintro e w' ⟨rfl, rfl⟩
          have y5 : IntKind.i64.wrap ((a : Int) + 2) = (a : Int) + 2 := IntWalk.i64_in _ (by have := HLEN.out; have := HZ.out; omega)
          have H2 : Hid (DiAt B R L (a + 2) tx ps tv lv (W1.setCell ⟨R, 1, none⟩ (.int .i64 ((a : Int) + 2)))) := H1.out.setAtI _ _ (by omega)
          have HB2 : Hid (Below B w (W1.setCell ⟨R, 1, none⟩ (.int .i64 ((a : Int) + 2)))) := HB1.out.setCell (p := ⟨R, 1, none⟩) H1.out.lo _
          go_wp2_with fail
          generalize W1.setCell _ _ = W2 at *
          rw [HPX.out]
          have HPT := Lib.hid (put_any B R L (a + 2) tx ps tv lv W2 H2.out (by have := HB2.out.size; have := HBW.out; have := HRW.out; omega) HPS.out W2.heap.size 5 0 (bs [c]) ⟨#[]⟩ [] none 0 0 .none (by have := HB2.out.size; have := HBW.out; have := HRW.out; omega) (by have := HB2.out.size; have := HBW.out; have := HRW.out; omega) (fun g hg => by have h9 := HLV.out g hg; have := HB2.out.size; have := HBW.out; have := HRW.out; omega))
          refine HPT.out.mono ?_
          rintro e W9 ⟨rfl, tv', lv', hd9, hb9⟩
          have HB9 : Hid (Below B w W9) := HB2.out.trans hb9
          clear hb9
          go_wp2
          go_ret
          exact HF.out _ _ _ hd9 HB9.out
    · have hnm : nmN t = some (t.take (wd t), wd t) := nmN_wd hbr hw0
      have HEX : Hid ((bs t).extract 0 (wd t) = bs (t.take (wd t))) := bs_part t 0 (wd t)
      have HV : Hid (vrN (36 :: t) = some (elN (t.take (wd t)) (1 + wd t) (t.drop (wd t)))) := by
        show _ = _
        simp only [vrN_36, hnm]
      have HNL : Hid (wd t ≤ t.length) := hwl
      have y0 : ((wd t : Int) == 0) = false := by rw [beq_eq_false_iff_ne]; omega
      have y6 : (0 : Int) ≤ (wd t : Int) := by omega
      have y7 : (wd t : Int) ≤ ((bs t).size : Int) := by omega
      have y8 : wd t ≤ (bs t).size := by omega
      clear hbr hnm hw0
      generalize t.take (wd t) = d at *
      generalize wd t = n at *
      have HPL0 := Lib.hid (fun w => place_any (t.drop n) (by rw [List.length_drop]; omega) w)
      have HB20 := Lib.hid (fun w => dbr_any (t.drop n) (by rw [List.length_drop]; omega) w)
      cases hpl : plN (t.drop n) with
      | some p =>
        obtain ⟨pn, pk⟩ := p
        obtain ⟨po, pv, px, hpx, hpk⟩ := plN_leaf hpl
        dsimp only at hpx hpk
        subst hpx
        have hple := plN_le hpl
        rw [List.length_drop] at hple
        have HPK : Hid (n + pk ≤ t.length) := by
          show _ ≤ _
          have := HNL.out
          dsimp only at hple
          omega
        have HPP : Hid (0 < pk) := hpk
        have HF := Lib.hid (sc_some (B := B) (R := R) (L := L) (tx := tx) (ps := ps) (w := w) (a := a) (b := a + (1 + n) + pk) (HV.out.trans (show some (elN d (1 + n) (t.drop n)) = some (pairN 8 (leafN 6 d) (.mk po (bs px) ⟨#[]⟩ pv []), 1 + n + pk) by unfold elN; rw [plN_brN hpl, hpl])) (by omega))
        have HPL : Hid (∀ w, Calls Tryz.prog 72 #[.string (bs (L.drop (a + (1 + n))))] w (PlP (some (.mk po (bs px) ⟨#[]⟩ pv [], pk)) w)) := fun w => by
          rw [HDR.out, ← hpl]
          exact HPL0.out w
        unfold PlP plV lfV at HPL
        dsimp only at HPL
        clear hpl hple hpk HPL0 HB20 HV hwl hts htz
        go_enter Tryz.func46, Tryz.ntmps46
        go_wp2
        go_quiet (fail)
        have H1 : Hid (DiAt B R L a tx ps tv lv (w.drewN nq)) := HH.out.below (bl_drewN (Below.refl _ _) _)
        have HB1 : Hid (Below B w (w.drewN nq)) := bl_drewN (Below.refl _ _) _
        have HS1 : Hid (w.heap.size ≤ (w.drewN nq).heap.size) := Nat.le_refl _
        generalize w.drewN nq = W1 at *
        clear c0 c1 x0 x1 x2 x3
        go_upto_region 2 with fail
        rw [HSU.out]
        obtain ⟨_, c1, _, _⟩ := H1.out.cells
        have f1 := H1.out.frozen 1
        go_wp2_with fail
        refine (HBR.out _).mono ?_
        rintro e w' ⟨rfl, rfl⟩
        go_wp2_with fail
        refine (HWD.out _).mono ?_
        rintro e w' ⟨rfl, rfl⟩
        have y1 : IntKind.i64.wrap (1 + (n : Int)) = 1 + (n : Int) := IntWalk.i64_in _ (by have := HNL.out; have := HLEN.out; have := HZ.out; omega)
        have y2 : IntKind.i64.wrap ((a : Int) + (1 + (n : Int))) = (a : Int) + (1 + (n : Int)) := IntWalk.i64_in _ (by have := HNL.out; have := HLEN.out; have := HZ.out; omega)
        have H2 : Hid (DiAt B R L (a + (1 + n)) tx ps tv lv (W1.setCell ⟨R, 1, none⟩ (.int .i64 ((a : Int) + (1 + (n : Int)))))) := H1.out.setAtI _ _ (by omega)
        have HB2 : Hid (Below B w (W1.setCell ⟨R, 1, none⟩ (.int .i64 ((a : Int) + (1 + (n : Int)))))) := HB1.out.setCell (p := ⟨R, 1, none⟩) H1.out.lo _
        have HS2 : Hid (w.heap.size ≤ (W1.setCell ⟨R, 1, none⟩ (.int .i64 ((a : Int) + (1 + (n : Int))))).heap.size) := HB2.out.size
        go_wp2_with fail
        rw [HEX.out]
        generalize W1.setCell _ _ = W2 at *
        clear c1 f1 y1 y2
        refine (rest_any B R L (a + (1 + n)) tx ps tv lv W2 H2.out (by have := HNL.out; have := HLEN.out; omega)).mono ?_
        rintro e W3 ⟨rfl, hb3⟩
        have H3 := Lib.hid (H2.out.below hb3)
        have HB3 : Hid (Below B w W3) := HB2.out.trans (hb3.mono (by have := HS2.out; have := HBW.out; omega))
        clear hb3
        go_wp2_with fail
        refine (HPL.out _).mono ?_
        rintro e W4 ⟨rfl, hb4⟩
        have H4 := Lib.hid (H3.out.below hb4)
        have HB4 : Hid (Below B w W4) := HB3.out.trans (hb4.mono (by have := HB3.out.size; have := HBW.out; omega))
        clear hb4
        have H5 := Lib.hid (H4.out.alloc (.cells #[.int .i64 po, .string (bs px), .string ⟨#[]⟩, .int .i64 pv, .slice none 0 0] 28))
        have HX5 : Hid (NkAt W4.heap.size (.int .i64 po) (.string (bs px)) (.string ⟨#[]⟩) (.int .i64 pv) (.slice none 0 0) (W4.alloc (.cells #[.int .i64 po, .string (bs px), .string ⟨#[]⟩, .int .i64 pv, .slice none 0 0] 28))) := NkAt.new _ _ _ _ _ _
        have HB5 : Hid (Below B w (W4.alloc (.cells #[.int .i64 po, .string (bs px), .string ⟨#[]⟩, .int .i64 pv, .slice none 0 0] 28))) := HB4.out.alloc (by have := HB4.out.size; have := HBW.out; omega) _
        have HRX : Hid (R < W4.heap.size) := H4.out.lt
        go_upto_region 14 with fail
        generalize W4.alloc _ = W5 at *
        generalize W4.heap.size = X at *
        have hRX : R ≠ X := Nat.ne_of_lt HRX.out
        have hXR : X ≠ R := fun e => hRX e.symm
        obtain ⟨_, c1, _, _⟩ := H5.out.cells
        have f1 := H5.out.frozen 1
        have y3 : IntKind.i64.wrap ((a : Int) + (1 + (n : Int)) + (pk : Int)) = (a : Int) + (1 + (n : Int)) + (pk : Int) := IntWalk.i64_in _ (by have := HNL.out; have := HPK.out; have := HLEN.out; have := HZ.out; omega)
        have y4 : (0 : Int) < (pk : Int) := by have := HPP.out; omega
        have H6 : Hid (DiAt B R L (a + (1 + n) + pk) tx ps tv lv (W5.setCell ⟨R, 1, none⟩ (.int .i64 ((a : Int) + (1 + (n : Int)) + (pk : Int))))) := H5.out.setAtI _ _ (by omega)
        have HB6 : Hid (Below B w (W5.setCell ⟨R, 1, none⟩ (.int .i64 ((a : Int) + (1 + (n : Int)) + (pk : Int))))) := HB5.out.setCell (p := ⟨R, 1, none⟩) H5.out.lo _
        have HX6 : Hid (NkAt X (.int .i64 po) (.string (bs px)) (.string ⟨#[]⟩) (.int .i64 pv) (.slice none 0 0) (W5.setCell ⟨R, 1, none⟩ (.int .i64 ((a : Int) + (1 + (n : Int)) + (pk : Int))))) := (Below.heap_setCell W5 ⟨R, 1, none⟩ _ X hXR).trans HX5.out
        go_upto_region 16 with fail
        generalize W5.setCell _ _ = W6 at *
        clear c1 f1 y3 y4 hRX hXR
        obtain ⟨k0, k1, k2, k3, k4⟩ := HX6.out.cells
        have HB7 : Hid (Below B w (W6.alloc (.cells #[.int .i64 6, .string (bs d), .string ⟨#[]⟩, .int .i64 0, .slice none 0 0, .int .i64 po, .string (bs px), .string ⟨#[]⟩, .int .i64 pv, .slice none 0 0] 28))) := HB6.out.alloc (by have := HB6.out.size; have := HBW.out; omega) _
        have HPT := Lib.hid (put_any B R L (a + (1 + n) + pk) tx ps tv lv (W6.alloc (.cells #[.int .i64 6, .string (bs d), .string ⟨#[]⟩, .int .i64 0, .slice none 0 0, .int .i64 po, .string (bs px), .string ⟨#[]⟩, .int .i64 pv, .slice none 0 0] 28)) (H6.out.alloc _) (by have := HB6.out.size; have := HBW.out; have := HRW.out; have h8 : (W6.alloc (.cells #[.int .i64 6, .string (bs d), .string ⟨#[]⟩, .int .i64 0, .slice none 0 0, .int .i64 po, .string (bs px), .string ⟨#[]⟩, .int .i64 pv, .slice none 0 0] 28)).heap.size = W6.heap.size + 1 := (by simp); omega) HPS.out W6.heap.size 8 0 ⟨#[]⟩ ⟨#[]⟩ [.mk 6 (bs d) ⟨#[]⟩ 0 [], .mk po (bs px) ⟨#[]⟩ pv []] (some ⟨W6.heap.size, 0, none⟩) 2 2 (two_nodes W6 _ _ _ _ _ _ _ _) (by have := HB6.out.size; have := HBW.out; have := HRW.out; have h8 : (W6.alloc (.cells #[.int .i64 6, .string (bs d), .string ⟨#[]⟩, .int .i64 0, .slice none 0 0, .int .i64 po, .string (bs px), .string ⟨#[]⟩, .int .i64 pv, .slice none 0 0] 28)).heap.size = W6.heap.size + 1 := (by simp); omega) (by have := HB6.out.size; have := HBW.out; have := HRW.out; have h8 : (W6.alloc (.cells #[.int .i64 6, .string (bs d), .string ⟨#[]⟩, .int .i64 0, .slice none 0 0, .int .i64 po, .string (bs px), .string ⟨#[]⟩, .int .i64 pv, .slice none 0 0] 28)).heap.size = W6.heap.size + 1 := (by simp); omega) (fun g hg => by have h9 := HLV.out g hg; have := HB6.out.size; have := HBW.out; have := HRW.out; have h8 : (W6.alloc (.cells #[.int .i64 6, .string (bs d), .string ⟨#[]⟩, .int .i64 0, .slice none 0 0, .int .i64 po, .string (bs px), .string ⟨#[]⟩, .int .i64 pv, .slice none 0 0] 28)).heap.size = W6.heap.size + 1 := (by simp); omega))
        go_wp2_with fail
        generalize W6.alloc _ = W7 at *
        refine HPT.out.mono ?_
        rintro e W9 ⟨rfl, tv', lv', hd9, hb9⟩
        have HB9 : Hid (Below B w W9) := HB7.out.trans hb9
        clear hb9
        go_wp2
        go_ret
        exact HF.out _ _ _ hd9 HB9.out
      | none =>
        have HPL : Hid (∀ w, Calls Tryz.prog 72 #[.string (bs (L.drop (a + (1 + n))))] w (PlP none w)) := fun w => by
          rw [HDR.out, ← hpl]
          exact HPL0.out w
        unfold PlP plV at HPL
        dsimp only at HPL
        cases hb2 : brN (t.drop n) with
        | some p =>
          obtain ⟨px, pk⟩ := p
          have hple := brN_le hb2
          have hpk := brN_pos hb2
          rw [List.length_drop] at hple
          have HPK : Hid (n + pk ≤ t.length) := by
            show _ ≤ _
            have := HNL.out
            dsimp only at hple
            omega
          have HPP : Hid (0 < pk) := hpk
          have HF := Lib.hid (sc_some (B := B) (R := R) (L := L) (tx := tx) (ps := ps) (w := w) (a := a) (b := a + (1 + n) + pk) (HV.out.trans (show some (elN d (1 + n) (t.drop n)) = some (pairN 9 (leafN 7 d) (leafN 2 px), 1 + n + pk) by unfold elN; rw [hb2])) (by omega))
          have HB2R : Hid (∀ w, Calls Tryz.prog 68 #[.string (bs (L.drop (a + (1 + n))))] w (BrS (some (px, pk)) w)) := fun w => by
            rw [HDR.out, ← hb2]
            exact HB20.out w
          unfold BrS brV at HB2R
          dsimp only at HB2R
          clear hpl hb2 hple hpk HPL0 HB20 HV hwl hts htz
          go_enter Tryz.func46, Tryz.ntmps46
          go_wp2
          go_quiet (fail)
          have H1 : Hid (DiAt B R L a tx ps tv lv (w.drewN nq)) := HH.out.below (bl_drewN (Below.refl _ _) _)
          have HB1 : Hid (Below B w (w.drewN nq)) := bl_drewN (Below.refl _ _) _
          have HS1 : Hid (w.heap.size ≤ (w.drewN nq).heap.size) := Nat.le_refl _
          generalize w.drewN nq = W1 at *
          clear c0 c1 x0 x1 x2 x3
          go_upto_region 2 with fail
          rw [HSU.out]
          obtain ⟨_, c1, _, _⟩ := H1.out.cells
          have f1 := H1.out.frozen 1
          go_wp2_with fail
          refine (HBR.out _).mono ?_
          rintro e w' ⟨rfl, rfl⟩
          go_wp2_with fail
          refine (HWD.out _).mono ?_
          rintro e w' ⟨rfl, rfl⟩
          have y1 : IntKind.i64.wrap (1 + (n : Int)) = 1 + (n : Int) := IntWalk.i64_in _ (by have := HNL.out; have := HLEN.out; have := HZ.out; omega)
          have y2 : IntKind.i64.wrap ((a : Int) + (1 + (n : Int))) = (a : Int) + (1 + (n : Int)) := IntWalk.i64_in _ (by have := HNL.out; have := HLEN.out; have := HZ.out; omega)
          have H2 : Hid (DiAt B R L (a + (1 + n)) tx ps tv lv (W1.setCell ⟨R, 1, none⟩ (.int .i64 ((a : Int) + (1 + (n : Int)))))) := H1.out.setAtI _ _ (by omega)
          have HB2 : Hid (Below B w (W1.setCell ⟨R, 1, none⟩ (.int .i64 ((a : Int) + (1 + (n : Int)))))) := HB1.out.setCell (p := ⟨R, 1, none⟩) H1.out.lo _
          have HS2 : Hid (w.heap.size ≤ (W1.setCell ⟨R, 1, none⟩ (.int .i64 ((a : Int) + (1 + (n : Int))))).heap.size) := HB2.out.size
          go_wp2_with fail
          rw [HEX.out]
          generalize W1.setCell _ _ = W2 at *
          clear c1 f1 y1 y2
          refine (rest_any B R L (a + (1 + n)) tx ps tv lv W2 H2.out (by have := HNL.out; have := HLEN.out; omega)).mono ?_
          rintro e W3 ⟨rfl, hb3⟩
          have H3 := Lib.hid (H2.out.below hb3)
          have HB3 : Hid (Below B w W3) := HB2.out.trans (hb3.mono (by have := HS2.out; have := HBW.out; omega))
          clear hb3
          go_wp2_with fail
          refine (HPL.out _).mono ?_
          rintro e W4 ⟨rfl, hb4⟩
          have H4 := Lib.hid (H3.out.below hb4)
          have HB4 : Hid (Below B w W4) := HB3.out.trans (hb4.mono (by have := HB3.out.size; have := HBW.out; omega))
          clear hb4
          have H5 := Lib.hid (H4.out.alloc (.cells #[.int .i64 0, .string ⟨#[]⟩, .string ⟨#[]⟩, .int .i64 0, .slice none 0 0] 28))
          have HB5 : Hid (Below B w (W4.alloc (.cells #[.int .i64 0, .string ⟨#[]⟩, .string ⟨#[]⟩, .int .i64 0, .slice none 0 0] 28))) := HB4.out.alloc (by have := HB4.out.size; have := HBW.out; omega) _
          go_wp2_with fail
          generalize W4.alloc _ = W5 at *
          refine (rest_any B R L (a + (1 + n)) tx ps tv lv W5 H5.out (by have := HNL.out; have := HLEN.out; omega)).mono ?_
          rintro e W6 ⟨rfl, hb6⟩
          have H6 := Lib.hid (H5.out.below hb6)
          have HB6 : Hid (Below B w W6) := HB5.out.trans (hb6.mono (by have := HB5.out.size; have := HBW.out; omega))
          clear hb6
          go_wp2_with fail
          refine (HB2R.out _).mono ?_
          rintro e w' ⟨rfl, rfl⟩
          obtain ⟨_, c1, _, _⟩ := H6.out.cells
          have f1 := H6.out.frozen 1
          have y3 : IntKind.i64.wrap ((a : Int) + (1 + (n : Int)) + (pk : Int)) = (a : Int) + (1 + (n : Int)) + (pk : Int) := IntWalk.i64_in _ (by have := HNL.out; have := HPK.out; have := HLEN.out; have := HZ.out; omega)
          have y4 : (0 : Int) < (pk : Int) := by have := HPP.out; omega
          have H7 : Hid (DiAt B R L (a + (1 + n) + pk) tx ps tv lv (W6.setCell ⟨R, 1, none⟩ (.int .i64 ((a : Int) + (1 + (n : Int)) + (pk : Int))))) := H6.out.setAtI _ _ (by omega)
          have HB7 : Hid (Below B w (W6.setCell ⟨R, 1, none⟩ (.int .i64 ((a : Int) + (1 + (n : Int)) + (pk : Int))))) := HB6.out.setCell (p := ⟨R, 1, none⟩) H6.out.lo _
          go_upto_region 21 with fail
          generalize W6.setCell _ _ = W7 at *
          clear c1 f1 y3 y4
          have HB8 : Hid (Below B w (W7.alloc (.cells #[.int .i64 7, .string (bs d), .string ⟨#[]⟩, .int .i64 0, .slice none 0 0, .int .i64 2, .string (bs px), .string ⟨#[]⟩, .int .i64 0, .slice none 0 0] 28))) := HB7.out.alloc (by have := HB7.out.size; have := HBW.out; omega) _
          have HPT := Lib.hid (put_any B R L (a + (1 + n) + pk) tx ps tv lv (W7.alloc (.cells #[.int .i64 7, .string (bs d), .string ⟨#[]⟩, .int .i64 0, .slice none 0 0, .int .i64 2, .string (bs px), .string ⟨#[]⟩, .int .i64 0, .slice none 0 0] 28)) (H7.out.alloc _) (by have := HB7.out.size; have := HBW.out; have := HRW.out; have h8 : (W7.alloc (.cells #[.int .i64 7, .string (bs d), .string ⟨#[]⟩, .int .i64 0, .slice none 0 0, .int .i64 2, .string (bs px), .string ⟨#[]⟩, .int .i64 0, .slice none 0 0] 28)).heap.size = W7.heap.size + 1 := (by simp); omega) HPS.out W7.heap.size 9 0 ⟨#[]⟩ ⟨#[]⟩ [.mk 7 (bs d) ⟨#[]⟩ 0 [], .mk 2 (bs px) ⟨#[]⟩ 0 []] (some ⟨W7.heap.size, 0, none⟩) 2 2 (two_nodes W7 _ _ _ _ _ _ _ _) (by have := HB7.out.size; have := HBW.out; have := HRW.out; have h8 : (W7.alloc (.cells #[.int .i64 7, .string (bs d), .string ⟨#[]⟩, .int .i64 0, .slice none 0 0, .int .i64 2, .string (bs px), .string ⟨#[]⟩, .int .i64 0, .slice none 0 0] 28)).heap.size = W7.heap.size + 1 := (by simp); omega) (by have := HB7.out.size; have := HBW.out; have := HRW.out; have h8 : (W7.alloc (.cells #[.int .i64 7, .string (bs d), .string ⟨#[]⟩, .int .i64 0, .slice none 0 0, .int .i64 2, .string (bs px), .string ⟨#[]⟩, .int .i64 0, .slice none 0 0] 28)).heap.size = W7.heap.size + 1 := (by simp); omega) (fun g hg => by have h9 := HLV.out g hg; have := HB7.out.size; have := HBW.out; have := HRW.out; have h8 : (W7.alloc (.cells #[.int .i64 7, .string (bs d), .string ⟨#[]⟩, .int .i64 0, .slice none 0 0, .int .i64 2, .string (bs px), .string ⟨#[]⟩, .int .i64 0, .slice none 0 0] 28)).heap.size = W7.heap.size + 1 := (by simp); omega))
          go_wp2_with fail
          generalize W7.alloc _ = W8 at *
          refine HPT.out.mono ?_
          rintro e W9 ⟨rfl, tv', lv', hd9, hb9⟩
          have HB9 : Hid (Below B w W9) := HB8.out.trans hb9
          clear hb9
          go_wp2
          go_ret
          exact HF.out _ _ _ hd9 HB9.out
        | none =>
          have HF := Lib.hid (sc_some (B := B) (R := R) (L := L) (tx := tx) (ps := ps) (w := w) (a := a) (b := a + (1 + n)) (HV.out.trans (show some (elN d (1 + n) (t.drop n)) = some (leafN 5 d, 1 + n) by unfold elN; rw [hb2]; dsimp only; rw [hpl])) (by omega))
          have HB2R : Hid (∀ w, Calls Tryz.prog 68 #[.string (bs (L.drop (a + (1 + n))))] w (BrS none w)) := fun w => by
            rw [HDR.out, ← hb2]
            exact HB20.out w
          unfold BrS brV at HB2R
          dsimp only at HB2R
          clear hpl hb2 HPL0 HB20 HV hwl hts htz
          go_enter Tryz.func46, Tryz.ntmps46
          go_wp2
          go_quiet (fail)
          have H1 : Hid (DiAt B R L a tx ps tv lv (w.drewN nq)) := HH.out.below (bl_drewN (Below.refl _ _) _)
          have HB1 : Hid (Below B w (w.drewN nq)) := bl_drewN (Below.refl _ _) _
          have HS1 : Hid (w.heap.size ≤ (w.drewN nq).heap.size) := Nat.le_refl _
          generalize w.drewN nq = W1 at *
          clear c0 c1 x0 x1 x2 x3
          go_upto_region 2 with fail
          rw [HSU.out]
          obtain ⟨_, c1, _, _⟩ := H1.out.cells
          have f1 := H1.out.frozen 1
          go_wp2_with fail
          refine (HBR.out _).mono ?_
          rintro e w' ⟨rfl, rfl⟩
          go_wp2_with fail
          refine (HWD.out _).mono ?_
          rintro e w' ⟨rfl, rfl⟩
          have y1 : IntKind.i64.wrap (1 + (n : Int)) = 1 + (n : Int) := IntWalk.i64_in _ (by have := HNL.out; have := HLEN.out; have := HZ.out; omega)
          have y2 : IntKind.i64.wrap ((a : Int) + (1 + (n : Int))) = (a : Int) + (1 + (n : Int)) := IntWalk.i64_in _ (by have := HNL.out; have := HLEN.out; have := HZ.out; omega)
          have H2 : Hid (DiAt B R L (a + (1 + n)) tx ps tv lv (W1.setCell ⟨R, 1, none⟩ (.int .i64 ((a : Int) + (1 + (n : Int)))))) := H1.out.setAtI _ _ (by omega)
          have HB2 : Hid (Below B w (W1.setCell ⟨R, 1, none⟩ (.int .i64 ((a : Int) + (1 + (n : Int)))))) := HB1.out.setCell (p := ⟨R, 1, none⟩) H1.out.lo _
          have HS2 : Hid (w.heap.size ≤ (W1.setCell ⟨R, 1, none⟩ (.int .i64 ((a : Int) + (1 + (n : Int))))).heap.size) := HB2.out.size
          go_wp2_with fail
          rw [HEX.out]
          generalize W1.setCell _ _ = W2 at *
          clear c1 f1 y1 y2
          refine (rest_any B R L (a + (1 + n)) tx ps tv lv W2 H2.out (by have := HNL.out; have := HLEN.out; omega)).mono ?_
          rintro e W3 ⟨rfl, hb3⟩
          have H3 := Lib.hid (H2.out.below hb3)
          have HB3 : Hid (Below B w W3) := HB2.out.trans (hb3.mono (by have := HS2.out; have := HBW.out; omega))
          clear hb3
          go_wp2_with fail
          refine (HPL.out _).mono ?_
          rintro e W4 ⟨rfl, hb4⟩
          have H4 := Lib.hid (H3.out.below hb4)
          have HB4 : Hid (Below B w W4) := HB3.out.trans (hb4.mono (by have := HB3.out.size; have := HBW.out; omega))
          clear hb4
          have H5 := Lib.hid (H4.out.alloc (.cells #[.int .i64 0, .string ⟨#[]⟩, .string ⟨#[]⟩, .int .i64 0, .slice none 0 0] 28))
          have HB5 : Hid (Below B w (W4.alloc (.cells #[.int .i64 0, .string ⟨#[]⟩, .string ⟨#[]⟩, .int .i64 0, .slice none 0 0] 28))) := HB4.out.alloc (by have := HB4.out.size; have := HBW.out; omega) _
          go_wp2_with fail
          generalize W4.alloc _ = W5 at *
          refine (rest_any B R L (a + (1 + n)) tx ps tv lv W5 H5.out (by have := HNL.out; have := HLEN.out; omega)).mono ?_
          rintro e W6 ⟨rfl, hb6⟩
          have H6 := Lib.hid (H5.out.below hb6)
          have HB6 : Hid (Below B w W6) := HB5.out.trans (hb6.mono (by have := HB5.out.size; have := HBW.out; omega))
          clear hb6
          go_wp2_with fail
          refine (HB2R.out _).mono ?_
          rintro e w' ⟨rfl, rfl⟩
          have HPT := Lib.hid (put_any B R L (a + (1 + n)) tx ps tv lv W6 H6.out (by have := HB6.out.size; have := HBW.out; have := HRW.out; omega) HPS.out W6.heap.size 5 0 (bs d) ⟨#[]⟩ [] none 0 0 .none (by have := HB6.out.size; have := HBW.out; have := HRW.out; omega) (by have := HB6.out.size; have := HBW.out; have := HRW.out; omega) (fun g hg => by have h9 := HLV.out g hg; have := HB6.out.size; have := HBW.out; have := HRW.out; omega))
          go_wp2_with fail
          refine HPT.out.mono ?_
          rintro e W9 ⟨rfl, tv', lv', hd9, hb9⟩
          have HB9 : Hid (Below B w W9) := HB6.out.trans hb9
          clear hb9
          go_wp2
          go_ret
          exact HF.out _ _ _ hd9 HB9.out
end Go.Proofs.YtaocbhfehncdcaaGreatDoor
