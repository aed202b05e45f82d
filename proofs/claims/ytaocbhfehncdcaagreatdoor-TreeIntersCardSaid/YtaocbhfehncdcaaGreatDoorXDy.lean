/-
  The document's reader: what array leaves, where a `@` stands. Conditions: texts of at most 100000 bytes, rows of at most 900000 parts.
-/
import Derived.Test.YtaocbhfehncdcaaGreatDoorXM28
namespace Go.Proofs.YtaocbhfehncdcaaGreatDoor
open Go.RowKit

set_option maxRecDepth 100000 in
set_option maxHeartbeats 16000000 in
theorem array_any (B R : Nat) (L : List UInt8) (a : Nat) (tx : List UInt8) (ps : List Nd) (tv lv : Value) (w : World) (h : DiAt B R L a tx ps tv lv w) (hB : B ≤ w.heap.size) (hps : ps.length ≤ 900000) (hz : L.length ≤ 100000) (t : List UInt8) (hr : L.drop a = 64 :: t) :
    Calls Tryz.prog 47 #[.pointer (some ⟨R, 0, none⟩)] w (ScQ B R L a tx ps (vrN (64 :: t)) w) := by
  have hlen : L.length = a + 1 + t.length := by
    have h1 := congrArg List.length hr
    rw [List.length_drop, List.length_cons] at h1
    omega
  have hdt : L.drop (a + 1) = t := by
    rw [← List.drop_drop, hr]
    rfl
  have hsz : (bs L).size = L.length := bs_size L
  have HSU : Hid ((bs L).extract (a + 1) (bs L).size = bs t) := by
    show _ = _
    rw [bs_suf L (a + 1) (by omega), hdt]
  have HDR : Hid (∀ n, L.drop (a + (1 + n)) = t.drop n) := fun n => by
    rw [← Nat.add_assoc, ← List.drop_drop, hdt]
  have x0 : IntKind.i64.wrap ((a : Int) + 1) = (a : Int) + 1 := IntWalk.i64_in _ (by omega)
  have x1 : (0 : Int) ≤ (a : Int) + 1 := by omega
  have x2 : (a : Int) + 1 ≤ ((bs L).size : Int) := by omega
  have x3 : a + 1 ≤ (bs L).size := by omega
  have HLEN := Lib.hid hlen
  have HZ := Lib.hid hz
  have HPS := Lib.hid hps
  have HH := Lib.hid h
  have HBW := Lib.hid hB
  have HRW : Hid (R < w.heap.size) := h.lt
  have HLV : Hid (∀ g, lv.ownBlock = some g → g < w.heap.size) := fun g hg => (h.bps.lt hg).2
  obtain ⟨c0, c1, _, _⟩ := h.cells
  have htz : t.length ≤ 100000 := by omega
  have hts : (bs t).size = t.length := bs_size t
  have HBR := Lib.hid (fun w => dbr_any t htz w)
  have HWD := Lib.hid (fun w => word_bs t htz w)
  have hwl := wd_le t
  clear hlen hdt hsz hr h hB hps hz
  cases hbr : brN t with
  | some x =>
    obtain ⟨d, n⟩ := x
    have hnm : nmN t = some (d, n) := nmN_br hbr
    have hn1 := nmN_size hnm
    have HNL : Hid (n ≤ t.length) := hn1.2
    have hn0 := hn1.1
    dsimp only at hn0
    have HF := Lib.hid (sc_some (B := B) (R := R) (L := L) (tx := tx) (ps := ps) (w := w) (a := a) (b := a + (1 + n)) (o := vrN (64 :: t)) (x := leafN 6 d) (k := 1 + n) (by simp only [vrN_64, hnm]) rfl)
    have y0 : ((n : Int) == 0) = false := by rw [beq_eq_false_iff_ne]; omega
    rw [hbr] at HBR
    unfold BrS brV at HBR
    dsimp only at HBR
    clear hbr hnm hn1 hn0 HWD hwl hts htz
    go_enter Tryz.func47, Tryz.ntmps47
    go_wp2
    go_quiet (fail)
    have H1 : Hid (DiAt B R L a tx ps tv lv (w.drewN nq)) := HH.out.below (bl_drewN (Below.refl _ _) _)
    have HB1 : Hid (Below B w (w.drewN nq)) := bl_drewN (Below.refl _ _) _
    have HS1 : Hid (w.heap.size ≤ (w.drewN nq).heap.size) := Nat.le_refl _
    generalize w.drewN nq = W1 at *
    clear c0 c1 x0 x1 x2 x3
    go_upto_region 2 with fail
    rw [HSU.out]
    obtain ⟨_, c1, _, _⟩ := H1.out.cells
    have f1 := H1.out.frozen 1
    go_wp2_with fail
    refine (HBR.out _).mono ?_
    rintro e w' ⟨rfl, rfl⟩
    have y1 : IntKind.i64.wrap (1 + (n : Int)) = 1 + (n : Int) := IntWalk.i64_in _ (by have := HNL.out; have := HLEN.out; have := HZ.out; omega)
    have y2 : IntKind.i64.wrap ((a : Int) + (1 + (n : Int))) = (a : Int) + (1 + (n : Int)) := IntWalk.i64_in _ (by have := HNL.out; have := HLEN.out; have := HZ.out; omega)
    have H2 : Hid (DiAt B R L (a + (1 + n)) tx ps tv lv (W1.setCell ⟨R, 1, none⟩ (.int .i64 ((a : Int) + (1 + (n : Int)))))) := H1.out.setAtI _ _ (by omega)
    have HB2 : Hid (Below B w (W1.setCell ⟨R, 1, none⟩ (.int .i64 ((a : Int) + (1 + (n : Int)))))) := HB1.out.setCell (p := ⟨R, 1, none⟩) H1.out.lo _
    go_wp2_with fail
    generalize W1.setCell _ _ = W2 at *
    have HPT := Lib.hid (put_any B R L (a + (1 + n)) tx ps tv lv W2 H2.out (by have := HB2.out.size; have := HBW.out; have := HRW.out; omega) HPS.out W2.heap.size 6 0 (bs d) ⟨#[]⟩ [] none 0 0 .none (by have := HB2.out.size; have := HBW.out; have := HRW.out; omega) (by have := HB2.out.size; have := HBW.out; have := HRW.out; omega) (fun g hg => by have h9 := HLV.out g hg; have := HB2.out.size; have := HBW.out; have := HRW.out; omega))
    refine HPT.out.mono ?_
    rintro e W9 ⟨rfl, tv', lv', hd9, hb9⟩
    have HB9 : Hid (Below B w W9) := HB2.out.trans hb9
    clear hb9
    go_wp2
    go_ret
    exact HF.out _ _ _ hd9 HB9.out
  | none =>
    rw [hbr] at HBR
    unfold BrS brV at HBR
    dsimp only at HBR
    by_cases hw0 : wd t = 0
    · have hnm : nmN t = none := nmN_no hbr hw0
      rw [hw0] at HWD
      have e00 : (bs t).extract 0 0 = ⟨#[]⟩ := bs_part t 0 0
      have HF := Lib.hid (sc_none (B := B) (R := R) (L := L) (tx := tx) (ps := ps) (w := w) (a := a) (o := vrN (64 :: t)) (by simp only [vrN_64, hnm]))
      clear hbr hw0 hnm hwl hts htz
      go_enter Tryz.func47, Tryz.ntmps47
      go_wp2
      go_quiet (fail)
      have H1 : Hid (DiAt B R L a tx ps tv lv (w.drewN nq)) := HH.out.below (bl_drewN (Below.refl _ _) _)
      have HB1 : Hid (Below B w (w.drewN nq)) := bl_drewN (Below.refl _ _) _
      have HS1 : Hid (w.heap.size ≤ (w.drewN nq).heap.size) := Nat.le_refl _
      generalize w.drewN nq = W1 at *
      clear c0 c1 x0 x1 x2 x3
      go_upto_region 2 with fail
      rw [HSU.out]
      obtain ⟨_, c1, _, _⟩ := H1.out.cells
      have f1 := H1.out.frozen 1
      go_wp2_with fail
      refine (HBR.out _).mono ?_
      rintro e w' ⟨rfl, rfl⟩
      go_wp2_with fail
      refine (HWD.out _).mono ?_
      rintro e w' ⟨rfl, rfl⟩
      go_wp2
      go_ret
      exact HF.out _ _ _ H1.out HB1.out
    · have hnm : nmN t = some (t.take (wd t), wd t) := nmN_wd hbr hw0
      have HEX : Hid ((bs t).extract 0 (wd t) = bs (t.take (wd t))) := bs_part t 0 (wd t)
      have HF := Lib.hid (sc_some (B := B) (R := R) (L := L) (tx := tx) (ps := ps) (w := w) (a := a) (b := a + (1 + wd t)) (o := vrN (64 :: t)) (x := leafN 6 (t.take (wd t))) (k := 1 + wd t) (by simp only [vrN_64, hnm]) rfl)
      have HNL : Hid (wd t ≤ t.length) := hwl
      have y0 : ((wd t : Int) == 0) = false := by rw [beq_eq_false_iff_ne]; omega
      have y6 : (0 : Int) ≤ (wd t : Int) := by omega
      have y7 : (wd t : Int) ≤ ((bs t).size : Int) := by omega
      have y8 : wd t ≤ (bs t).size := by omega
      clear hbr hnm hw0 hwl hts htz
      generalize t.take (wd t) = d at *
      generalize wd t = n at *
      go_enter Tryz.func47, Tryz.ntmps47
      go_wp2
      go_quiet (fail)
      have H1 : Hid (DiAt B R L a tx ps tv lv (w.drewN nq)) := HH.out.below (bl_drewN (Below.refl _ _) _)
      have HB1 : Hid (Below B w (w.drewN nq)) := bl_drewN (Below.refl _ _) _
      have HS1 : Hid (w.heap.size ≤ (w.drewN nq).heap.size) := Nat.le_refl _
      generalize w.drewN nq = W1 at *
      clear c0 c1 x0 x1 x2 x3
      go_upto_region 2 with fail
      rw [HSU.out]
      obtain ⟨_, c1, _, _⟩ := H1.out.cells
      have f1 := H1.out.frozen 1
      go_wp2_with fail
      refine (HBR.out _).mono ?_
      rintro e w' ⟨rfl, rfl⟩
      go_wp2_with fail
      refine (HWD.out _).mono ?_
      rintro e w' ⟨rfl, rfl⟩
      have y1 : IntKind.i64.wrap (1 + (n : Int)) = 1 + (n : Int) := IntWalk.i64_in _ (by have := HNL.out; have := HLEN.out; have := HZ.out; omega)
      have y2 : IntKind.i64.wrap ((a : Int) + (1 + (n : Int))) = (a : Int) + (1 + (n : Int)) := IntWalk.i64_in _ (by have := HNL.out; have := HLEN.out; have := HZ.out; omega)
      have H2 : Hid (DiAt B R L (a + (1 + n)) tx ps tv lv (W1.setCell ⟨R, 1, none⟩ (.int .i64 ((a : Int) + (1 + (n : Int)))))) := H1.out.setAtI _ _ (by omega)
      have HB2 : Hid (Below B w (W1.setCell ⟨R, 1, none⟩ (.int .i64 ((a : Int) + (1 + (n : Int)))))) := HB1.out.setCell (p := ⟨R, 1, none⟩) H1.out.lo _
      go_wp2_with fail
      rw [HEX.out]
      generalize W1.setCell _ _ = W2 at *
      have HPT := Lib.hid (put_any B R L (a + (1 + n)) tx ps tv lv W2 H2.out (by have := HB2.out.size; have := HBW.out; have := HRW.out; omega) HPS.out W2.heap.size 6 0 (bs d) ⟨#[]⟩ [] none 0 0 .none (by have := HB2.out.size; have := HBW.out; have := HRW.out; omega) (by have := HB2.out.size; have := HBW.out; have := HRW.out; omega) (fun g hg => by have h9 := HLV.out g hg; have := HB2.out.size; have := HBW.out; have := HRW.out; omega))
      refine HPT.out.mono ?_
      rintro e W9 ⟨rfl, tv', lv', hd9, hb9⟩
      have HB9 : Hid (Below B w W9) := HB2.out.trans hb9
      clear hb9
      go_wp2
      go_ret
      exact HF.out _ _ _ hd9 HB9.out

end Go.Proofs.YtaocbhfehncdcaaGreatDoor
