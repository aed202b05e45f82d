/-
  The document's reader: what put leaves. Conditions: rows of at most 900000 parts. The place in brackets with which a text begins, as the document reads it. Conditions: texts of at most 100000 bytes. The document's reader: what scalar and array leave, where a `$` or a `@` stands. Conditions: texts of at most 100000 bytes, rows of at most 900000 parts.
-/
import Derived.Test.YtaocbhfehncdcaaGreatDoorXDf
import Derived.Test.YtaocbhfehncdcaaGreatDoorXM26
import Derived.Test.YtaocbhfehncdcaaGreatDoorXM27
namespace Go.Proofs.YtaocbhfehncdcaaGreatDoor
open Go.RowKit

/-- New rows are none of the blocks of the row of parts. -/
theorem far_fz {B E : Nat} {cd ws : World} {l : List Nd} {v v' L : Value} (h : NsAt (Ty E cd) cd l L) (hB : B ≤ E) (hE : ∀ g, v.ownBlock = some g → g < E) (hg : ∀ g, E ≤ g → g < cd.heap.size → some g ≠ v.ownBlock → ws.heap[g]? = cd.heap[g]?) (hat : v'.ownBlock = v.ownBlock ∨ ∃ g, v'.ownBlock = some g ∧ cd.heap.size ≤ g) : NsAt (Fz B v' ws) ws l L := h.move fun g ⟨h1, es, cur, h3⟩ h4 => by
  have hne : some g ≠ v.ownBlock := fun e => by
    have := hE g e.symm
    omega
  have h5 := hg g h1 h4 hne
  refine ⟨h5, Nat.le_trans hB h1, ?_, es, cur, h5.trans h3⟩
  rcases hat with h6 | ⟨g', h6, h7⟩
  · rw [h6]
    exact hne
  · rw [h6]
    intro e
    injection e with e
    omega
theorem ty_alloc {E : Nat} {w : World} {l : List Nd} {L : Value} (h : NsAt (Ty E w) w l L) (o : Obj) : NsAt (Ty E (w.alloc o)) (w.alloc o) l L := h.move fun g ⟨h1, es, cur, h3⟩ h4 => by
  have h5 := Lib.alloc_old w o g h4
  exact ⟨h5, h1, es, cur, h5.trans h3⟩
/-- What put leaves: no text, the parts with it, and the node behind them. -/
def PuQ (B R : Nat) (src : List UInt8) (a : Nat) (tx : List UInt8) (ps : List Nd) (x : Nd) (w : World) (e : Ending) (w' : World) : Prop :=
  e = .returned (.tuple #[]) ∧ ∃ tv' lv', DiAt B R src a [] (flN ps tx ++ [x]) tv' lv' w' ∧ Below B w w'
set_option maxRecDepth 100000 in
set_option maxHeartbeats 8000000 in
theorem put_any (B R : Nat) (src : List UInt8) (a : Nat) (tx : List UInt8) (ps : List Nd) (tv lv : Value) (w : World) (h : DiAt B R src a tx ps tv lv w) (hB : B ≤ w.heap.size) (hl : ps.length ≤ 900000)
    (E : Nat) (o n : Int) (s t : ByteArray) (m : List Nd) (xa : Option Addr) (xk xc : Nat) (hx : NsAt (Ty E w) w m (.slice xa xk xc)) (hBE : B ≤ E) (hRE : R < E) (hlv : ∀ g, lv.ownBlock = some g → g < E) :
    Calls Tryz.prog 71 #[.pointer (some ⟨R, 0, none⟩), .agg #[.int .i64 o, .string s, .string t, .int .i64 n, .slice xa xk xc]] w (PuQ B R src a tx ps (.mk o s t n m) w) := by
  obtain ⟨i0, hi, hz0, hz1, hz2⟩ := info_parts infoR
  have HP : Hid (∀ w', (∃ tv' lv', DiAt B R src a [] (flN ps tx ++ [.mk o s t n m]) tv' lv' w' ∧ Below B w w') → PuQ B R src a tx ps (.mk o s t n m) w (.returned (.tuple #[])) w') := fun w' h => ⟨rfl, h⟩
  have hfl := flN_len ps tx
  have HX1 : Hid (NkAt w.heap.size (.int .i64 o) (.string s) (.string t) (.int .i64 n) (.slice xa xk xc) (w.alloc (.cells #[.int .i64 o, .string s, .string t, .int .i64 n, .slice xa xk xc] 28))) := NkAt.new _ _ _ _ _ _
  have HD1 := Lib.hid (h.alloc (.cells #[.int .i64 o, .string s, .string t, .int .i64 n, .slice xa xk xc] 28))
  have HN1 := Lib.hid (ty_alloc hx (.cells #[.int .i64 o, .string s, .string t, .int .i64 n, .slice xa xk xc] 28))
  have HS1 : Hid ((w.alloc (.cells #[.int .i64 o, .string s, .string t, .int .i64 n, .slice xa xk xc] 28)).heap.size = w.heap.size + 1) := by
    show _ = _
    simp
  have HB1 : Hid (Below B w (w.alloc (.cells #[.int .i64 o, .string s, .string t, .int .i64 n, .slice xa xk xc] 28))) := (Below.refl _ _).alloc hB _
  have HRL := Lib.hid h.lt
  have HLV := Lib.hid hlv
  have HLW : Hid (∀ g, lv.ownBlock = some g → g < w.heap.size) := fun g hg => (h.bps.lt hg).2
  have HFN : Hid ((flN ps tx).length ≤ 900001) := by
    show _ ≤ _
    omega
  clear h hx hlv hfl
  go_enter Tryz.func71, Tryz.ntmps71
  go_wp2_with fail
  generalize w.alloc _ = W1 at *
  generalize hXX : w.heap.size = X at *
  have HXX := Lib.hid hXX
  clear hXX
  refine (flush_any B R src a tx ps tv lv W1 HD1.out (by have := HS1.out; omega) (by omega)).mono ?_
  rintro e W2 ⟨rfl, tv2, lv2, hd2, hb2, hk2, hat2⟩
  have hX2 : NkAt X (.int .i64 o) (.string s) (.string t) (.int .i64 n) (.slice xa xk xc) W2 := (hk2 X HX1.out.lt (by have := HRL.out; omega) (fun e => by have := HLW.out X e.symm; omega)).trans HX1.out
  have hN2 : NsAt (Fz B lv2 W2) W2 m (.slice xa xk xc) := far_fz HN1.out hBE HLV.out (fun g h1 h2 h3 => hk2 g h2 (by omega) h3) hat2
  have HB2 : Hid (Below B w W2) := HB1.out.trans hb2
  have hBW2 : B ≤ W2.heap.size := by
    have := hb2.size
    have := HS1.out
    omega
  obtain ⟨la, lc, rfl, _⟩ := hd2.bps.form
  obtain ⟨xs, hown, hnc⟩ := hd2.bps.ex
  have HD2 := Lib.hid hd2
  have HN2 := Lib.hid hN2
  have HOWN := Lib.hid hown
  have HNC := Lib.hid hnc
  have c3 := hd2.cells.2.2.2
  have d3 := (hd2.alloc (.cells #[.int .i64 0, .string ⟨#[]⟩, .string ⟨#[]⟩, .int .i64 0, .slice none 0 0] 28)).cells.2.2.2
  obtain ⟨k0, k1, k2, k3, k4⟩ := hX2.cells
  obtain ⟨j0, j1, j2, j3, j4⟩ := (hX2.below ((Below.refl _ _).alloc (Nat.le_refl _) (.cells #[.int .i64 0, .string ⟨#[]⟩, .string ⟨#[]⟩, .int .i64 0, .slice none 0 0] 28))).cells
  clear hd2 hN2 hown hnc hX2 hb2 hk2 hat2 HD1 HX1 HN1 HB1 HS1
  have HPQ : Hid (∀ tv' lv' w', DiAt B R src a [] (flN ps tx ++ [.mk o s t n m]) tv' lv' w' → Below B W2 w' → PuQ B R src a tx ps (.mk o s t n m) w (.returned (.tuple #[])) w') := fun tv' lv' w' h1 h2 => HP.out w' ⟨tv', lv', h1, HB2.out.trans h2⟩
  clear HP HB2
  generalize hq : flN ps tx = q at *
  clear hq
  have y0 : (0 : Int) ≤ (q.length : Int) := by omega
  have y1 : (q.length : Int) < (q.length : Int) + 1 := by omega
  have hq9 := HFN.out
  go_wp2
  go_region_law (first
    | (refine step_append_lies _ rfl (.tmp 9) (.tmp 12) 26 rfl B 28 i0 _ 5 72 (by kernel_rfl) hi hz0 hz1 hz2 rfl (by decide) (.slice la q.length lc) q.length xs (by simp [Act.eval, Act.put]) (HOWN.out.alloc _) ⟨W2.heap.size, 0, none⟩ 1 1 [.int .i64 0, .string ⟨#[]⟩, .string ⟨#[]⟩, .int .i64 0, .slice none 0 0] (by simp [Act.eval, Act.put]) rfl (World.news_of_block (Go.MapKept.heap_alloc _ _).1) (cell5 rfl rfl rfl rfl) (by decide) (by unfold maxLen; omega) (by omega) (Nat.le_trans hBW2 (by simp)) _ rfl ?_
       intro g cap w2 ho hg hG hlt
       have hgw : ∀ k, k < W2.heap.size → some k ≠ (Value.slice la q.length lc).ownBlock → w2.heap[k]? = W2.heap[k]? := fun k h1 h2 => (hg.block k (Nat.lt_of_lt_of_le h1 (by simp)) h2).trans (Lib.alloc_old W2 _ k h1)
       have hsw : W2.heap.size ≤ w2.heap.size := Nat.le_trans (by simp) hg.size
       have hGw : (Value.slice la q.length lc).ownBlock = some g ∨ W2.heap.size ≤ g := hG.imp id fun e => by rw [e]; simp
       have hbw : Below B W2 w2 := (((Below.refl B W2).alloc hBW2 _).drew).grown hg (Nat.le_trans hBW2 (by simp)) fun k hk => (HOWN.out.lt k hk).1
       obtain ⟨hne1, hq1, hq2⟩ := psq_of (op := o) (n := n) (s := s) (t := t) HD2.out HOWN.out HNC.out HN2.out hgw hsw hGw hbw hBW2 ho
       unfold rwW at hq1 hq2
       have HQ1 := Lib.hid hq1
       have HQ2 := Lib.hid hq2
       have hblk := (hgw R HD2.out.lt HD2.out.psFar).trans HD2.out.blk
       have e3 : w2.cell? ⟨R, 3, none⟩ = some (.slice la q.length lc) := by rw [Lib.cell_of_heap hblk]; rfl
       have f3 : w2.frozen? ⟨R, 3, none⟩ = false := Lib.frozen_of_heap hblk 3
       have a0 := ho.frozenAt (q.length * 5)
       have a1 := ho.frozenAt (q.length * 5 + 1)
       have a2 := ho.frozenAt (q.length * 5 + 2)
       have a3 := ho.frozenAt (q.length * 5 + 3)
       have a4 := ho.frozenAt (q.length * 5 + 4)
       obtain ⟨b0, b1, b2, b3, b4⟩ := tail_cells ho HOWN.out.1
       have hne2 : g ≠ R := fun e => hne1 e.symm
       clear ho hg hG hlt hgw hsw hGw hbw hblk hq1 hq2))
  all_goals (
    go_end0
    obtain ⟨p1, p2, _⟩ := HQ1.out
    obtain ⟨r1, r2, _⟩ := HQ2.out
    first | with_reducible exact HPQ.out _ _ _ p1 p2 | with_reducible exact HPQ.out _ _ _ r1 r2)

end Go.Proofs.YtaocbhfehncdcaaGreatDoor

namespace Go.Proofs.YtaocbhfehncdcaaGreatDoor
open Go.RowKit

theorem tw_in {p : UInt8 → Bool} : ∀ (r : List UInt8) (k : Nat), k < (r.takeWhile p).length → ∃ h : k < r.length, p r[k] = true
  | [], k, h => by simp at h
  | b :: t, k, h => by
    cases hb : p b
    · simp [hb] at h
    · match k, h with
      | 0, _ => exact ⟨by simp, hb⟩
      | k + 1, h =>
        obtain ⟨h1, h2⟩ := tw_in t k (by simpa [hb] using h)
        exact ⟨by simp only [List.length_cons]; omega, h2⟩
theorem tw_out {p : UInt8 → Bool} : ∀ (r : List UInt8) (h : (r.takeWhile p).length < r.length), p (r[(r.takeWhile p).length]'h) = false
  | [], h => by simp at h
  | b :: t, h => by
    cases hb : p b
    · simp [hb]
    · have h1 : (t.takeWhile p).length < t.length := by simpa [hb] using h
      have h2 := tw_out t h1
      simpa [hb] using h2
theorem tw_take {p : UInt8 → Bool} : ∀ r : List UInt8, r.take (r.takeWhile p).length = r.takeWhile p
  | [] => rfl
  | b :: t => by
    cases hb : p b
    · simp [hb]
    · simp [hb, tw_take t]
theorem byte_neq {b : UInt8} {n : Int} (h : (b.toNat : Int) ≠ n) : ((b.toNat : Int) == n) = false ∧ ((b.toNat : Int) != n) = true := ⟨beq_eq_false_iff_ne.2 h, bne_iff_ne.2 h⟩
set_option maxRecDepth 100000 in
set_option maxHeartbeats 8000000 in
theorem place_num (r : List UInt8) (h2 : 2 ≤ r.length) (hz : r.length ≤ 100000) (h0 : r[0]? ≠ some 36) (w : World) : Calls Tryz.prog 72 #[.string (bs (91 :: r))] w (PlP (plI r) w) := by
  have hsz : (bs (91 :: r)).size = r.length + 1 := bs_size _
  have HPN : Hid (plI r = none → ∀ w', Below w.heap.size w w' → PlP (plI r) w (.returned (.tuple #[.agg #[.int .i64 0, .string ⟨#[]⟩, .string ⟨#[]⟩, .int .i64 0, .slice none 0 0], .int .i64 0])) w') := fun h w' hb => by
    rw [h]
    exact ⟨rfl, hb⟩
  have HPY : Hid (∀ (v : Int) (k : Nat), plI r = some (numN v, k + 2) → ∀ w', Below w.heap.size w w' → PlP (plI r) w (.returned (.tuple #[.agg #[.int .i64 1, .string ⟨#[]⟩, .string ⟨#[]⟩, .int .i64 v, .slice none 0 0], .int .i64 ((k : Int) + 1 + 1)])) w') := fun v k h w' hb => by
    rw [h]
    refine ⟨?_, hb⟩
    simp only [plV, lfV, numN]
    rw [show ((k + 2 : Nat) : Int) = (k : Int) + 1 + 1 by omega]
  have HTI : Hid (∀ k, k < (r.takeWhile dgB).length → ∃ h : k < r.length, dgB r[k] = true) := fun k h => tw_in r k h
  have HTO : Hid (∀ h : (r.takeWhile dgB).length < r.length, dgB (r[(r.takeWhile dgB).length]'h) = false) := fun h => tw_out r h
  have HTK := Lib.hid (tw_take (p := dgB) r)
  have hdl := takeWhile_le (p := dgB) r
  have HNO : Hid (¬ (r[(r.takeWhile dgB).length]? = some 93 ∧ isNu (r.takeWhile dgB) = true) → plI r = none) := fun h => plI_none h h0
  have HYE : Hid (r[(r.takeWhile dgB).length]? = some 93 → isNu (r.takeWhile dgB) = true → plI r = some (numN (nuV 0 (r.takeWhile dgB)), (r.takeWhile dgB).length + 2)) := fun h1 h2 => plI_num h1 h2
  have hpos : 0 < (bs (91 :: r)).size := by omega
  have hpos1 : 1 < (bs (91 :: r)).size := by omega
  have x1 : (3 : Int) ≤ ((bs (91 :: r)).size : Int) := by omega
  obtain ⟨f0, f1⟩ := byte_is (b := (bs (91 :: r))[0]) (n := 91) (by rw [byte_at (91 :: r) 0 (by simp) hpos]; rfl)
  have hb1 : (bs (91 :: r))[1] = r[0] := byte_at (91 :: r) 1 (by simp; omega) hpos1
  obtain ⟨f2, f3⟩ := byte_neq (b := (bs (91 :: r))[1]) (n := 36) (by
    rw [hb1]
    refine byte_off (c := 36) fun h => h0 ?_
    rw [List.getElem?_eq_getElem (by omega), h])
  clear hb1
  have HAT : Hid (∀ k (h : k < r.length) (h2 : k + 1 < (bs (91 :: r)).size), (bs (91 :: r))[k + 1] = r[k]) := fun k h h2 => byte_at (91 :: r) (k + 1) (by simp; omega) h2
  have HEX : Hid (∀ k, (bs (91 :: r)).extract 1 (k + 1) = bs (r.take k)) := fun k => bs_part (91 :: r) 1 (k + 1)
  have HDG := Lib.hid digit4_any
  have HSZ := Lib.hid hsz
  have HZZ : Hid (r.length ≤ 100000) := hz
  clear hsz hz h0
  generalize plI r = o at *
  generalize hS : bs (91 :: r) = s at *
  clear hS
  generalize hD : r.takeWhile dgB = d at *
  have HD := Lib.hid hD
  clear hD
  have HT0 := Lib.hid (NkAt.zero w)
  have HB0 := Lib.hid ((Below.refl w.heap.size w).alloc (Nat.le_refl _) zN)
  unfold zN at HT0 HB0
  go_enter Tryz.func72, Tryz.ntmps72
  go_wp2_with fail
  generalize w.alloc _ = W0 at *
  generalize hTT : w.heap.size = T at *
  have HTT := Lib.hid hTT
  clear hTT
  go_loop [4] (fun n => ∃ k : Nat, k ≤ d.length ∧ n = .int .i64 ((k : Int) + 1)) (fun n => d.length + 1 - (intOf n).toNat)
  case atStart => exact ⟨0, Nat.zero_le _, rfl⟩
  case round =>
    obtain ⟨k, hk, rfl⟩ := hrel
    have hszz := HSZ.out
    have hzz := HZZ.out
    by_cases hlt : k < d.length
    · obtain ⟨hkr, hdg⟩ := HTI.out k hlt
      have hk1 : k + 1 < s.size := by omega
      have hsd : dgB s[k + 1] = true := by rw [HAT.out k hkr hk1]; exact hdg
      have y1 : (k : Int) + 1 < (s.size : Int) := by omega
      have y0 : (0 : Int) ≤ (k : Int) + 1 := by omega
      have y2 : IntKind.i64.wrap ((k : Int) + 1 + 1) = (k : Int) + 1 + 1 := IntWalk.i64_in _ (by omega)
      clear hdg hszz hzz hdl
      go_wp2_with (first | (go_at_call 105; refine (HDG.out _ _).mono ?_; rintro e w' ⟨rfl, rfl⟩))
      go_round
      case rel => exact ⟨k + 1, hlt, by go_num⟩
      case measure => simp [intOf]; omega
    · obtain rfl : k = d.length := by omega
      have y0 : (0 : Int) ≤ (d.length : Int) + 1 := by omega
      by_cases hrl : d.length < r.length
      · have hk1 : d.length + 1 < s.size := by omega
        have y1 : (d.length : Int) + 1 < (s.size : Int) := by omega
        have y3 : (d.length : Int) + 1 ≤ (s.size : Int) := by omega
        have y4 : d.length + 1 ≤ s.size := by omega
        have y5 : (1 : Int) ≤ (d.length : Int) + 1 := by omega
        have y2 : IntKind.i64.wrap ((d.length : Int) + 1 + 1) = (d.length : Int) + 1 + 1 := IntWalk.i64_in _ (by omega)
        have hat := HAT.out d.length hrl hk1
        have hsd : dgB s[d.length + 1] = false := by
          rw [hat]
          exact HTO.out hrl
        by_cases h93 : r[d.length] = 93
        · obtain ⟨g1, g2⟩ := byte_is (b := s[d.length + 1]) (n := 93) (by rw [hat, h93]; rfl)
          have hget : r[d.length]? = some 93 := by rw [List.getElem?_eq_getElem hrl, h93]
          have hex : s.extract 1 (d.length + 1) = bs d := by rw [HEX.out, HTK.out]
          have HIS : Hid (∀ w, Calls Tryz.prog 107 #[.string (s.extract 1 (d.length + 1))] w (BoS (isNu d) w)) := fun w => by
            rw [hex]
            exact isNumber_any d (by omega) w
          cases hnu : isNu d
          · have HZ := Lib.hid (HPN.out (HNO.out (fun h => by rw [hnu] at h; exact absurd h.2 (by simp))))
            rw [hnu] at HIS
            clear hat h93 hget hex hnu hszz hzz hdl hrl
            obtain ⟨u0, u1, u2, u3, u4⟩ := HT0.out.cells
            have z0 := HT0.out.frozen 0
            have z1 := HT0.out.frozen 1
            have z2 := HT0.out.frozen 2
            have z3 := HT0.out.frozen 3
            have z4 := HT0.out.frozen 4
            go_wp2_with (first | (go_at_call 105; refine (HDG.out _ _).mono ?_; rintro e w' ⟨rfl, rfl⟩) | (go_at_call 107; refine (HIS.out _).mono ?_; rintro e w' ⟨rfl, rfl⟩))
            have HR := HT0.out.put (.int .i64 0) (.string ⟨#[]⟩) (.string ⟨#[]⟩) (.int .i64 0) (.slice none 0 0)
            obtain ⟨r0, r1, r2, r3, r4⟩ := HR.cells
            change bodyPost _ _ _ _ _ (ndW W0 T (.int .i64 0) (.string ⟨#[]⟩) (.string ⟨#[]⟩) (.int .i64 0) (.slice none 0 0))
            refine bodyPost_ret (v := .tuple #[.agg #[.int .i64 0, .string ⟨#[]⟩, .string ⟨#[]⟩, .int .i64 0, .slice none 0 0], .int .i64 0]) ?_ rfl ?_
            · generalize ndW W0 T (.int .i64 0) (.string ⟨#[]⟩) (.string ⟨#[]⟩) (.int .i64 0) (.slice none 0 0) = WZ at *
              simp [results, Tryz.results72, go_sem, r0, r1, r2, r3, r4]
            · exact HZ.out _ (HB0.out.trans (ndW_below _ _ _ _ _ _ _))
          · have hall := isNu_all hnu
            have h15 : d.length ≤ 15 := by
              simp only [isNu, Bool.and_eq_true, decide_eq_true_eq] at hnu
              exact hnu.1.2
            have HYY := Lib.hid (HPY.out _ _ (HYE.out hget hnu))
            have HNM : Hid (∀ w, Calls Tryz.prog 108 #[.string (s.extract 1 (d.length + 1))] w (InS (nuV 0 d) w)) := fun w => by
              rw [hex]
              exact number_any d h15 hall w
            rw [hnu] at HIS
            clear hat h93 hget hex hnu hszz hzz hdl hrl hall h15
            generalize nuV 0 d = nv at *
            obtain ⟨u0, u1, u2, u3, u4⟩ := HT0.out.cells
            have z0 := HT0.out.frozen 0
            have z1 := HT0.out.frozen 1
            have z2 := HT0.out.frozen 2
            have z3 := HT0.out.frozen 3
            have z4 := HT0.out.frozen 4
            go_wp2_with (first | (go_at_call 105; refine (HDG.out _ _).mono ?_; rintro e w' ⟨rfl, rfl⟩) | (go_at_call 107; refine (HIS.out _).mono ?_; rintro e w' ⟨rfl, rfl⟩) | (go_at_call 108; refine (HNM.out _).mono ?_; rintro e w' ⟨rfl, rfl⟩))
            have HR := HT0.out.put (.int .i64 1) (.string ⟨#[]⟩) (.string ⟨#[]⟩) (.int .i64 nv) (.slice none 0 0)
            obtain ⟨r0, r1, r2, r3, r4⟩ := HR.cells
            change bodyPost _ _ _ _ _ (ndW W0 T (.int .i64 1) (.string ⟨#[]⟩) (.string ⟨#[]⟩) (.int .i64 nv) (.slice none 0 0))
            refine bodyPost_ret (v := .tuple #[.agg #[.int .i64 1, .string ⟨#[]⟩, .string ⟨#[]⟩, .int .i64 nv, .slice none 0 0], .int .i64 ((d.length : Int) + 1 + 1)]) ?_ rfl ?_
            · generalize ndW W0 T (.int .i64 1) (.string ⟨#[]⟩) (.string ⟨#[]⟩) (.int .i64 nv) (.slice none 0 0) = WZ at *
              simp [results, Tryz.results72, go_sem, r0, r1, r2, r3, r4]
            · exact HYY.out _ (HB0.out.trans (ndW_below _ _ _ _ _ _ _))
        · obtain ⟨g1, g2⟩ := byte_neq (b := s[d.length + 1]) (n := 93) (by
            rw [hat]
            exact byte_off (c := 93) h93)
          have HZ := Lib.hid (HPN.out (HNO.out (fun h => by
            have h1 := h.1
            rw [List.getElem?_eq_getElem hrl] at h1
            exact h93 (Option.some.inj h1))))
          clear hat h93 hszz hzz hdl hrl
          obtain ⟨u0, u1, u2, u3, u4⟩ := HT0.out.cells
          have z0 := HT0.out.frozen 0
          have z1 := HT0.out.frozen 1
          have z2 := HT0.out.frozen 2
          have z3 := HT0.out.frozen 3
          have z4 := HT0.out.frozen 4
          go_wp2_with (first | (go_at_call 105; refine (HDG.out _ _).mono ?_; rintro e w' ⟨rfl, rfl⟩))
          have HR := HT0.out.put (.int .i64 0) (.string ⟨#[]⟩) (.string ⟨#[]⟩) (.int .i64 0) (.slice none 0 0)
          obtain ⟨r0, r1, r2, r3, r4⟩ := HR.cells
          change bodyPost _ _ _ _ _ (ndW W0 T (.int .i64 0) (.string ⟨#[]⟩) (.string ⟨#[]⟩) (.int .i64 0) (.slice none 0 0))
          refine bodyPost_ret (v := .tuple #[.agg #[.int .i64 0, .string ⟨#[]⟩, .string ⟨#[]⟩, .int .i64 0, .slice none 0 0], .int .i64 0]) ?_ rfl ?_
          · generalize ndW W0 T (.int .i64 0) (.string ⟨#[]⟩) (.string ⟨#[]⟩) (.int .i64 0) (.slice none 0 0) = WZ at *
            simp [results, Tryz.results72, go_sem, r0, r1, r2, r3, r4]
          · exact HZ.out _ (HB0.out.trans (ndW_below _ _ _ _ _ _ _))
      · have y1 : (s.size : Int) ≤ (d.length : Int) + 1 := by omega
        have HZ := Lib.hid (HPN.out (HNO.out (fun h => by
          have h1 := (List.getElem?_eq_some_iff.1 h.1).1
          exact hrl h1)))
        clear hszz hzz hdl hrl
        obtain ⟨u0, u1, u2, u3, u4⟩ := HT0.out.cells
        have z0 := HT0.out.frozen 0
        have z1 := HT0.out.frozen 1
        have z2 := HT0.out.frozen 2
        have z3 := HT0.out.frozen 3
        have z4 := HT0.out.frozen 4
        go_wp2
        have HR := HT0.out.put (.int .i64 0) (.string ⟨#[]⟩) (.string ⟨#[]⟩) (.int .i64 0) (.slice none 0 0)
        obtain ⟨r0, r1, r2, r3, r4⟩ := HR.cells
        change bodyPost _ _ _ _ _ (ndW W0 T (.int .i64 0) (.string ⟨#[]⟩) (.string ⟨#[]⟩) (.int .i64 0) (.slice none 0 0))
        refine bodyPost_ret (v := .tuple #[.agg #[.int .i64 0, .string ⟨#[]⟩, .string ⟨#[]⟩, .int .i64 0, .slice none 0 0], .int .i64 0]) ?_ rfl ?_
        · generalize ndW W0 T (.int .i64 0) (.string ⟨#[]⟩) (.string ⟨#[]⟩) (.int .i64 0) (.slice none 0 0) = WZ at *
          simp [results, Tryz.results72, go_sem, r0, r1, r2, r3, r4]
        · exact HZ.out _ (HB0.out.trans (ndW_below _ _ _ _ _ _ _))
set_option maxRecDepth 100000 in
set_option maxHeartbeats 8000000 in
theorem place_var (u : List UInt8) (h2 : 1 ≤ u.length) (hz : u.length ≤ 100000) (w : World) : Calls Tryz.prog 72 #[.string (bs (91 :: 36 :: u))] w (PlP (plI (36 :: u)) w) := by
  have hsz : (bs (91 :: 36 :: u)).size = u.length + 2 := bs_size _
  rw [plI_var]
  have HPN : Hid (¬ (wd u ≠ 0 ∧ u[wd u]? = some 93) → ∀ w', Below w.heap.size w w' → PlP (if wd u ≠ 0 ∧ u[wd u]? = some 93 then some (leafN 5 (u.take (wd u)), wd u + 3) else none) w (.returned (.tuple #[.agg #[.int .i64 0, .string ⟨#[]⟩, .string ⟨#[]⟩, .int .i64 0, .slice none 0 0], .int .i64 0])) w') := fun h w' hb => by
    rw [if_neg h]
    exact ⟨rfl, hb⟩
  have HEX : Hid ((bs (91 :: 36 :: u)).extract 2 (wd u + 2) = bs (u.take (wd u))) := bs_part (91 :: 36 :: u) 2 (wd u + 2)
  have HPY : Hid (wd u ≠ 0 ∧ u[wd u]? = some 93 → ∀ w', Below w.heap.size w w' → PlP (if wd u ≠ 0 ∧ u[wd u]? = some 93 then some (leafN 5 (u.take (wd u)), wd u + 3) else none) w (.returned (.tuple #[.agg #[.int .i64 5, .string ((bs (91 :: 36 :: u)).extract 2 (wd u + 2)), .string ⟨#[]⟩, .int .i64 0, .slice none 0 0], .int .i64 ((wd u : Int) + 3)])) w') := fun h w' hb => by
    rw [if_pos h, HEX.out]
    refine ⟨?_, hb⟩
    simp [plV, lfV, leafN]
  have hpos : 0 < (bs (91 :: 36 :: u)).size := by omega
  have hpos1 : 1 < (bs (91 :: 36 :: u)).size := by omega
  have x1 : (3 : Int) ≤ ((bs (91 :: 36 :: u)).size : Int) := by omega
  have x2 : (2 : Int) ≤ ((bs (91 :: 36 :: u)).size : Int) := by omega
  have x4 : (1 : Int) < ((bs (91 :: 36 :: u)).size : Int) := by omega
  have x3 : 2 ≤ (bs (91 :: 36 :: u)).size := by omega
  obtain ⟨f0, f1⟩ := byte_is (b := (bs (91 :: 36 :: u))[0]) (n := 91) (by rw [byte_at (91 :: 36 :: u) 0 (by simp) hpos]; rfl)
  have hb1 : (bs (91 :: 36 :: u))[1] = 36 := byte_at (91 :: 36 :: u) 1 (by simp) hpos1
  obtain ⟨f2, f3⟩ := byte_is (b := (bs (91 :: 36 :: u))[1]) (n := 36) (by rw [hb1]; rfl)
  obtain ⟨f4, f5⟩ := byte_neq (b := (bs (91 :: 36 :: u))[1]) (n := 93) (by rw [hb1]; decide)
  have hd1 : dgB (bs (91 :: 36 :: u))[1] = false := by rw [hb1]; decide
  have HDG := Lib.hid digit4_any
  have HWD : Hid (∀ w, Calls Tryz.prog 69 #[.string ((bs (91 :: 36 :: u)).extract 2 (bs (91 :: 36 :: u)).size)] w (InS (wd u) w)) := fun w => by
    rw [bs_suf (91 :: 36 :: u) 2 (by simp)]
    exact word_bs u hz w
  have HAT : Hid (∀ k (h : k < u.length) (h2 : k + 2 < (bs (91 :: 36 :: u)).size), (bs (91 :: 36 :: u))[k + 2] = u[k]) := fun k h h2 => byte_at (91 :: 36 :: u) (k + 2) (by simp; omega) h2
  have hwl := wd_le u
  have HSZ := Lib.hid hsz
  have HZZ : Hid (u.length ≤ 100000) := hz
  clear hsz hz hb1
  generalize (if wd u ≠ 0 ∧ u[wd u]? = some 93 then some (leafN 5 (u.take (wd u)), wd u + 3) else none) = o at *
  generalize bs (91 :: 36 :: u) = s at *
  generalize wd u = n at *
  have HT0 := Lib.hid (NkAt.zero w)
  have HB0 := Lib.hid ((Below.refl w.heap.size w).alloc (Nat.le_refl _) zN)
  unfold zN at HT0 HB0
  go_enter Tryz.func72, Tryz.ntmps72
  go_wp2_with fail
  generalize w.alloc _ = W0 at *
  generalize hTT : w.heap.size = T at *
  have HTT := Lib.hid hTT
  clear hTT
  go_loop [4] (fun v => v = .int .i64 1) (fun _ => 0)
  case atStart => rfl
  case round =>
    subst hrel
    have hszz := HSZ.out
    have hzz := HZZ.out
    have y1 : IntKind.i64.wrap ((n : Int) + 3) = (n : Int) + 3 := IntWalk.i64_in _ (by omega)
    have y2 : IntKind.i64.wrap ((n : Int) + 2) = (n : Int) + 2 := IntWalk.i64_in _ (by omega)
    by_cases h0 : n = 0
    · have HZ := Lib.hid (HPN.out fun h => h.1 h0)
      have y0 : ((n : Int) == 0) = true := by rw [h0]; rfl
      clear hszz hzz hwl h0
      obtain ⟨u0, u1, u2, u3, u4⟩ := HT0.out.cells
      have z0 := HT0.out.frozen 0
      have z1 := HT0.out.frozen 1
      have z2 := HT0.out.frozen 2
      have z3 := HT0.out.frozen 3
      have z4 := HT0.out.frozen 4
      go_wp2_with (first | (go_at_call 105; refine (HDG.out _ _).mono ?_; rintro e w' ⟨rfl, rfl⟩) | (go_at_call 69; refine (HWD.out _).mono ?_; rintro e w' ⟨rfl, rfl⟩))
      have HR := HT0.out.put (.int .i64 0) (.string ⟨#[]⟩) (.string ⟨#[]⟩) (.int .i64 0) (.slice none 0 0)
      obtain ⟨r0, r1, r2, r3, r4⟩ := HR.cells
      change bodyPost _ _ _ _ _ (ndW W0 T (.int .i64 0) (.string ⟨#[]⟩) (.string ⟨#[]⟩) (.int .i64 0) (.slice none 0 0))
      refine bodyPost_ret (v := .tuple #[.agg #[.int .i64 0, .string ⟨#[]⟩, .string ⟨#[]⟩, .int .i64 0, .slice none 0 0], .int .i64 0]) ?_ rfl ?_
      · generalize ndW W0 T (.int .i64 0) (.string ⟨#[]⟩) (.string ⟨#[]⟩) (.int .i64 0) (.slice none 0 0) = WZ at *
        simp [results, Tryz.results72, go_sem, r0, r1, r2, r3, r4]
      · exact HZ.out _ (HB0.out.trans (ndW_below _ _ _ _ _ _ _))
    have y0 : ((n : Int) == 0) = false := by rw [beq_eq_false_iff_ne]; omega
    by_cases hl : u.length < n + 1
    · have HZ := Lib.hid (HPN.out fun h => by
        have := (List.getElem?_eq_some_iff.1 h.2).1
        omega)
      have y3 : (s.size : Int) < (n : Int) + 3 := by omega
      clear hszz hzz hwl h0 hl
      obtain ⟨u0, u1, u2, u3, u4⟩ := HT0.out.cells
      have z0 := HT0.out.frozen 0
      have z1 := HT0.out.frozen 1
      have z2 := HT0.out.frozen 2
      have z3 := HT0.out.frozen 3
      have z4 := HT0.out.frozen 4
      go_wp2_with (first | (go_at_call 105; refine (HDG.out _ _).mono ?_; rintro e w' ⟨rfl, rfl⟩) | (go_at_call 69; refine (HWD.out _).mono ?_; rintro e w' ⟨rfl, rfl⟩))
      have HR := HT0.out.put (.int .i64 0) (.string ⟨#[]⟩) (.string ⟨#[]⟩) (.int .i64 0) (.slice none 0 0)
      obtain ⟨r0, r1, r2, r3, r4⟩ := HR.cells
      change bodyPost _ _ _ _ _ (ndW W0 T (.int .i64 0) (.string ⟨#[]⟩) (.string ⟨#[]⟩) (.int .i64 0) (.slice none 0 0))
      refine bodyPost_ret (v := .tuple #[.agg #[.int .i64 0, .string ⟨#[]⟩, .string ⟨#[]⟩, .int .i64 0, .slice none 0 0], .int .i64 0]) ?_ rfl ?_
      · generalize ndW W0 T (.int .i64 0) (.string ⟨#[]⟩) (.string ⟨#[]⟩) (.int .i64 0) (.slice none 0 0) = WZ at *
        simp [results, Tryz.results72, go_sem, r0, r1, r2, r3, r4]
      · exact HZ.out _ (HB0.out.trans (ndW_below _ _ _ _ _ _ _))
    have y3 : (n : Int) + 3 ≤ (s.size : Int) := by omega
    have hnu : n < u.length := by omega
    have y4 : n + 2 < s.size := by omega
    have y5 : (n : Int) + 2 < (s.size : Int) := by omega
    have y6 : (n : Int) + 2 ≤ (s.size : Int) := by omega
    have y7 : n + 2 ≤ s.size := by omega
    have y8 : (0 : Int) ≤ (n : Int) + 2 := by omega
    have y9 : (2 : Int) ≤ (n : Int) + 2 := by omega
    have hat := HAT.out n hnu y4
    by_cases h93 : u[n] = 93
    · obtain ⟨g1, g2⟩ := byte_is (b := s[n + 2]) (n := 93) (by rw [hat, h93]; rfl)
      have HYY := Lib.hid (HPY.out ⟨h0, by rw [List.getElem?_eq_getElem hnu, h93]⟩)
      clear hszz hzz hwl h0 hl hat h93
      obtain ⟨u0, u1, u2, u3, u4⟩ := HT0.out.cells
      have z0 := HT0.out.frozen 0
      have z1 := HT0.out.frozen 1
      have z2 := HT0.out.frozen 2
      have z3 := HT0.out.frozen 3
      have z4 := HT0.out.frozen 4
      go_wp2_with (first | (go_at_call 105; refine (HDG.out _ _).mono ?_; rintro e w' ⟨rfl, rfl⟩) | (go_at_call 69; refine (HWD.out _).mono ?_; rintro e w' ⟨rfl, rfl⟩))
      have HR := HT0.out.put (.int .i64 5) (.string (s.extract 2 (n + 2))) (.string ⟨#[]⟩) (.int .i64 0) (.slice none 0 0)
      obtain ⟨r0, r1, r2, r3, r4⟩ := HR.cells
      change bodyPost _ _ _ _ _ (ndW W0 T (.int .i64 5) (.string (s.extract 2 (n + 2))) (.string ⟨#[]⟩) (.int .i64 0) (.slice none 0 0))
      refine bodyPost_ret (v := .tuple #[.agg #[.int .i64 5, .string (s.extract 2 (n + 2)), .string ⟨#[]⟩, .int .i64 0, .slice none 0 0], .int .i64 ((n : Int) + 3)]) ?_ rfl ?_
      · generalize ndW W0 T (.int .i64 5) (.string (s.extract 2 (n + 2))) (.string ⟨#[]⟩) (.int .i64 0) (.slice none 0 0) = WZ at *
        simp [results, Tryz.results72, go_sem, r0, r1, r2, r3, r4]
      · exact HYY.out _ (HB0.out.trans (ndW_below _ _ _ _ _ _ _))
    · obtain ⟨g1, g2⟩ := byte_neq (b := s[n + 2]) (n := 93) (by
        rw [hat]
        exact byte_off (c := 93) h93)
      have HZ := Lib.hid (HPN.out fun h => by
        have h1 := h.2
        rw [List.getElem?_eq_getElem hnu] at h1
        exact h93 (Option.some.inj h1))
      clear hszz hzz hwl h0 hl hat h93
      obtain ⟨u0, u1, u2, u3, u4⟩ := HT0.out.cells
      have z0 := HT0.out.frozen 0
      have z1 := HT0.out.frozen 1
      have z2 := HT0.out.frozen 2
      have z3 := HT0.out.frozen 3
      have z4 := HT0.out.frozen 4
      go_wp2_with (first | (go_at_call 105; refine (HDG.out _ _).mono ?_; rintro e w' ⟨rfl, rfl⟩) | (go_at_call 69; refine (HWD.out _).mono ?_; rintro e w' ⟨rfl, rfl⟩))
      have HR := HT0.out.put (.int .i64 0) (.string ⟨#[]⟩) (.string ⟨#[]⟩) (.int .i64 0) (.slice none 0 0)
      obtain ⟨r0, r1, r2, r3, r4⟩ := HR.cells
      change bodyPost _ _ _ _ _ (ndW W0 T (.int .i64 0) (.string ⟨#[]⟩) (.string ⟨#[]⟩) (.int .i64 0) (.slice none 0 0))
      refine bodyPost_ret (v := .tuple #[.agg #[.int .i64 0, .string ⟨#[]⟩, .string ⟨#[]⟩, .int .i64 0, .slice none 0 0], .int .i64 0]) ?_ rfl ?_
      · generalize ndW W0 T (.int .i64 0) (.string ⟨#[]⟩) (.string ⟨#[]⟩) (.int .i64 0) (.slice none 0 0) = WZ at *
        simp [results, Tryz.results72, go_sem, r0, r1, r2, r3, r4]
      · exact HZ.out _ (HB0.out.trans (ndW_below _ _ _ _ _ _ _))
set_option maxRecDepth 100000 in
set_option maxHeartbeats 4000000 in
theorem place_any (l : List UInt8) (hz : l.length ≤ 100000) (w : World) : Calls Tryz.prog 72 #[.string (bs l)] w (PlP (plN l) w) := by
  have HPN : Hid (plN l = none → ∀ w', Below w.heap.size w w' → PlP (plN l) w (.returned (.tuple #[.agg #[.int .i64 0, .string ⟨#[]⟩, .string ⟨#[]⟩, .int .i64 0, .slice none 0 0], .int .i64 0])) w') := fun h w' hb => by
    rw [h]
    exact ⟨rfl, hb⟩
  have hsz : (bs l).size = l.length := bs_size _
  by_cases h3 : l.length < 3
  · have x1 : ((bs l).size : Int) < 3 := by omega
    have HZ := Lib.hid (HPN.out (plN_short h3))
    clear hsz hz h3
    generalize plN l = o at *
    generalize bs l = s at *
    have HT0 := Lib.hid (NkAt.zero w)
    have HB0 := Lib.hid ((Below.refl w.heap.size w).alloc (Nat.le_refl _) zN)
    unfold zN at HT0 HB0
    go_enter Tryz.func72, Tryz.ntmps72
    go_upto_region 1 with fail
    generalize w.alloc _ = W0 at *
    generalize hTT : w.heap.size = T at *
    have HTT := Lib.hid hTT
    clear hTT
    obtain ⟨u0, u1, u2, u3, u4⟩ := HT0.out.cells
    have z0 := HT0.out.frozen 0
    have z1 := HT0.out.frozen 1
    have z2 := HT0.out.frozen 2
    have z3 := HT0.out.frozen 3
    have z4 := HT0.out.frozen 4
    go_wp2
    have HR := HT0.out.put (.int .i64 0) (.string ⟨#[]⟩) (.string ⟨#[]⟩) (.int .i64 0) (.slice none 0 0)
    obtain ⟨r0, r1, r2, r3, r4⟩ := HR.cells
    change bodyPost _ _ _ _ _ (ndW W0 T (.int .i64 0) (.string ⟨#[]⟩) (.string ⟨#[]⟩) (.int .i64 0) (.slice none 0 0))
    refine bodyPost_ret (v := .tuple #[.agg #[.int .i64 0, .string ⟨#[]⟩, .string ⟨#[]⟩, .int .i64 0, .slice none 0 0], .int .i64 0]) ?_ rfl ?_
    · generalize ndW W0 T (.int .i64 0) (.string ⟨#[]⟩) (.string ⟨#[]⟩) (.int .i64 0) (.slice none 0 0) = WZ at *
      simp [results, Tryz.results72, go_sem, r0, r1, r2, r3, r4]
    · exact HZ.out _ (HB0.out.trans (ndW_below _ _ _ _ _ _ _))
  obtain ⟨b, r, rfl⟩ : ∃ b r, l = b :: r := by
    match l, h3 with
    | b :: r, _ => exact ⟨b, r, rfl⟩
  have hlr : (b :: r).length = r.length + 1 := rfl
  by_cases hb : b = 91
  · subst hb
    rw [plN_in]
    by_cases h36 : r[0]? = some 36
    · match r, h36 with
      | c :: u, h36 =>
        obtain rfl : c = 36 := by simpa using h36
        simp only [List.length_cons] at h3 hz
        exact place_var u (by omega) (by omega) w
    · exact place_num r (by omega) (by omega) h36 w
  · have hpos : 0 < (bs (b :: r)).size := by omega
    have x1 : (3 : Int) ≤ ((bs (b :: r)).size : Int) := by omega
    obtain ⟨f0, f1⟩ := byte_neq (b := (bs (b :: r))[0]) (n := 91) (by
      rw [byte_at (b :: r) 0 (by simp) hpos]
      exact byte_off (c := 91) hb)
    have HZ := Lib.hid (HPN.out (if_neg hb))
    clear hsz hz h3 hlr hb
    generalize plN (b :: r) = o at *
    generalize bs (b :: r) = s at *
    have HT0 := Lib.hid (NkAt.zero w)
    have HB0 := Lib.hid ((Below.refl w.heap.size w).alloc (Nat.le_refl _) zN)
    unfold zN at HT0 HB0
    go_enter Tryz.func72, Tryz.ntmps72
    go_upto_region 1 with fail
    generalize w.alloc _ = W0 at *
    generalize hTT : w.heap.size = T at *
    have HTT := Lib.hid hTT
    clear hTT
    obtain ⟨u0, u1, u2, u3, u4⟩ := HT0.out.cells
    have z0 := HT0.out.frozen 0
    have z1 := HT0.out.frozen 1
    have z2 := HT0.out.frozen 2
    have z3 := HT0.out.frozen 3
    have z4 := HT0.out.frozen 4
    go_wp2
    have HR := HT0.out.put (.int .i64 0) (.string ⟨#[]⟩) (.string ⟨#[]⟩) (.int .i64 0) (.slice none 0 0)
    obtain ⟨r0, r1, r2, r3, r4⟩ := HR.cells
    change bodyPost _ _ _ _ _ (ndW W0 T (.int .i64 0) (.string ⟨#[]⟩) (.string ⟨#[]⟩) (.int .i64 0) (.slice none 0 0))
    refine bodyPost_ret (v := .tuple #[.agg #[.int .i64 0, .string ⟨#[]⟩, .string ⟨#[]⟩, .int .i64 0, .slice none 0 0], .int .i64 0]) ?_ rfl ?_
    · generalize ndW W0 T (.int .i64 0) (.string ⟨#[]⟩) (.string ⟨#[]⟩) (.int .i64 0) (.slice none 0 0) = WZ at *
      simp [results, Tryz.results72, go_sem, r0, r1, r2, r3, r4]
    · exact HZ.out _ (HB0.out.trans (ndW_below _ _ _ _ _ _ _))

end Go.Proofs.YtaocbhfehncdcaaGreatDoor

namespace Go.Proofs.YtaocbhfehncdcaaGreatDoor
open Go.RowKit

theorem DiAt.setAtI {B R a : Nat} {src tx : List UInt8} {ps : List Nd} {tv lv : Value} {w : World} (h : DiAt B R src a tx ps tv lv w) (b : Nat) (i : Int) (hi : i = (b : Int)) : DiAt B R src b tx ps tv lv (w.setCell ⟨R, 1, none⟩ (.int .i64 i)) := by
  subst hi
  exact h.setAt b
def RsP (l : List UInt8) (w : World) (e : Ending) (w' : World) : Prop := e = .returned (.string (bs l)) ∧ Below w.heap.size w w'
set_option maxRecDepth 100000 in
set_option maxHeartbeats 4000000 in
theorem rest_any (B R : Nat) (L : List UInt8) (a : Nat) (tx : List UInt8) (ps : List Nd) (tv lv : Value) (w : World) (h : DiAt B R L a tx ps tv lv w) (ha : a ≤ L.length) :
    Calls Tryz.prog 73 #[.pointer (some ⟨R, 0, none⟩)] w (RsP (L.drop a) w) := by
  obtain ⟨c0, c1, _, _⟩ := h.cells
  have hsz : (bs L).size = L.length := bs_size L
  have HE := Lib.hid (bs_suf L a ha)
  have x1 : (0 : Int) ≤ (a : Int) := by omega
  have x2 : (a : Int) ≤ ((bs L).size : Int) := by omega
  have x3 : a ≤ (bs L).size := by omega
  clear hsz h ha
  go_enter Tryz.func73, Tryz.ntmps73
  go_wp2
  go_quiet (fail)
  have HB : Hid (Below w.heap.size w (w.drewN nq)) := bl_drewN (Below.refl _ _) _
  generalize w.drewN nq = W1 at *
  go_wp2
  go_ret
  exact ⟨by rw [HE.out]; rfl, HB.out⟩
/-- What scalar and array leave: the place behind the variable, and the variable behind the parts; or nothing of it. -/
def ScQ (B R : Nat) (L : List UInt8) (a : Nat) (tx : List UInt8) (ps : List Nd) (o : Option (Nd × Nat)) (w : World) (e : Ending) (w' : World) : Prop :=
  match o with
  | some x => e = .returned (.bool true) ∧ ∃ tv lv, DiAt B R L (a + x.2) [] (flN ps tx ++ [x.1]) tv lv w' ∧ Below B w w'
  | none => e = .returned (.bool false) ∧ ∃ tv lv, DiAt B R L a tx ps tv lv w' ∧ Below B w w'
theorem sc_some {B R a : Nat} {L tx : List UInt8} {ps : List Nd} {o : Option (Nd × Nat)} {w : World} {x : Nd} {k b : Nat} (h : o = some (x, k)) (hb : b = a + k) : ∀ tv lv w', DiAt B R L b [] (flN ps tx ++ [x]) tv lv w' → Below B w w' → ScQ B R L a tx ps o w (.returned (.bool true)) w' := fun tv lv w' h1 h2 => by
  subst h hb
  exact ⟨rfl, tv, lv, h1, h2⟩
theorem sc_none {B R a : Nat} {L tx : List UInt8} {ps : List Nd} {o : Option (Nd × Nat)} {w : World} (h : o = none) : ∀ tv lv w', DiAt B R L a tx ps tv lv w' → Below B w w' → ScQ B R L a tx ps o w (.returned (.bool false)) w' := fun tv lv w' h1 h2 => by
  subst h
  exact ⟨rfl, tv, lv, h1, h2⟩
theorem two_nodes (W : World) (o1 o2 n1 n2 : Int) (s1 t1 s2 t2 : ByteArray) : NsAt (Ty W.heap.size (W.alloc (.cells #[.int .i64 o1, .string s1, .string t1, .int .i64 n1, .slice none 0 0, .int .i64 o2, .string s2, .string t2, .int .i64 n2, .slice none 0 0] 28))) (W.alloc (.cells #[.int .i64 o1, .string s1, .string t1, .int .i64 n1, .slice none 0 0, .int .i64 o2, .string s2, .string t2, .int .i64 n2, .slice none 0 0] 28)) [.mk o1 s1 t1 n1 [], .mk o2 s2 t2 n2 []] (.slice (some ⟨W.heap.size, 0, none⟩) 2 2) := by
  have hl := (Go.MapKept.heap_alloc W (.cells #[.int .i64 o1, .string s1, .string t1, .int .i64 n1, .slice none 0 0, .int .i64 o2, .string s2, .string t2, .int .i64 n2, .slice none 0 0] 28)).1
  exact .some ⟨Nat.le_refl _, _, _, hl⟩ hl (.cons .none (.cons .none .nil)) rfl (by decide)

end Go.Proofs.YtaocbhfehncdcaaGreatDoor
