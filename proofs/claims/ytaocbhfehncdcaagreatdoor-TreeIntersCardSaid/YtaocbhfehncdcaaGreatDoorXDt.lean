/-
  The node of a text with interpolation, as the document reads it. Conditions: texts of at most 20000 bytes.
-/
import Derived.Test.YtaocbhfehncdcaaGreatDoorXDv
import Derived.Test.YtaocbhfehncdcaaGreatDoorXDy
import Derived.Test.YtaocbhfehncdcaaGreatDoorXDz
namespace Go.Proofs.YtaocbhfehncdcaaGreatDoor
open Go.RowKit

def atD (R : Nat) (w : World) : Nat := match w.cell? ⟨R, 1, none⟩ with
  | some (.int _ n) => n.toNat
  | _ => 0
theorem DiAt.pos {B R a : Nat} {src tx : List UInt8} {ps : List Nd} {tv lv : Value} {w : World} (h : DiAt B R src a tx ps tv lv w) : atD R w = a := by
  unfold atD
  rw [h.cells.2.1]
  simp
theorem vrN_oth {b : UInt8} {r : List UInt8} (h1 : b ≠ 64) (h2 : b ≠ 36) : vrN (b :: r) = none := by
  unfold vrN
  simp only [if_neg h1, if_neg h2]
theorem pcN_plain {b : UInt8} {r : List UInt8} (h : b ≠ 92) : pcN (b :: r) = ([b], 1) := by
  match r with
  | [] => rfl
  | c :: r => exact pcN_oth h c r
/-- The first part of a row, cell by cell. -/
theorem first_part {B g n cap : Nat} {w : World} {p : Nd} {q : List Nd} (h : Rws B (.slice (some ⟨g, 0, none⟩) n cap) (p :: q) w) : ∃ (o k : Int) (s t : ByteArray) (m : List Nd) (a : Option Addr) (j c : Nat), p = .mk o s t k m ∧ NsAt (Ty B w) w m (.slice a j c) ∧ w.cell? ⟨g, 0, none⟩ = some (.int .i64 o) ∧ w.cell? ⟨g, 1, none⟩ = some (.string s) ∧ w.cell? ⟨g, 2, none⟩ = some (.string t) ∧ w.cell? ⟨g, 3, none⟩ = some (.int .i64 k) ∧ w.cell? ⟨g, 4, none⟩ = some (.slice a j c) := by
  obtain ⟨xs, hown, hnc⟩ := h.ex
  obtain ⟨a', c', hf, _⟩ := h.form
  injection hf with _ hn _
  subst hn
  have hc := fun j (hj : j < 5) => hown.cellAt j (by simp only [List.length_cons]; omega)
  cases hnc with
  | @cons o s t k m L q cs hL hr =>
    obtain ⟨a, j, c, rfl⟩ := hL.val
    refine ⟨o, k, s, t, m, a, j, c, rfl, hL.move fun g ⟨h1, _, h3⟩ _ => ⟨rfl, h1, h3⟩, ?_, ?_, ?_, ?_, ?_⟩
    · exact (hc 0 (by omega)).trans rfl
    · exact (hc 1 (by omega)).trans rfl
    · exact (hc 2 (by omega)).trans rfl
    · exact (hc 3 (by omega)).trans rfl
    · exact (hc 4 (by omega)).trans rfl
set_option maxRecDepth 100000 in
set_option maxHeartbeats 16000000 in
theorem interpolated_any (L : List UInt8) (hz : L.length ≤ 20000) (w : World) : Calls Tryz.prog 28 #[.string (bs L)] w (InP (itN L) w) := by
  obtain ⟨i0, hi, hz0, hz1, hz2⟩ := info_parts infoB
  have HZ : Hid (L.length ≤ 20000) := hz
  have hsz : (bs L).size = L.length := bs_size L
  have hs0 : (w.alloc zN).heap.size = w.heap.size + 1 := by simp
  have HT1 : Hid (NkAt w.heap.size (.int .i64 0) (.string ⟨#[]⟩) (.string ⟨#[]⟩) (.int .i64 0) (.slice none 0 0) ((w.alloc zN).alloc (.cells #[.string (bs L), .int .i64 0, .slice none 0 0, .slice none 0 0] 67))) := (NkAt.zero w).below ((Below.refl _ _).alloc (Nat.le_refl _) _)
  have HD1 : Hid (DiAt (w.heap.size + 1) (w.heap.size + 1) L 0 [] [] (.slice none 0 0) (.slice none 0 0) ((w.alloc zN).alloc (.cells #[.string (bs L), .int .i64 0, .slice none 0 0, .slice none 0 0] 67))) := by
    refine ⟨Nat.le_refl _, ?_, World.ownsRow_nil _ _ _ _, Rws.empty _ _⟩
    have := (Go.MapKept.heap_alloc (w.alloc zN) (.cells #[.string (bs L), .int .i64 0, .slice none 0 0, .slice none 0 0] 67)).1
    rw [hs0] at this
    exact this
  have HBW : Hid (Below w.heap.size w ((w.alloc zN).alloc (.cells #[.string (bs L), .int .i64 0, .slice none 0 0, .slice none 0 0] 67))) := ((Below.refl _ _).alloc (Nat.le_refl _) _).alloc (by omega) _
  have HS1 : Hid (((w.alloc zN).alloc (.cells #[.string (bs L), .int .i64 0, .slice none 0 0, .slice none 0 0] 67)).heap.size = w.heap.size + 1 + 1) := by
    show _ = _
    simp
  have HEN : Hid (∀ ps tx, Gs L ps tx [] → (flN ps tx = [] → itN L = leafN 2 []) ∧ (∀ p, flN ps tx = [p] → opN p = 2 → itN L = p) ∧ (∀ p q, flN ps tx = p :: q → (q = [] → opN p ≠ 2) → itN L = .mk 3 ⟨#[]⟩ ⟨#[]⟩ 0 (flN ps tx))) := fun ps tx h => h.ended
  have HSZ := Lib.hid hsz
  clear hz hs0 hsz
  unfold zN at HT1 HD1 HBW HS1
  generalize hIT : itN L = IT at *
  clear hIT
  go_enter Tryz.func28, Tryz.ntmps28
  go_wp2_with fail
  generalize (w.alloc _).alloc _ = W1 at *
  generalize hTT : w.heap.size = T at *
  have HTT := Lib.hid hTT
  clear hTT
  go_loopw [36] (fun _ wr => ∃ (ps : List Nd) (tx : List UInt8) (a : Nat) (tv lv : Value), a ≤ L.length ∧ Hid (Gs L ps tx (L.drop a)) ∧ Hid (DiAt (T + 1) (T + 1) L a tx ps tv lv wr) ∧ Hid (Below (T + 1) W1 wr)) (fun _ wr => L.length - atD (T + 1) wr)
  case atStart => exact ⟨[], [], 0, _, _, Nat.zero_le _, by rw [List.drop_zero]; exact Gs.start L, HD1, Below.refl _ _⟩
  case round =>
    obtain ⟨ps, tx, a, tv, lv, hal, hgs, hd, hbl⟩ := hrel
    have hzz := HZ.out
    have g1 := hgs.out.btx
    have g2 := hgs.out.bps
    have hpl : ps.length ≤ 40000 := by omega
    have htl : tx.length ≤ 80000 := by omega
    clear g1 g2
    have HPS := Lib.hid hd.out.pos
    have HBS : Hid (T + 1 ≤ wr.heap.size) := Nat.le_of_lt hd.out.lt
    obtain ⟨c0, c1, c2, c3⟩ := hd.out.cells
    by_cases hlt : a < L.length
    · obtain ⟨b, t, hbt⟩ : ∃ b t, L.drop a = b :: t := by
        cases hq : L.drop a with
        | nil =>
          have := congrArg List.length hq
          rw [List.length_drop] at this
          simp at this
          omega
        | cons b t => exact ⟨b, t, rfl⟩
      have hsz := HSZ.out
      have y0 : (a : Int) < (L.length : Int) := by omega
      have y1 : (a : Int) < ((bs L).size : Int) := by omega
      have y2 : a < (bs L).size := by omega
      have y3 : (0 : Int) ≤ (a : Int) := by omega
      have hgb : (bs L)[a] = b := by
        rw [byte_at L a hlt y2]
        have h1 : (L.drop a)[0]? = some b := by rw [hbt]; rfl
        rw [List.getElem?_drop, Nat.add_zero, List.getElem?_eq_getElem hlt] at h1
        exact Option.some.inj h1
      have HBT := Lib.hid hbt
      have HGB := Lib.hid hgb
      rw [hbt] at hgs
      have HDD : Hid (∀ k, L.drop (a + k) = (b :: t).drop k) := fun k => by rw [← List.drop_drop, hbt]
      have HLL : Hid (L.length = a + 1 + t.length) := by
        have h1 := congrArg List.length hbt
        rw [List.length_drop, List.length_cons] at h1
        show _ = _
        omega
      clear hbt hsz
      by_cases h92 : b = 92
      · subst h92
        obtain ⟨f92, _⟩ := byte_is (b := (bs L)[a]) (n := 92) (by rw [hgb]; rfl)
        have hvn : vrN (92 :: t) = none := vrN_oth (by decide) (by decide)
        obtain ⟨hg2, hl2⟩ := hgs.out.text (by simp) hvn
        have HG2 := Lib.hid hg2
        have HKL : Hid ((pcN (92 :: t)).2 ≤ 1 + t.length) := by
          have := pcN_le (l := 92 :: t) (by simp)
          simp only [List.length_cons] at this
          show _ ≤ _
          omega
        have HKP : Hid (0 < (pcN (92 :: t)).2) := pcN_pos _
        have HES := Lib.hid (escape_any (T + 1) (T + 1) L a tx ps tv lv wr hd.out HBS.out (by omega) (by omega) t HBT.out)
        clear hg2 hl2 hvn hgb
        generalize pcN (92 :: t) = pc at *
        go_wp2_with fail
        refine HES.out.mono ?_
        rintro e W2 ⟨rfl, tv2, hd2, hb2⟩
        have HD2 := Lib.hid hd2
        have HB2 := Lib.hid hb2
        clear hd2 hb2 c0 c1 c2 c3
        go_wp2
        go_roundw
        case rel => exact ⟨ps, (tx ++ pc.1), a + pc.2, _, _, by have := HLL.out; have := HKL.out; omega, by rw [HDD.out]; exact HG2.out, HD2, hbl.out.trans HB2.out⟩
        case measure =>
          have h1 := HPS.out
          have h2 := HD2.out.pos
          have h3 := HKP.out
          omega
      obtain ⟨f92, _⟩ := byte_neq (b := (bs L)[a]) (n := 92) (by rw [hgb]; exact byte_off (c := 92) h92)
      by_cases h36 : b = 36
      · subst h36
        obtain ⟨f36, _⟩ := byte_is (b := (bs L)[a]) (n := 36) (by rw [hgb]; rfl)
        have f64 : (((bs L)[a].toNat : Int) == 64) = false := by rw [hgb]; rfl
        have HSC := Lib.hid (scalar_any (T + 1) (T + 1) L a tx ps tv lv wr hd.out HBS.out (by omega) (by omega) t HBT.out)
        cases hv : vrN (36 :: t) with
        | some x =>
          obtain ⟨hg2, _⟩ := hgs.out.var hv
          have HG2 := Lib.hid hg2
          have HKL : Hid (x.2 ≤ 1 + t.length) := by
            have := vrN_le hv
            simp only [List.length_cons] at this
            show _ ≤ _
            omega
          have HKP : Hid (0 < x.2) := vrN_pos hv
          rw [hv] at HSC
          clear hg2 hv hgb
          go_wp2_with fail
          refine HSC.out.mono ?_
          rintro e W2 ⟨rfl, tv2, lv2, hd2, hb2⟩
          have HD2 := Lib.hid hd2
          have HB2 := Lib.hid hb2
          clear hd2 hb2 c0 c1 c2 c3
          go_wp2
          go_roundw
          case rel => exact ⟨(flN ps tx ++ [x.1]), [], a + x.2, _, _, by have := HLL.out; have := HKL.out; omega, by rw [HDD.out]; exact HG2.out, HD2, hbl.out.trans HB2.out⟩
          case measure =>
            have h1 := HPS.out
            have h2 := HD2.out.pos
            have h3 := HKP.out
            omega
        | none =>
          have HGT : Hid (Gs L ps (tx ++ [36]) ((36 :: t).drop 1)) := by
            have h1 := (hgs.out.text (by simp) hv).1
            rw [pcN_plain (by decide)] at h1
            exact h1
          rw [hv] at HSC
          clear hv hgb hgs
          go_wp2_with fail
          refine HSC.out.mono ?_
          rintro e W2 ⟨rfl, tv2, lv2, hd2, hb2⟩
          have HBX : Hid (Below (T + 1) W1 W2) := hbl.out.trans hb2
          have HSX : Hid (T + 1 ≤ W2.heap.size) := Nat.le_trans HBS.out hb2.size
          have HDX := Lib.hid hd2
          clear hd hbl HBS hb2 hd2 c0 c1 c2 c3
          have hd := HDX
          have hbl := HBX
          have HBS := HSX
          clear HDX HBX HSX
          obtain ⟨c0, c1, c2, c3⟩ := hd.out.cells
          obtain ⟨ta, tc, rfl⟩ := hd.out.btx.form
          go_wp2
          have d2 := (hd.out.alloc (.cells #[.int .u8 ((bs L)[a].toNat : Int)] 5)).cells.2.2.1
          have d1 := (hd.out.alloc (.cells #[.int .u8 ((bs L)[a].toNat : Int)] 5)).cells.2.1
          go_region_law (first
            | (refine step_append_lies _ rfl (.tmp 18) (.tmp 25) 52 rfl (T + 1) 5 i0 (.int .u8 0) 1 1 Tryz.underlying52 hi hz0 hz1 hz2 rfl (by decide) (.slice ta tx.length tc) tx.length (Lib.byteCells tx) (by simp [Act.eval, Act.put]) (hd.out.alloc _).btx ⟨W2.heap.size, 0, none⟩ 1 1 [.int .u8 ((bs L)[a].toNat : Int)] (by simp [Act.eval, Act.put]) rfl (World.news_of_block (Go.MapKept.heap_alloc _ _).1) (fun x hx => by simp at hx; subst hx; rfl) (by decide) (by unfold maxLen; omega) (by omega) (Nat.le_trans HBS.out (by simp)) _ rfl ?_
               intro g cap w2 ho hg hG hlt
               obtain ⟨hd3, hb3, e2, e2f⟩ := text_put (y := [36]) hd.out ho rfl (by rw [HGB.out]; rfl) (fun k h1 h2 => (hg.block k (Nat.lt_of_lt_of_le h1 (by simp)) h2).trans (Lib.alloc_old W2 _ k h1)) ((((Below.refl (T + 1) W2).alloc HBS.out _).drew).grown hg (Nat.le_trans HBS.out (by simp)) fun k hk => (hd.out.btx.lt k hk).1)
               have H3 := Lib.hid hd3
               have HB3 := Lib.hid hb3
               clear ho hg hG hlt hd3 hb3))
          all_goals (
            clear c1 c2 d1 d2 e2 e2f
            generalize w2.setCell _ _ = W3 at *
            obtain ⟨_, c1, _, _⟩ := H3.out.cells
            have f1 := H3.out.frozen 1
            have y9 : IntKind.i64.wrap ((a : Int) + 1) = (a : Int) + 1 := IntWalk.i64_in _ (by omega)
            have H4 := Lib.hid (H3.out.setAtI (a + 1) ((a : Int) + 1) (by omega))
            have HB4 := Lib.hid (HB3.out.setCell (p := ⟨T + 1, 1, none⟩) H3.out.lo (.int .i64 ((a : Int) + 1)))
            have HKL : Hid (1 ≤ 1 + t.length) := Nat.le_add_right _ _
            have HKP : Hid (0 < 1) := Nat.one_pos
            go_wp2
            go_roundw
            case rel => exact ⟨ps, (tx ++ [36]), a + 1, _, _, by have := HLL.out; have := HKL.out; omega, by rw [HDD.out]; exact HGT.out, H4, hbl.out.trans HB4.out⟩
            case measure =>
              have h1 := HPS.out
              have h2 := H4.out.pos
              have h3 := HKP.out
              omega)
      obtain ⟨f36, _⟩ := byte_neq (b := (bs L)[a]) (n := 36) (by rw [hgb]; exact byte_off (c := 36) h36)
      by_cases h64 : b = 64
      · subst h64
        obtain ⟨f64, _⟩ := byte_is (b := (bs L)[a]) (n := 64) (by rw [hgb]; rfl)
        have HSC := Lib.hid (array_any (T + 1) (T + 1) L a tx ps tv lv wr hd.out HBS.out (by omega) (by omega) t HBT.out)
        cases hv : vrN (64 :: t) with
        | some x =>
          obtain ⟨hg2, _⟩ := hgs.out.var hv
          have HG2 := Lib.hid hg2
          have HKL : Hid (x.2 ≤ 1 + t.length) := by
            have := vrN_le hv
            simp only [List.length_cons] at this
            show _ ≤ _
            omega
          have HKP : Hid (0 < x.2) := vrN_pos hv
          rw [hv] at HSC
          clear hg2 hv hgb
          go_wp2_with fail
          refine HSC.out.mono ?_
          rintro e W2 ⟨rfl, tv2, lv2, hd2, hb2⟩
          have HD2 := Lib.hid hd2
          have HB2 := Lib.hid hb2
          clear hd2 hb2 c0 c1 c2 c3
          go_wp2
          go_roundw
          case rel => exact ⟨(flN ps tx ++ [x.1]), [], a + x.2, _, _, by have := HLL.out; have := HKL.out; omega, by rw [HDD.out]; exact HG2.out, HD2, hbl.out.trans HB2.out⟩
          case measure =>
            have h1 := HPS.out
            have h2 := HD2.out.pos
            have h3 := HKP.out
            omega
        | none =>
          have HGT : Hid (Gs L ps (tx ++ [64]) ((64 :: t).drop 1)) := by
            have h1 := (hgs.out.text (by simp) hv).1
            rw [pcN_plain (by decide)] at h1
            exact h1
          rw [hv] at HSC
          clear hv hgb hgs
          go_wp2_with fail
          refine HSC.out.mono ?_
          rintro e W2 ⟨rfl, tv2, lv2, hd2, hb2⟩
          have HBX : Hid (Below (T + 1) W1 W2) := hbl.out.trans hb2
          have HSX : Hid (T + 1 ≤ W2.heap.size) := Nat.le_trans HBS.out hb2.size
          have HDX := Lib.hid hd2
          clear hd hbl HBS hb2 hd2 c0 c1 c2 c3
          have hd := HDX
          have hbl := HBX
          have HBS := HSX
          clear HDX HBX HSX
          obtain ⟨c0, c1, c2, c3⟩ := hd.out.cells
          obtain ⟨ta, tc, rfl⟩ := hd.out.btx.form
          go_wp2
          have d2 := (hd.out.alloc (.cells #[.int .u8 ((bs L)[a].toNat : Int)] 5)).cells.2.2.1
          have d1 := (hd.out.alloc (.cells #[.int .u8 ((bs L)[a].toNat : Int)] 5)).cells.2.1
          go_region_law (first
            | (refine step_append_lies _ rfl (.tmp 18) (.tmp 25) 52 rfl (T + 1) 5 i0 (.int .u8 0) 1 1 Tryz.underlying52 hi hz0 hz1 hz2 rfl (by decide) (.slice ta tx.length tc) tx.length (Lib.byteCells tx) (by simp [Act.eval, Act.put]) (hd.out.alloc _).btx ⟨W2.heap.size, 0, none⟩ 1 1 [.int .u8 ((bs L)[a].toNat : Int)] (by simp [Act.eval, Act.put]) rfl (World.news_of_block (Go.MapKept.heap_alloc _ _).1) (fun x hx => by simp at hx; subst hx; rfl) (by decide) (by unfold maxLen; omega) (by omega) (Nat.le_trans HBS.out (by simp)) _ rfl ?_
               intro g cap w2 ho hg hG hlt
               obtain ⟨hd3, hb3, e2, e2f⟩ := text_put (y := [64]) hd.out ho rfl (by rw [HGB.out]; rfl) (fun k h1 h2 => (hg.block k (Nat.lt_of_lt_of_le h1 (by simp)) h2).trans (Lib.alloc_old W2 _ k h1)) ((((Below.refl (T + 1) W2).alloc HBS.out _).drew).grown hg (Nat.le_trans HBS.out (by simp)) fun k hk => (hd.out.btx.lt k hk).1)
               have H3 := Lib.hid hd3
               have HB3 := Lib.hid hb3
               clear ho hg hG hlt hd3 hb3))
          all_goals (
            clear c1 c2 d1 d2 e2 e2f
            generalize w2.setCell _ _ = W3 at *
            obtain ⟨_, c1, _, _⟩ := H3.out.cells
            have f1 := H3.out.frozen 1
            have y9 : IntKind.i64.wrap ((a : Int) + 1) = (a : Int) + 1 := IntWalk.i64_in _ (by omega)
            have H4 := Lib.hid (H3.out.setAtI (a + 1) ((a : Int) + 1) (by omega))
            have HB4 := Lib.hid (HB3.out.setCell (p := ⟨T + 1, 1, none⟩) H3.out.lo (.int .i64 ((a : Int) + 1)))
            have HKL : Hid (1 ≤ 1 + t.length) := Nat.le_add_right _ _
            have HKP : Hid (0 < 1) := Nat.one_pos
            go_wp2
            go_roundw
            case rel => exact ⟨ps, (tx ++ [64]), a + 1, _, _, by have := HLL.out; have := HKL.out; omega, by rw [HDD.out]; exact HGT.out, H4, hbl.out.trans HB4.out⟩
            case measure =>
              have h1 := HPS.out
              have h2 := H4.out.pos
              have h3 := HKP.out
              omega)
      obtain ⟨f64, _⟩ := byte_neq (b := (bs L)[a]) (n := 64) (by rw [hgb]; exact byte_off (c := 64) h64)
      have HGT : Hid (Gs L ps (tx ++ [b]) ((b :: t).drop 1)) := by
        have h1 := (hgs.out.text (by simp) (vrN_oth h64 h36)).1
        rw [pcN_plain h92] at h1
        exact h1
      clear hgb hgs h92 h36 h64
      obtain ⟨ta, tc, rfl⟩ := hd.out.btx.form
      go_wp2
      have d2 := (hd.out.alloc (.cells #[.int .u8 ((bs L)[a].toNat : Int)] 5)).cells.2.2.1
      have d1 := (hd.out.alloc (.cells #[.int .u8 ((bs L)[a].toNat : Int)] 5)).cells.2.1
      go_region_law (first
        | (refine step_append_lies _ rfl (.tmp 18) (.tmp 25) 52 rfl (T + 1) 5 i0 (.int .u8 0) 1 1 Tryz.underlying52 hi hz0 hz1 hz2 rfl (by decide) (.slice ta tx.length tc) tx.length (Lib.byteCells tx) (by simp [Act.eval, Act.put]) (hd.out.alloc _).btx ⟨wr.heap.size, 0, none⟩ 1 1 [.int .u8 ((bs L)[a].toNat : Int)] (by simp [Act.eval, Act.put]) rfl (World.news_of_block (Go.MapKept.heap_alloc _ _).1) (fun x hx => by simp at hx; subst hx; rfl) (by decide) (by unfold maxLen; omega) (by omega) (Nat.le_trans HBS.out (by simp)) _ rfl ?_
           intro g cap w2 ho hg hG hlt
           obtain ⟨hd3, hb3, e2, e2f⟩ := text_put (y := [b]) hd.out ho rfl (by rw [HGB.out]; rfl) (fun k h1 h2 => (hg.block k (Nat.lt_of_lt_of_le h1 (by simp)) h2).trans (Lib.alloc_old wr _ k h1)) ((((Below.refl (T + 1) wr).alloc HBS.out _).drew).grown hg (Nat.le_trans HBS.out (by simp)) fun k hk => (hd.out.btx.lt k hk).1)
           have H3 := Lib.hid hd3
           have HB3 := Lib.hid hb3
           clear ho hg hG hlt hd3 hb3))
      all_goals (
        clear c1 c2 d1 d2 e2 e2f
        generalize w2.setCell _ _ = W3 at *
        obtain ⟨_, c1, _, _⟩ := H3.out.cells
        have f1 := H3.out.frozen 1
        have y9 : IntKind.i64.wrap ((a : Int) + 1) = (a : Int) + 1 := IntWalk.i64_in _ (by omega)
        have H4 := Lib.hid (H3.out.setAtI (a + 1) ((a : Int) + 1) (by omega))
        have HB4 := Lib.hid (HB3.out.setCell (p := ⟨T + 1, 1, none⟩) H3.out.lo (.int .i64 ((a : Int) + 1)))
        have HKL : Hid (1 ≤ 1 + t.length) := Nat.le_add_right _ _
        have HKP : Hid (0 < 1) := Nat.one_pos
        go_wp2
        go_roundw
        case rel => exact ⟨ps, (tx ++ [b]), a + 1, _, _, by have := HLL.out; have := HKL.out; omega, by rw [HDD.out]; exact HGT.out, H4, hbl.out.trans HB4.out⟩
        case measure =>
          have h1 := HPS.out
          have h2 := H4.out.pos
          have h3 := HKP.out
          omega)
    · have y0 : ((bs L).size : Int) ≤ (a : Int) := by
        have := HSZ.out
        omega
      have hdn : L.drop a = [] := List.drop_eq_nil_of_le (by omega)
      rw [hdn] at hgs
      have HE := Lib.hid (HEN.out ps tx hgs.out)
      have HFL := Lib.hid (flush_any (T + 1) (T + 1) L a tx ps tv lv wr hd.out HBS.out (by omega))
      have hfl := flN_len ps tx
      have HTW : Hid (NkAt T (.int .i64 0) (.string ⟨#[]⟩) (.string ⟨#[]⟩) (.int .i64 0) (.slice none 0 0) wr) := (hbl.out.block T (by omega)).trans HT1.out
      clear hdn hgs hlt hal HEN
      unfold FlP at HFL
      generalize flN ps tx = q at *
      go_wp2_with fail
      refine HFL.out.mono ?_
      rintro e W2 ⟨rfl, tv2, lv2, hd2, hb2, _, _⟩
      have HT9 : Hid (NkAt T (.int .i64 0) (.string ⟨#[]⟩) (.string ⟨#[]⟩) (.int .i64 0) (.slice none 0 0) W2) := (hb2.block T (by omega)).trans HTW.out
      have HB9 : Hid (Below T w W2) := (HBW.out.trans (hbl.out.mono (by omega))).trans (hb2.mono (by omega))
      obtain ⟨_, _, _, c3⟩ := hd2.cells
      have HRW := Lib.hid hd2.bps
      have HRF := Lib.hid hd2.frozen
      clear hd2 hb2 c0 c1 c2 HFL hd hbl HBS HPS
      match q, HE, HRW, hfl with
      | [], HE, HRW, _ =>
        have hi := HE.out.1 rfl
        obtain ⟨la, lc, rfl, _⟩ := HRW.out.form
        have HF : Hid (∀ W, NdAt (fun g => w.heap.size ≤ g) W IT (.agg #[.int .i64 2, .string ⟨#[]⟩, .string ⟨#[]⟩, .int .i64 0, .slice none 0 0])) := fun W => by
          rw [hi]
          exact .mk .none
        simp only [List.length_nil] at c3
        clear hi HE HRW
        obtain ⟨u0, u1, u2, u3, u4⟩ := HT9.out.cells
        have z0 := HT9.out.frozen 0
        have z1 := HT9.out.frozen 1
        have z2 := HT9.out.frozen 2
        have z3 := HT9.out.frozen 3
        have z4 := HT9.out.frozen 4
        go_wp2
        have HR := HT9.out.put (.int .i64 2) (.string ⟨#[]⟩) (.string ⟨#[]⟩) (.int .i64 0) (.slice none 0 0)
        obtain ⟨r0, r1, r2, r3, r4⟩ := HR.cells
        change bodyPost _ _ _ _ _ (ndW W2 T (.int .i64 2) (.string ⟨#[]⟩) (.string ⟨#[]⟩) (.int .i64 0) (.slice none 0 0))
        refine bodyPost_ret (v := .agg #[.int .i64 2, .string ⟨#[]⟩, .string ⟨#[]⟩, .int .i64 0, .slice none 0 0]) ?_ rfl ?_
        · generalize ndW W2 T (.int .i64 2) (.string ⟨#[]⟩) (.string ⟨#[]⟩) (.int .i64 0) (.slice none 0 0) = WZ at *
          simp [results, Tryz.results28, go_sem, r0, r1, r2, r3, r4]
        · exact ⟨_, rfl, (by rw [HTT.out]; exact HB9.out.trans (ndW_below _ _ _ _ _ _ _)), HF.out _⟩
      | [p], HE, HRW, _ =>
        obtain ⟨la, lc, rfl, hla⟩ := HRW.out.form
        cases la with
        | none => exact absurd rfl (hla.2 (by simp))
        | some ad =>
          obtain ⟨g, rfl⟩ : ∃ g, ad = ⟨g, 0, none⟩ := by
            obtain ⟨xs, h1, _⟩ := HRW.out.ex
            rcases h1.2 with ⟨h2, _⟩ | ⟨g, cap, cur, h2, _⟩
            · simp at h2
            · simp only [Value.slice.injEq, Option.some.injEq] at h2
              exact ⟨g, h2.1⟩
          have hns := HRW.out.ns
          obtain ⟨o, k, s1, t1, m, xa, xj, xc, rfl, hm, k0, k1, k2, k3, k4⟩ := first_part HRW.out
          simp only [List.length_cons, List.length_nil, Nat.zero_add] at c3 hns
          by_cases ho : o = 2
          · have y5 : (o == 2) = true := by rw [ho]; rfl
            have hi := HE.out.2.1 _ rfl ho
            have HF : Hid (NdAt (Ty (T + 1) W2) W2 IT (.agg #[.int .i64 o, .string s1, .string t1, .int .i64 k, .slice xa xj xc])) := by
              rw [hi]
              exact .mk hm
            clear hi HE HRW hm hns hla ho
            obtain ⟨u0, u1, u2, u3, u4⟩ := HT9.out.cells
            have z0 := HT9.out.frozen 0
            have z1 := HT9.out.frozen 1
            have z2 := HT9.out.frozen 2
            have z3 := HT9.out.frozen 3
            have z4 := HT9.out.frozen 4
            go_wp2
            have HR := HT9.out.put (.int .i64 o) (.string s1) (.string t1) (.int .i64 k) (.slice xa xj xc)
            obtain ⟨r0, r1, r2, r3, r4⟩ := HR.cells
            change bodyPost _ _ _ _ _ (ndW W2 T (.int .i64 o) (.string s1) (.string t1) (.int .i64 k) (.slice xa xj xc))
            refine bodyPost_ret (v := .agg #[.int .i64 o, .string s1, .string t1, .int .i64 k, .slice xa xj xc]) ?_ rfl ?_
            · generalize ndW W2 T (.int .i64 o) (.string s1) (.string t1) (.int .i64 k) (.slice xa xj xc) = WZ at *
              simp [results, Tryz.results28, go_sem, r0, r1, r2, r3, r4]
            · exact ⟨_, rfl, (by rw [HTT.out]; exact HB9.out.trans (ndW_below _ _ _ _ _ _ _)), HF.out.move (fun g h1 h2 => ⟨ndW_block _ _ _ _ _ _ _ _ (by have := h1.1; omega), by have := h1.1; have := HTT.out; omega⟩)⟩
          · have y5 : (o == 2) = false := by rw [beq_eq_false_iff_ne]; exact ho
            have hi := HE.out.2.2 _ _ rfl (fun _ => ho)
            have HF : Hid (NdAt (Ty (T + 1) W2) W2 IT (.agg #[.int .i64 3, .string ⟨#[]⟩, .string ⟨#[]⟩, .int .i64 0, .slice (some ⟨g, 0, none⟩) 1 lc])) := by
              rw [hi]
              exact .mk hns
            clear hi HE HRW hm hns hla ho
            obtain ⟨u0, u1, u2, u3, u4⟩ := HT9.out.cells
            have z0 := HT9.out.frozen 0
            have z1 := HT9.out.frozen 1
            have z2 := HT9.out.frozen 2
            have z3 := HT9.out.frozen 3
            have z4 := HT9.out.frozen 4
            go_wp2
            have HR := HT9.out.put (.int .i64 3) (.string ⟨#[]⟩) (.string ⟨#[]⟩) (.int .i64 0) (.slice (some ⟨g, 0, none⟩) 1 lc)
            obtain ⟨r0, r1, r2, r3, r4⟩ := HR.cells
            change bodyPost _ _ _ _ _ (ndW W2 T (.int .i64 3) (.string ⟨#[]⟩) (.string ⟨#[]⟩) (.int .i64 0) (.slice (some ⟨g, 0, none⟩) 1 lc))
            refine bodyPost_ret (v := .agg #[.int .i64 3, .string ⟨#[]⟩, .string ⟨#[]⟩, .int .i64 0, .slice (some ⟨g, 0, none⟩) 1 lc]) ?_ rfl ?_
            · generalize ndW W2 T (.int .i64 3) (.string ⟨#[]⟩) (.string ⟨#[]⟩) (.int .i64 0) (.slice (some ⟨g, 0, none⟩) 1 lc) = WZ at *
              simp [results, Tryz.results28, go_sem, r0, r1, r2, r3, r4]
            · exact ⟨_, rfl, (by rw [HTT.out]; exact HB9.out.trans (ndW_below _ _ _ _ _ _ _)), HF.out.move (fun g h1 h2 => ⟨ndW_block _ _ _ _ _ _ _ _ (by have := h1.1; omega), by have := h1.1; have := HTT.out; omega⟩)⟩
      | p :: p2 :: q, HE, HRW, hfl =>
        obtain ⟨la, lc, rfl, _⟩ := HRW.out.form
        have hns := HRW.out.ns
        have hi := HE.out.2.2 _ _ rfl (fun h => by simp at h)
        have HF : Hid (NdAt (Ty (T + 1) W2) W2 IT (.agg #[.int .i64 3, .string ⟨#[]⟩, .string ⟨#[]⟩, .int .i64 0, .slice la (p :: p2 :: q).length lc])) := by
          rw [hi]
          exact .mk hns
        have hn2 : (p :: p2 :: q).length = q.length + 2 := rfl
        rw [hn2] at HF c3
        have y5 : ((q.length : Int) + 2 == 0) = false := by rw [beq_eq_false_iff_ne]; omega
        have y6 : ((q.length : Int) + 2 == 1) = false := by rw [beq_eq_false_iff_ne]; omega
        clear hi HE HRW hns hfl hn2
        generalize q.length = n at *
        obtain ⟨u0, u1, u2, u3, u4⟩ := HT9.out.cells
        have z0 := HT9.out.frozen 0
        have z1 := HT9.out.frozen 1
        have z2 := HT9.out.frozen 2
        have z3 := HT9.out.frozen 3
        have z4 := HT9.out.frozen 4
        go_wp2
        have HR := HT9.out.put (.int .i64 3) (.string ⟨#[]⟩) (.string ⟨#[]⟩) (.int .i64 0) (.slice la (n + 2) lc)
        obtain ⟨r0, r1, r2, r3, r4⟩ := HR.cells
        change bodyPost _ _ _ _ _ (ndW W2 T (.int .i64 3) (.string ⟨#[]⟩) (.string ⟨#[]⟩) (.int .i64 0) (.slice la (n + 2) lc))
        refine bodyPost_ret (v := .agg #[.int .i64 3, .string ⟨#[]⟩, .string ⟨#[]⟩, .int .i64 0, .slice la (n + 2) lc]) ?_ rfl ?_
        · generalize ndW W2 T (.int .i64 3) (.string ⟨#[]⟩) (.string ⟨#[]⟩) (.int .i64 0) (.slice la (n + 2) lc) = WZ at *
          simp [results, Tryz.results28, go_sem, r0, r1, r2, r3, r4]
        · exact ⟨_, rfl, (by rw [HTT.out]; exact HB9.out.trans (ndW_below _ _ _ _ _ _ _)), HF.out.move (fun g h1 h2 => ⟨ndW_block _ _ _ _ _ _ _ _ (by have := h1.1; omega), by have := h1.1; have := HTT.out; omega⟩)⟩

end Go.Proofs.YtaocbhfehncdcaaGreatDoor
