/-
  TreeSames: the law's walk. Conditions: the row of signs holds what the program's text lays; texts and rows are within the platform's room.
-/
import Derived.Test.YtaocbhfehncdcaaGreatDoorXTw
import Derived.Test.YtaocbhfehncdcaaGreatDoorXLg
import Derived.Test.YtaocbhfehncdcaaGreatDoorXEq
import Derived.Test.YtaocbhfehncdcaaGreatDoorXKn2
namespace Go.Proofs.YtaocbhfehncdcaaGreatDoor
open Go.RowKit

set_option maxRecDepth 100000 in
set_option maxHeartbeats 3000000 in
theorem treeSames_walk (l m : List Nd) (L M : Value) (w : World) (hl : NsAt (fun _ => True) w l L) (hm : NsAt (fun _ => True) w m M) (hlr : l.length * 72 ≤ Rm) (hls : shL l) (hg : SigAt w) : Calls Tryz.prog 5 #[L, M] w (TrT w) := by
  have HP : Hid (∀ w', Below w.heap.size w w' → TrT w (.returned (.bool true)) w') := fun w' h => ⟨rfl, h⟩
  have HK : Hid (∀ W, Below w.heap.size w W → Calls Tryz.prog 6 #[] W (TrT W)) := fun W hb => known_any W (hg.block (hb.block _ hg.lt))
  have HL : Hid (∀ W, Below w.heap.size w W → NsAt (fun g => g < w.heap.size) W l L) := fun W hb => hl.move fun g _ h2 => ⟨hb.block g h2, h2⟩
  have HM : Hid (∀ W, Below w.heap.size w W → NsAt (fun g => g < w.heap.size) W m M) := fun W hb => hm.move fun g _ h2 => ⟨hb.block g h2, h2⟩
  have H1 : Hid (∀ W, Below w.heap.size w W → Calls Tryz.prog 14 #[L] W (LoP W)) := fun W hb => Long_any _ l L W (HL.out W hb)
  have H2 : Hid (∀ W, Below w.heap.size w W → Calls Tryz.prog 14 #[M] W (LoP W)) := fun W hb => Long_any _ m M W (HM.out W hb)
  have H3 : Hid (∀ W, Below w.heap.size w W → Calls Tryz.prog 15 #[L] W (CpP l W)) := fun W hb => rcopy_any _ _ l L W (Nat.le_refl _) hlr hls (HL.out W hb)
  have H4 : Hid (∀ W, Below w.heap.size w W → Calls Tryz.prog 16 #[L] W (TcP l W)) := fun W hb => tcopy_any _ _ l L W (Nat.le_refl _) hlr hls (HL.out W hb)
  have H5 : Hid (∀ W, Below w.heap.size w W → Calls Tryz.prog 17 #[L, M] W (LkP (.bool (eqL l m)) W)) := fun W hb => tsame_any _ _ _ l m L M W (Nat.le_refl _) (HL.out W hb) (HM.out W hb)
  have H6 : Hid (∀ W, Below w.heap.size w W → Calls Tryz.prog 18 #[L, M] W (LkP (.bool (eqL l m)) W)) := fun W hb => same_any _ _ _ l m L M W (Nat.le_refl _) (HL.out W hb) (HM.out W hb)
  have H7 : Hid (∀ S V W, Below w.heap.size w W → NsAt S W l V → Calls Tryz.prog 18 #[V, L] W (LkP (.bool true) W)) := fun S V W hb hV => by
    have := same_any _ _ _ l l V L W (Nat.le_refl _) hV (HL.out W hb)
    rwa [eqL_self] at this
  have H8 : Hid (∀ S V W, Below w.heap.size w W → NsAt S W l V → Calls Tryz.prog 18 #[L, V] W (LkP (.bool true) W)) := fun S V W hb hV => by
    have := same_any _ _ _ l l L V W (Nat.le_refl _) (HL.out W hb) hV
    rwa [eqL_self] at this
  have HSH := Lib.hid hls
  have HRM : Hid (l.length * 72 ≤ 140737488355328) := hlr
  have HB0 := Lib.hid (Below.refl w.heap.size w)
  obtain ⟨la, lc, rfl, _, _⟩ := hl.row
  obtain ⟨ma, mc, rfl, _, _⟩ := hm.row
  clear hg hl hm hlr hls
  generalize eqL l m = z at *
  have xz : (z != z) = false := by simp
  go_enter Tryz.func5, Tryz.ntmps5
  go_wp2_with fail
  refine (H1.out _ HB0.out).mono ?_
  rintro e W1 ⟨b1, rfl, hb⟩
  have HB1 : Hid (Below w.heap.size w W1) := HB0.out.trans (hb.mono HB0.out.size)
  clear hb
  cases b1 with
  | true =>
    go_wp2_with fail
    refine (HK.out _ HB1.out).mono ?_
    rintro e W2 ⟨rfl, hb⟩
    have HB2 : Hid (Below w.heap.size w W2) := HB1.out.trans (hb.mono HB1.out.size)
    clear hb
    go_wp2
    go_ret
    exact HP.out _ HB2.out
  | false =>
    go_wp2_with fail
    refine (H2.out _ HB1.out).mono ?_
    rintro e W2 ⟨b2, rfl, hb⟩
    have HB2 : Hid (Below w.heap.size w W2) := HB1.out.trans (hb.mono HB1.out.size)
    clear hb
    cases b2 with
    | true =>
      go_wp2_with fail
      refine (HK.out _ HB2.out).mono ?_
      rintro e W3 ⟨rfl, hb⟩
      have HB3 : Hid (Below w.heap.size w W3) := HB2.out.trans (hb.mono HB2.out.size)
      clear hb
      go_wp2
      go_ret
      exact HP.out _ HB3.out
    | false =>
      go_wp2_with fail
      refine (H3.out _ HB2.out).mono ?_
      rintro e W3 ⟨v3, rfl, hb, hcp⟩
      have HB3 : Hid (Below w.heap.size w W3) := HB2.out.trans (hb.mono HB2.out.size)
      have HWAS : Hid (NsAt (fun g => g < W3.heap.size) W3 l v3) := (CpP.ns hcp).move fun g _ h2 => ⟨rfl, h2⟩
      obtain ⟨ua, uc, rfl⟩ : ∃ a c, v3 = .slice a l.length c := by
        obtain ⟨a, c, h, _⟩ := HWAS.out.row
        exact ⟨a, c, h⟩
      clear hb hcp
      go_wp2_with fail
      refine (H4.out _ HB3.out).mono ?_
      rintro e W4 ⟨v4, xs, rfl, hb, hown, hnc⟩
      obtain ⟨va, vc, rfl⟩ := row_form hown
      have HB4 : Hid (Below w.heap.size w W4) := HB3.out.trans (hb.mono HB3.out.size)
      have HB34 := Lib.hid hb
      have HOWN := Lib.hid hown
      have HNC := Lib.hid hnc
      have HB44 := Lib.hid (Below.refl W4.heap.size W4)
      clear hb hown hnc
      go_wp2_with fail
      refine (H5.out _ HB4.out).mono ?_
      rintro e W5 ⟨rfl, hb⟩
      have HB5 : Hid (Below w.heap.size w W5) := HB4.out.trans (hb.mono HB4.out.size)
      have HB45 : Hid (Below W4.heap.size W4 W5) := hb
      clear hb
      go_wp2_with fail
      refine (H6.out _ HB5.out).mono ?_
      rintro e W6 ⟨rfl, hb⟩
      have HB6 : Hid (Below w.heap.size w W6) := HB5.out.trans (hb.mono HB5.out.size)
      have HB46 : Hid (Below W4.heap.size W4 W6) := HB45.out.trans (hb.mono HB45.out.size)
      have HC6 : Hid (NsAt (fun _ => True) W6 l (.slice va l.length vc)) := (ns_ofRow HOWN.out (fun _ _ => trivial) (HNC.out.move fun g _ _ => ⟨rfl, trivial⟩)).move fun g _ h2 => ⟨HB46.out.block g h2, trivial⟩
      clear hb
      go_wp2_with fail
      refine (H7.out _ _ _ HB6.out HC6.out).mono ?_
      rintro e W7 ⟨rfl, hb⟩
      have HB7 : Hid (Below w.heap.size w W7) := HB6.out.trans (hb.mono HB6.out.size)
      have HB47 : Hid (Below W4.heap.size W4 W7) := HB46.out.trans (hb.mono HB46.out.size)
      clear hb
      have hown7 := row_stays HOWN.out fun g hg => HB47.out.block g (HOWN.out.lt g hg).2
      have hnc7 : NcAt (Fz W3.heap.size (.slice va l.length vc) W7) W7 l xs := HNC.out.move fun g h1 h2 => ⟨HB47.out.block g h2, h1.1, fun i => (World.frozen?_of_block (a := ⟨g, i, none⟩) (HB47.out.block g h2)).trans (h1.2 i)⟩
      obtain ⟨b, A, M, C, hva, htw⟩ := Tw.of hown7 hnc7 HSH.out
      have HVA := Lib.hid hva
      have HTW := Lib.hid htw
      have HB77 := Lib.hid (Below.refl W3.heap.size W7)
      have HB37 : Hid (Below W3.heap.size W3 W7) := HB34.out.trans (HB47.out.mono HB34.out.size)
      have HSZ3 : Hid (w.heap.size ≤ W3.heap.size) := HB3.out.size
      clear hown7 hnc7 hva htw HC6 HOWN HNC H1 H2 H3 H4 H5 H6 H7
      have hrm := HRM.out
      go_wp2
      go_loopw [7] (fun i wr => ∃ k : Nat, k ≤ l.length ∧ i = .int .i64 (k : Int) ∧ Tw W3.heap.size b l.length k A M C wr ∧ Hid (Below W3.heap.size W7 wr)) (fun i _ => l.length - (intOf i).toNat)
      case atStart => exact ⟨0, Nat.zero_le _, rfl, HTW.out, HB77⟩
      case round =>
        obtain ⟨k, hk, rfl, htw, hbr⟩ := hrel
        by_cases hlt : k < l.length
        · obtain rfl := HVA.out (by omega)
          have x1 : (k : Int) < (l.length : Int) := by omega
          have x5 : (0 : Int) ≤ (k : Int) := by omega
          have x3 : IntKind.i64.wrap ((k : Int) + 1) = (k : Int) + 1 := IntWalk.i64_in _ (by omega)
          obtain ⟨x, hx, q1⟩ := htw.txt k (Nat.le_refl _) hlt
          have f1 := htw.fz (by omega) (k * 5 + 1)
          have HT1 := Lib.hid (htw.text (.string (x ++ ⟨#[120]⟩)))
          have HBR1 : Hid (Below W3.heap.size W7 (wr.setCell ⟨b, k * 5 + 1, none⟩ (.string (x ++ ⟨#[120]⟩)))) := setCell_below hbr.out (htw.ge (by omega)) _ _
          unfold Rm at hx
          clear htw
          go_wp2
          go_loopw [8] (fun j ws => ∃ p : Nat, p ≤ M k ∧ j = .int .i64 (p : Int) ∧ Tw W3.heap.size b l.length (k + 1) A M C ws ∧ Hid (Below W3.heap.size W7 ws)) (fun j _ => M k - (intOf j).toNat)
          case atStart => exact ⟨0, Nat.zero_le _, rfl, HT1.out, HBR1⟩
          case round =>
            obtain ⟨p, hp, rfl, htw, hbs⟩ := hrel
            obtain ⟨hmr, hc4, hkk⟩ := htw.kid k hlt
            unfold Rm at hmr
            by_cases hpl : p < M k
            · obtain ⟨g, o, y, hA, hge, hgb, hc3, hf3⟩ := hkk p hpl
              have y1 : (p : Int) < (M k : Int) := by omega
              have y5 : (0 : Int) ≤ (p : Int) := by omega
              have y3 : IntKind.i64.wrap ((p : Int) + 1) = (p : Int) + 1 := IntWalk.i64_in _ (by omega)
              have HT2 := Lib.hid (fun z => htw.num hgb hc3 z)
              have HBS2 := Lib.hid (fun v => setCell_below hbs.out hge (o + p * 5 + 3) v)
              rw [hA] at hc4
              clear htw hkk
              go_wp2
              go_roundw
              case rel => exact ⟨p + 1, hpl, by first | rfl | go_num, HT2.out _, HBS2.out _⟩
              case measure => simp [intOf]; omega
            · have hpe : p = M k := by omega
              have y1 : (M k : Int) ≤ (p : Int) := by omega
              have HT2 := Lib.hid htw
              clear htw hkk
              go_wp2
              go_roundw
              case rel => exact ⟨k + 1, hlt, by first | rfl | go_num, HT2.out, hbs⟩
              case measure => simp [intOf]; omega
        · have x1 : (l.length : Int) ≤ (k : Int) := by omega
          have HBR : Hid (Below w.heap.size w wr) := HB7.out.trans (hbr.out.mono HSZ3.out)
          have HW8 : Hid (NsAt (fun g => g < W3.heap.size) wr l (.slice ua l.length uc)) := HWAS.out.move fun g h1 h2 => ⟨(hbr.out.block g h1).trans (HB37.out.block g h1), h1⟩
          clear htw
          go_wp2_with fail
          refine (H8.out _ _ _ HBR.out HW8.out).mono ?_
          rintro e W9 ⟨rfl, hb⟩
          have HB9 : Hid (Below w.heap.size w W9) := HBR.out.trans (hb.mono HBR.out.size)
          clear hb
          go_wp2_with fail
          refine (HK.out _ HB9.out).mono ?_
          rintro e W10 ⟨rfl, hb⟩
          have HB10 : Hid (Below w.heap.size w W10) := HB9.out.trans (hb.mono HB9.out.size)
          clear hb
          go_wp2
          go_ret
          exact HP.out _ HB10.out

end Go.Proofs.YtaocbhfehncdcaaGreatDoor
