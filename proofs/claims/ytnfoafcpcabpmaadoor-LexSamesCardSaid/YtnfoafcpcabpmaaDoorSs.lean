/-
  The document's Same, and the walk of LexSames. Conditions: the row of signs holds what the program's text lays.
-/
import Derived.Test.YtnfoafcpcabpmaaDoorSa
namespace Go.Proofs.YtnfoafcpcabpmaaDoor
open Go.RowKit

set_option maxRecDepth 100000 in
set_option maxHeartbeats 4000000 in
theorem rSame_any (sa sb : Option Addr) (n m c d : Nat) (f h : Nat → Tkc) (w : World) (hk : TkRow sa n f w) (hl : TkRow sb m h w) :
    Calls Tryd.prog 12 #[.slice sa n c, .slice sb m d] w (BoP (saB n m f h) w) := by
  have HP : Hid (∀ b w', b = saB n m f h → Below w.heap.size w w' → BoP (saB n m f h) w (.returned (.bool b)) w') := fun b w' h1 h2 => by
    rw [h1]
    exact ⟨rfl, h2⟩
  have HB0 := Lib.hid (Below.refl w.heap.size w)
  have HK := Lib.hid hk
  have HL := Lib.hid hl
  have hns := hk.small
  unfold maxLen at hns
  clear hk hl
  by_cases he : n = m
  · subst he
    have f1 : ((n : Int) != (n : Int)) = false := by simp
    have HX : Hid (decide (preF f h 0 n = n) = saB n n f h) := by
      show _ = _
      unfold saB
      simp
    have H0 : Hid (preF f h 0 n = preF f h 0 (n - 0)) := rfl
    go_enter Tryd.func12, Tryd.ntmps12
    go_wp2
    go_loopw [5] (fun v wr => ∃ i : Nat, v = .int .i64 i ∧ i ≤ n ∧ Hid (preF f h 0 n = preF f h i (n - i)) ∧ Hid (Below w.heap.size w wr)) (fun v _ => n - (intOf v).toNat)
    case atStart => exact ⟨0, rfl, Nat.zero_le _, H0, HB0⟩
    case round =>
      obtain ⟨i, rfl, hi, hp, hb⟩ := hrel
      by_cases hlt : i < n
      · have hlti : (i : Int) < (n : Int) := by omega
        obtain ⟨g1, p1, rfl, hg1, hr1⟩ := HK.out.row (by omega)
        obtain ⟨g2, p2, rfl, hg2, hr2⟩ := HL.out.row (by omega)
        have k1 := (hr1 i hlt).later (hb.out.block g1 hg1)
        have k2 := (hr2 i hlt).later (hb.out.block g2 hg2)
        obtain ⟨a0, a1, a2, a3, a4, a5⟩ := k1
        obtain ⟨b0, b1, b2, b3, b4, b5⟩ := k2
        clear hr1 hr2 HK HL hg1 hg2
        obtain ⟨j, hj⟩ : ∃ j, n - i = j + 1 := ⟨n - i - 1, by omega⟩
        have hj2 : n - (i + 1) = j := by omega
        have HRA := Lib.hid (fun w => ralike_any (f i) (h i) w)
        unfold Tkc.agg at HRA
        cases heq : eqT (f i) (h i) with
        | true =>
          have HN : Hid (preF f h 0 n = preF f h (i + 1) (n - (i + 1))) := by
            show _ = _
            rw [hp.out, hj, preF_on heq, hj2]
          rw [heq] at HRA
          clear hj hj2 heq
          go_wp2
          go_still_tail 8, (by kernel_rfl)
          change wpList _ _ _ _ _ wr.drew
          have HBd : Hid (Below w.heap.size w wr.drew) := hb.out.drew
          clear a0 a1 a2 a3 a4 a5 b0 b1 b2 b3 b4 b5
          generalize wr.drew = wd at *
          go_wp2_with fail
          refine (HRA.out _).mono ?_
          rintro e w2 ⟨rfl, hb2⟩
          have HB2 : Hid (Below w.heap.size w w2) := HBd.out.trans (hb2.mono HBd.out.size)
          clear hb2
          go_wp2
          go_roundw
          case rel => exact ⟨i + 1, by go_num, by omega, HN, HB2⟩
          case measure => simp [intOf]; omega
        | false =>
          have HX2 : Hid (false = saB n n f h) := by
            show _ = _
            rw [← HX.out, hp.out, preF_off heq]
            exact (decide_eq_false (by omega)).symm
          rw [heq] at HRA
          clear hj hj2 heq
          go_wp2
          go_still_tail 8, (by kernel_rfl)
          change wpList _ _ _ _ _ wr.drew
          have HBd : Hid (Below w.heap.size w wr.drew) := hb.out.drew
          clear a0 a1 a2 a3 a4 a5 b0 b1 b2 b3 b4 b5
          generalize wr.drew = wd at *
          go_wp2_with fail
          refine (HRA.out _).mono ?_
          rintro e w2 ⟨rfl, hb2⟩
          have HB2 : Hid (Below w.heap.size w w2) := HBd.out.trans (hb2.mono HBd.out.size)
          clear hb2
          go_wp2
          go_ret
          exact HP.out _ _ HX2.out HB2.out
      · have hin : (n : Int) ≤ (i : Int) := by omega
        have hie : i = n := by omega
        have HX2 : Hid (true = saB n n f h) := by
          show _ = _
          rw [← HX.out, hp.out, hie, Nat.sub_self]
          exact (decide_eq_true rfl).symm
        clear hie hlt
        go_wp2
        go_ret
        exact HP.out _ _ HX2.out hb.out
  · have f1 : ((n : Int) != (m : Int)) = true := by rw [bne_iff_ne]; omega
    have HX : Hid (false = saB n m f h) := by
      show _ = _
      unfold saB
      rw [decide_eq_false he]
      rfl
    clear he
    go_enter Tryd.func12, Tryd.ntmps12
    go_wp2
    go_ret
    exact HP.out _ _ HX.out HB0.out

set_option maxRecDepth 100000 in
set_option maxHeartbeats 4000000 in
theorem lexSames_walk (sa sb : Option Addr) (n m c d : Nat) (f h : Nat → Tkc) (w : World) (hk : TkRow sa n f w) (hl : TkRow sb m h w) (hg : SigAt w) :
    Calls Tryd.prog 4 #[.slice sa n c, .slice sb m d] w (TrP w) := by
  have HP : Hid (∀ w', Below w.heap.size w w' → TrP w (.returned (.bool true)) w') := fun w' h => ⟨rfl, h⟩
  have H1 := Lib.hid (Same_any sa sb n m c d f h w hk hl)
  have H2 := Lib.hid (fun w' (hb : Below w.heap.size w w') => rSame_any sa sb n m c d f h w' (hk.later hb) (hl.later hb))
  have H3 : Hid (∀ w', Below w.heap.size w w' → Calls Tryd.prog 11 #[.slice sa n c, .slice sa n c] w' (BoP true w')) := fun w' hb => by
    have := Same_any sa sa n n c c f f w' (hk.later hb) (hk.later hb)
    rwa [saB_self] at this
  have H4 : Hid (∀ w', Below w.heap.size w w' → Calls Tryd.prog 8 #[] w' (TrP w')) := fun w' hb => known_any w' (hg.block (hb.block _ hg.lt))
  clear hk hl hg
  generalize saB n m f h = b at *
  have hbb : (b == b) = true := by simp
  go_enter Tryd.func4, Tryd.ntmps4
  go_wp2_with fail
  refine H1.out.mono ?_
  rintro e w1 ⟨rfl, hb1⟩
  have HB1 := Lib.hid hb1
  clear hb1
  go_wp2_with fail
  refine (H2.out _ HB1.out).mono ?_
  rintro e w2 ⟨rfl, hb2⟩
  have HB2 : Hid (Below w.heap.size w w2) := HB1.out.trans (hb2.mono HB1.out.size)
  clear hb2
  go_wp2_with fail
  refine (H3.out _ HB2.out).mono ?_
  rintro e w3 ⟨rfl, hb3⟩
  have HB3 : Hid (Below w.heap.size w w3) := HB2.out.trans (hb3.mono HB2.out.size)
  clear hb3
  go_wp2_with fail
  refine (H4.out _ HB3.out).mono ?_
  rintro e w4 ⟨rfl, hb4⟩
  have HB4 : Hid (Below w.heap.size w w4) := HB3.out.trans (hb4.mono HB3.out.size)
  clear hb4
  go_wp2
  go_ret
  exact HP.out _ HB4.out

end Go.Proofs.YtnfoafcpcabpmaaDoor
