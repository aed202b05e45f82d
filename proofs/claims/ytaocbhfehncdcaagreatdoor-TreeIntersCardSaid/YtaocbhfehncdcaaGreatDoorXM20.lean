/-
  The law's second text: its assignment. Conditions: none beside those stated. Statements and programs of the law's texts. Conditions: none beside those stated. How many nodes there are, and how many are in each other; the rows of trees, cell by cell. Conditions: at most 1000000 nodes.
-/
import Derived.Test.YtaocbhfehncdcaaGreatDoorXM19
import Derived.Deep.RegionWith
namespace Go.Proofs.YtaocbhfehncdcaaGreatDoor
open Go.RowKit


set_option maxRecDepth 100000 in
set_option maxHeartbeats 8000000 in
theorem wordTerm_b (κ : Pc) (P : Nat)  : Mt κ tsB P (0) 246 (.ok 6 (.mk 4 ⟨#[109, 121]⟩ ⟨#[]⟩ 1 [.mk 5 ⟨#[97]⟩ ⟨#[]⟩ 0 [], .mk 6 ⟨#[98]⟩ ⟨#[]⟩ 0 []])) := by
  intro w h
  have HL := Lib.hid h.all
  have HS0 : Hid (PsAt κ tsB P 0 (w.alloc zN)) := h.later ((Below.refl _ _).alloc (Nat.le_refl _) _)
  have HB0 : Hid (But P w (w.alloc zN)) := But.alloc P w _
  have HT0 := Lib.hid (NkAt.zero w)
  unfold zN at HS0 HB0 HT0
  have hfd := field_x 0 0 0 (ByteArray.mk #[109, 121])
  clear h
  go_enter Tryz.func246, Tryz.ntmps246
  go_wp2_with fail
  generalize w.alloc _ = W0 at *
  generalize hTT : w.heap.size = T at *
  have HTT : Hid (w.heap.size ≤ T) := Nat.le_of_eq hTT
  clear hTT
  refine (token_x κ tsB P 0 _ HS0.out (by omega)).mono ?_
  rw [tsB0]
  rintro e1 W1 ⟨rfl, hb1⟩
  have HS1 : Hid (PsAt κ tsB P 0 W1) := HS0.out.later hb1
  have HB1 : Hid (But P w W1) := HB0.out.trans (But.of hb1)
  have HT1 := Lib.hid (HT0.out.below hb1)
  clear HS0 HB0 HT0 hb1
  go_wp2_with fail
  refine (ahead1 κ tsB P 0 _ HS1.out (by omega)).mono ?_
  rw [tsB1]
  rintro e1 W2 ⟨rfl, hb2⟩
  have HS2 : Hid (PsAt κ tsB P 0 W2) := HS1.out.later hb2
  have HB2 : Hid (But P w W2) := HB1.out.trans (But.of hb2)
  have HT2 := Lib.hid (HT1.out.below hb2)
  clear HS1 HB1 HT1 hb2
  go_wp2_with fail
  refine (isSign_any ⟨3, 3, ⟨#[40]⟩, 0⟩ _ _).mono ?_
  rw [show sgOf ⟨3, 3, ⟨#[40]⟩, 0⟩ ⟨#[61, 62]⟩ = false from by rw [sgOf_eq]; rfl]
  rintro e1 W3 ⟨rfl, hb3⟩
  have HS3 : Hid (PsAt κ tsB P 0 W3) := HS2.out.later hb3
  have HB3 : Hid (But P w W3) := HB2.out.trans (But.of hb3)
  have HT3 := Lib.hid (HT2.out.below hb3)
  clear HS2 HB2 HT2 hb3
  go_wp2_with fail
  refine (declared_b κ P _ HS3.out).mono ?_
  rintro e1 W4 ⟨v, rfl, hn, hs4, hb4⟩
  obtain ⟨la, ln, lc, rfl⟩ := nd_val hn
  have HN_4 := Lib.hid (hn.move (S' := fun g => T < g) fun g h1 h2 => ⟨rfl, Nat.lt_of_lt_of_le HT3.out.lt h1⟩)
  have HS4 := Lib.hid hs4
  have HB4 : Hid (But P w W4) := HB3.out.trans hb4
  have HT4 := Lib.hid (HT3.out.but hb4 HL.out.p)
  clear HB3 HT3 HS3 hn hs4 hb4
  obtain ⟨u0, u1, u2, u3, u4⟩ := HT4.out.cells
  have z0 := HT4.out.frozen 0
  have z1 := HT4.out.frozen 1
  have z2 := HT4.out.frozen 2
  have z3 := HT4.out.frozen 3
  have z4 := HT4.out.frozen 4
  go_wp2
  have HR := HT4.out.put (.int .i64 4) (.string ⟨#[109, 121]⟩) (.string ⟨#[]⟩) (.int .i64 1) (.slice la ln lc)
  obtain ⟨r0, r1, r2, r3, r4⟩ := HR.cells
  change bodyPost _ _ _ _ _ (ndW W4 T (.int .i64 4) (.string ⟨#[109, 121]⟩) (.string ⟨#[]⟩) (.int .i64 1) (.slice la ln lc))
  refine bodyPost_ret (v := .agg #[.int .i64 4, .string ⟨#[109, 121]⟩, .string ⟨#[]⟩, .int .i64 1, .slice la ln lc]) ?_ rfl (fn_ret HTT.out HL.out HS4.out HB4.out HN_4.out (fun g h => h))
  generalize ndW W4 T (.int .i64 4) (.string ⟨#[109, 121]⟩) (.string ⟨#[]⟩) (.int .i64 1) (.slice la ln lc) = WZ at *
  simp [results, Tryz.results246, go_sem, r0, r1, r2, r3, r4]

theorem cond_b (κ : Pc) (P : Nat) : Mt κ tsB P 0 155 (.ok 6 (.mk 4 ⟨#[109, 121]⟩ ⟨#[]⟩ 1 [.mk 5 ⟨#[97]⟩ ⟨#[]⟩ 0 [], .mk 6 ⟨#[98]⟩ ⟨#[]⟩ 0 []])) := by
  have ht := term_word κ tsB P 0 _ (by omega) rfl (wordTerm_b κ P)
  have hp := post_plain κ tsB P 0 _ ht (show _ ∧ _ from ⟨by omega, by rw [tsB6, sgOf_eq]; rfl⟩)
  exact chain_cond hp (by omega) rfl (show _ ∧ _ from ⟨by omega, qc_eq 12 0⟩)
theorem assign_7 (κ : Pc) (P : Nat) : Mt κ tsB P 7 135 (.ok 8 (.mk 6 ⟨#[95]⟩ ⟨#[]⟩ 0 [])) := by
  have ht := term_var κ tsB P 7 0 _ (by omega) rfl (var_u κ tsB P 7 14 (by omega) tsB7 (by rw [tsB8, sgOf_eq]; rfl) (by rw [tsB8, opOf_eq]; rfl))
  have hp := post_plain κ tsB P 7 _ ht (show _ ∧ _ from ⟨by omega, by rw [tsB8, sgOf_eq]; rfl⟩)
  exact chain_assign hp (by omega) rfl (show _ ∧ _ from ⟨by omega, (qe_se 16 0).toQa⟩)

set_option maxRecDepth 100000 in
set_option maxHeartbeats 16000000 in
theorem isAssignable_my (s u : ByteArray) (n : Int) (la : Option Addr) (ln lc : Nat) (w : World) : Calls Tryz.prog 156 #[.agg #[.int .i64 4, .string s, .string u, .int .i64 n, .slice la ln lc]] w (LkP (.bool true) w) := by
  have HP : Hid (∀ w', Below w.heap.size w w' → LkP (.bool true) w (.returned (.bool true)) w') := fun w' h => ⟨rfl, h⟩
  have HB : Hid (∀ o, Below w.heap.size w (w.alloc o)) := fun o => (Below.refl _ _).alloc (Nat.le_refl _) _
  go_enter Tryz.func156, Tryz.ntmps156
  go_wp2
  go_ret
  exact HP.out _ (HB.out _)

set_option maxRecDepth 100000 in
set_option maxHeartbeats 8000000 in
theorem assign_b (κ : Pc) (P : Nat)  : Mt κ tsB P (0) 135 (.ok 8 (.mk 27 ⟨#[]⟩ ⟨#[]⟩ 0 [(.mk 4 ⟨#[109, 121]⟩ ⟨#[]⟩ 1 [.mk 5 ⟨#[97]⟩ ⟨#[]⟩ 0 [], .mk 6 ⟨#[98]⟩ ⟨#[]⟩ 0 []]), .mk 6 ⟨#[95]⟩ ⟨#[]⟩ 0 []])) := by
  intro w h
  have HL := Lib.hid h.all
  have HS0 : Hid (PsAt κ tsB P 0 (w.alloc zN)) := h.later ((Below.refl _ _).alloc (Nat.le_refl _) _)
  have HB0 : Hid (But P w (w.alloc zN)) := But.alloc P w _
  have HT0 := Lib.hid (NkAt.zero w)
  unfold zN at HS0 HB0 HT0
  have HM := Lib.hid (cond_b κ P)
  clear h
  go_enter Tryz.func135, Tryz.ntmps135
  go_wp2_with fail
  generalize w.alloc _ = W0 at *
  generalize hTT : w.heap.size = T at *
  have HTT : Hid (w.heap.size ≤ T) := Nat.le_of_eq hTT
  clear hTT
  refine (HM.out _ HS0.out).mono ?_
  rintro e1 W1 ⟨v, rfl, hn, hs1, hb1⟩
  obtain ⟨la, ln, lc, rfl⟩ := nd_val hn
  have HN_1 := Lib.hid (hn.move (S' := fun g => T < g) fun g h1 h2 => ⟨rfl, Nat.lt_of_lt_of_le HT0.out.lt h1⟩)
  have HS1 := Lib.hid hs1
  have HB1 : Hid (But P w W1) := HB0.out.trans hb1
  have HT1 := Lib.hid (HT0.out.but hb1 HL.out.p)
  clear HB0 HT0 HS0 hn hs1 hb1 HM
  have HX2 := Lib.hid (NkAt.new W1 (.int .i64 4) (.string ⟨#[109, 121]⟩) (.string ⟨#[]⟩) (.int .i64 1) (.slice la ln lc))
  have HGX : Hid (T < W1.heap.size) := HT1.out.lt
  have hb2 : Below W1.heap.size W1 (W1.alloc (.cells #[.int .i64 4, .string ⟨#[109, 121]⟩, .string ⟨#[]⟩, .int .i64 1, .slice la ln lc] 28)) := (Below.refl _ _).alloc (Nat.le_refl _) _
  have HS2 : Hid (PsAt κ tsB P 6 (W1.alloc (.cells #[.int .i64 4, .string ⟨#[109, 121]⟩, .string ⟨#[]⟩, .int .i64 1, .slice la ln lc] 28))) := HS1.out.later hb2
  have HB2 : Hid (But P w (W1.alloc (.cells #[.int .i64 4, .string ⟨#[109, 121]⟩, .string ⟨#[]⟩, .int .i64 1, .slice la ln lc] 28))) := HB1.out.trans (But.of hb2)
  have HT2 := Lib.hid (HT1.out.below hb2)
  have HN_2 := Lib.hid (HN_1.out.move (S' := fun g => T < g) (w' := (W1.alloc (.cells #[.int .i64 4, .string ⟨#[109, 121]⟩, .string ⟨#[]⟩, .int .i64 1, .slice la ln lc] 28))) fun g h1 h2 => ⟨hb2.block g h2, h1⟩)
  clear HS1 HB1 HT1 HN_1 hb2
  go_wp2_with fail
  generalize W1.alloc _ = W2 at *
  generalize W1.heap.size = X at *
  refine (token_x κ tsB P 6 _ HS2.out (by omega)).mono ?_
  rw [tsB6]
  rintro e1 W3 ⟨rfl, hb3⟩
  have HS3 : Hid (PsAt κ tsB P 6 W3) := HS2.out.later hb3
  have HB3 : Hid (But P w W3) := HB2.out.trans (But.of hb3)
  have HT3 := Lib.hid (HT2.out.below hb3)
  have HX3 := Lib.hid (HX2.out.below hb3)
  have HN_3 := Lib.hid (HN_2.out.move (S' := fun g => T < g) (w' := W3) fun g h1 h2 => ⟨hb3.block g h2, h1⟩)
  clear HS2 HB2 HT2 HX2 HN_2 hb3
  have HY4 := Lib.hid (TkAt.new W3 (.int .i64 3) (.int .i64 12) (.string ⟨#[61]⟩) (.string ⟨#[]⟩) (.string ⟨#[]⟩) (.int .i64 0))
  have HGY : Hid (T < W3.heap.size) := HT3.out.lt
  have hb4 : Below W3.heap.size W3 (W3.alloc (.cells #[.int .i64 3, .int .i64 12, .string ⟨#[61]⟩, .string ⟨#[]⟩, .string ⟨#[]⟩, .int .i64 0] 101)) := (Below.refl _ _).alloc (Nat.le_refl _) _
  have HS4 : Hid (PsAt κ tsB P 6 (W3.alloc (.cells #[.int .i64 3, .int .i64 12, .string ⟨#[61]⟩, .string ⟨#[]⟩, .string ⟨#[]⟩, .int .i64 0] 101))) := HS3.out.later hb4
  have HB4 : Hid (But P w (W3.alloc (.cells #[.int .i64 3, .int .i64 12, .string ⟨#[61]⟩, .string ⟨#[]⟩, .string ⟨#[]⟩, .int .i64 0] 101))) := HB3.out.trans (But.of hb4)
  have HT4 := Lib.hid (HT3.out.below hb4)
  have HX4 := Lib.hid (HX3.out.below hb4)
  have HN_4 := Lib.hid (HN_3.out.move (S' := fun g => T < g) (w' := (W3.alloc (.cells #[.int .i64 3, .int .i64 12, .string ⟨#[61]⟩, .string ⟨#[]⟩, .string ⟨#[]⟩, .int .i64 0] 101))) fun g h1 h2 => ⟨hb4.block g h2, h1⟩)
  clear HS3 HB3 HT3 HX3 HN_3 hb4
  obtain ⟨x0, x1, x2, x3, x4⟩ := HX4.out.cells
  go_wp2_with fail
  generalize W3.alloc _ = W4 at *
  generalize W3.heap.size = Y at *
  refine (isAssignable_my _ _ _ _ _ _ _).mono ?_
  rintro e1 W5 ⟨rfl, hb5⟩
  have HS5 : Hid (PsAt κ tsB P 6 W5) := HS4.out.later hb5
  have HB5 : Hid (But P w W5) := HB4.out.trans (But.of hb5)
  have HT5 := Lib.hid (HT4.out.below hb5)
  have HX5 := Lib.hid (HX4.out.below hb5)
  have HY5 := Lib.hid (HY4.out.later (hb5.block _ HY4.out.lt))
  have HN_5 := Lib.hid (HN_4.out.move (S' := fun g => T < g) (w' := W5) fun g h1 h2 => ⟨hb5.block g h2, h1⟩)
  clear HS4 HB4 HT4 HX4 HY4 HN_4 hb5
  obtain ⟨c0, c1, cz⟩ := HS5.out.cells
  have hb6 : But P W5 (W5.setCell ⟨P, 1, none⟩ (.int .i64 7)) := (But.refl P _).set 1 _
  have HS6 : Hid (PsAt κ tsB P 7 (W5.setCell ⟨P, 1, none⟩ (.int .i64 7))) := HS5.out.step 7
  have HB6 : Hid (But P w (W5.setCell ⟨P, 1, none⟩ (.int .i64 7))) := HB5.out.trans hb6
  have HT6 := Lib.hid (HT5.out.but hb6 HL.out.p)
  have HX6 := Lib.hid (HX5.out.but hb6 (by have := HL.out.p; have := HGX.out; omega))
  have HY6 := Lib.hid (HY5.out.later (hb6.block _ HY5.out.lt (by have := HL.out.p; have := HGY.out; omega)))
  have HN_6 := Lib.hid (HN_5.out.move (S' := fun g => T < g) (w' := (W5.setCell ⟨P, 1, none⟩ (.int .i64 7))) fun g h1 h2 => ⟨hb6.block g h2 (by have := HL.out.p; omega), h1⟩)
  clear HB5 HT5 HX5 HY5 HN_5 HS5 hb6
  go_wp2
  clear c0 c1 cz
  generalize W5.setCell _ _ = W30 at *
  have hb7 : Below W30.heap.size W30 W30.drew := (Below.refl _ _).drew
  obtain ⟨x0, x1, x2, x3, x4⟩ := HX6.out.cells
  have HS7 : Hid (PsAt κ tsB P 7 W30.drew) := HS6.out.later hb7
  have HB7 : Hid (But P w W30.drew) := HB6.out.trans (But.of hb7)
  have HT7 := Lib.hid (HT6.out.below hb7)
  have HX7 := Lib.hid (HX6.out.below hb7)
  have HY7 := Lib.hid (HY6.out.later (hb7.block _ HY6.out.lt))
  have HN_7 := Lib.hid (HN_6.out.move (S' := fun g => T < g) (w' := W30.drew) fun g h1 h2 => ⟨hb7.block g h2, h1⟩)
  clear HS6 HB6 HT6 HX6 HY6 HN_6 hb7
  have HSq := HS7
  have HBq := HB7
  have HTq := HT7
  have HXq := HX7
  have HNq := HN_7
  clear HS7 HB7 HT7 HX7 HN_7
  have HAS := Lib.hid (assign_7 κ P)
  go_region_with (first
    | (go_at_call 135; refine (HAS.out _ HSq.out).mono ?_; rintro e9 wd ⟨v, rfl, hnv, hs9, hb9⟩
       have HVV := Lib.hid (hnv.move (S' := fun g => T < g) fun g h1 h2 => ⟨rfl, Nat.lt_of_lt_of_le HTq.out.lt h1⟩)
       replace HSq := Lib.hid hs9
       replace HBq := Lib.hid (HBq.out.trans hb9)
       replace HNq := Lib.hid (HNq.out.move (S' := fun g => T < g) fun g h1 h2 => ⟨hb9.block g h2 (by have := HL.out.p; omega), h1⟩)
       replace HTq := Lib.hid (HTq.out.but hb9 HL.out.p)
       replace HXq := Lib.hid (HXq.out.but hb9 (by have := HL.out.p; have := HGX.out; omega))
       obtain ⟨x0, x1, x2, x3, x4⟩ := HXq.out.cells
       clear hb9 hnv hs9)
    | (go_at_call 93; refine (pair_any (fun g => T < g) 27 _ _ _ _ _ HNq.out HVV.out).mono ?_; rintro e9 W5 ⟨v, rfl, hb9, hnv⟩
       obtain ⟨lz, lnz, lcz, rfl⟩ := nd_val hnv
       have HV := Lib.hid (hnv.move (S' := fun g => T < g) fun g h1 h2 => ⟨rfl, by have := HTq.out.lt; rcases h1 with h1 | h1 <;> omega⟩)
       have HSz := Lib.hid (HSq.out.later hb9)
       have HBz := Lib.hid (HBq.out.trans (But.of hb9))
       have HTz := Lib.hid (HTq.out.below hb9)
       obtain ⟨u0, u1, u2, u3, u4⟩ := HTz.out.cells
       have z0 := HTz.out.frozen 0
       have z1 := HTz.out.frozen 1
       have z2 := HTz.out.frozen 2
       have z3 := HTz.out.frozen 3
       have z4 := HTz.out.frozen 4
       clear hb9 hnv))
  all_goals (
    have HR := HTz.out.put (.int .i64 27) (.string ⟨#[]⟩) (.string ⟨#[]⟩) (.int .i64 0) (.slice lz lnz lcz)
    obtain ⟨r0, r1, r2, r3, r4⟩ := HR.cells
    go_wp2
    change bodyPost _ _ _ _ _ (ndW W5 T (.int .i64 27) (.string ⟨#[]⟩) (.string ⟨#[]⟩) (.int .i64 0) (.slice lz lnz lcz))
    refine bodyPost_ret (v := .agg #[.int .i64 27, .string ⟨#[]⟩, .string ⟨#[]⟩, .int .i64 0, .slice lz lnz lcz]) ?_ rfl (fn_ret HTT.out HL.out HSz.out HBz.out HV.out (fun g h => h))
    generalize ndW W5 T (.int .i64 27) (.string ⟨#[]⟩) (.string ⟨#[]⟩) (.int .i64 0) (.slice lz lnz lcz) = WZ at *
    simp [results, Tryz.results135, go_sem, r0, r1, r2, r3, r4])

def nMy : Nd := (.mk 4 ⟨#[109, 121]⟩ ⟨#[]⟩ 1 [.mk 5 ⟨#[97]⟩ ⟨#[]⟩ 0 [], .mk 6 ⟨#[98]⟩ ⟨#[]⟩ 0 []])
theorem text_b (κ : Pc) (P : Nat) : Mt κ tsB P 0 53 (.ok 8 (.mk 27 ⟨#[]⟩ ⟨#[]⟩ 0 [nMy, .mk 6 ⟨#[95]⟩ ⟨#[]⟩ 0 []])) :=
  chain_up (assign_b κ P) (by omega) (by rw [tsB0, wdOf_eq]; rfl) (show _ ∧ _ ∧ _ from ⟨by omega, by rw [tsB8, wdOf_eq]; rfl, by rw [tsB8, wdOf_eq]; rfl⟩)


end Go.Proofs.YtaocbhfehncdcaaGreatDoor

namespace Go.Proofs.YtaocbhfehncdcaaGreatDoor
open Go.RowKit


theorem last_drew {W : World} {o : Obj} {n : Nat} (hn : W.heap.size = n) : (W.alloc o).drew.heap[n]? = some o := last_at (w := W.alloc o) rfl hn
def OcL (κ : Pc) (ts : List Tt) (P j : Nat) (l : List Nd) (w : World) (e : Ending) (w' : World) : Prop := ∃ v, e = .returned v ∧ NsAt (fun g => w.heap.size ≤ g) w' l v ∧ PsAt κ ts P j w' ∧ But P w w'

set_option maxRecDepth 100000 in
set_option maxHeartbeats 8000000 in
theorem simple_ok (κ : Pc) (ts : List Tt) (P k : Nat) (j : Nat) (t : Nd) (hm : Mt κ ts P k 53 (.ok j t)) (hj : j ≤ 900) (q0 : wdOf (tAt ts j) ⟨#[117, 110, 108, 101, 115, 115]⟩ = false) (q1 : wdOf (tAt ts j) ⟨#[105, 102]⟩ = false) (q2 : sgOf (tAt ts j) ⟨#[59]⟩ = true) : Mt κ ts P k 89 (.ok (j + 1) (.mk 40 ⟨#[]⟩ ⟨#[]⟩ 0 [t])) := by
  intro w h
  have HL := Lib.hid h.all
  have HS0 : Hid (PsAt κ ts P k (w.alloc zN)) := h.later ((Below.refl _ _).alloc (Nat.le_refl _) _)
  have HB0 : Hid (But P w (w.alloc zN)) := But.alloc P w _
  have HT0 := Lib.hid (NkAt.zero w)
  unfold zN at HS0 HB0 HT0
  have HM := Lib.hid hm
  clear hm
  clear h
  go_enter Tryz.func89, Tryz.ntmps89
  go_wp2_with fail
  generalize w.alloc _ = W0 at *
  generalize hTT : w.heap.size = T at *
  have HTT : Hid (w.heap.size ≤ T) := Nat.le_of_eq hTT
  clear hTT
  refine (HM.out _ HS0.out).mono ?_
  rintro e1 W1 ⟨v, rfl, hn, hs1, hb1⟩
  have HV := Lib.hid (hn.move (S' := fun g => T < g) fun g h1 h2 => ⟨rfl, Nat.lt_of_lt_of_le HT0.out.lt h1⟩)
  have HS1 := Lib.hid hs1
  have HB1 : Hid (But P w W1) := HB0.out.trans hb1
  have HT1 := Lib.hid (HT0.out.but hb1 HL.out.p)
  clear HB0 HT0 HS0 hn hs1 hb1 HM
  go_wp2_with fail
  refine (one_any (fun g => T < g) 40 t v _ HV.out).mono ?_
  rintro e1 W2 ⟨v, rfl, hb2, hn⟩
  obtain ⟨la, ln, lc, rfl⟩ := nd_val hn
  have HN_2 := Lib.hid (hn.move (S' := fun g => T < g) fun g h1 h2 => ⟨rfl, by have := HT1.out.lt; rcases h1 with h1 | h1 <;> omega⟩)
  have HS2 : Hid (PsAt κ ts P j W2) := HS1.out.later hb2
  have HB2 : Hid (But P w W2) := HB1.out.trans (But.of hb2)
  have HT2 := Lib.hid (HT1.out.below hb2)
  clear HS1 HB1 HT1 hn hb2
  have HX3 := Lib.hid (NkAt.new W2 (.int .i64 40) (.string ⟨#[]⟩) (.string ⟨#[]⟩) (.int .i64 0) (.slice la ln lc))
  have HGX : Hid (T < W2.heap.size) := HT2.out.lt
  have hb3 : Below W2.heap.size W2 (W2.alloc (.cells #[.int .i64 40, .string ⟨#[]⟩, .string ⟨#[]⟩, .int .i64 0, .slice la ln lc] 28)) := (Below.refl _ _).alloc (Nat.le_refl _) _
  have HS3 : Hid (PsAt κ ts P j (W2.alloc (.cells #[.int .i64 40, .string ⟨#[]⟩, .string ⟨#[]⟩, .int .i64 0, .slice la ln lc] 28))) := HS2.out.later hb3
  have HB3 : Hid (But P w (W2.alloc (.cells #[.int .i64 40, .string ⟨#[]⟩, .string ⟨#[]⟩, .int .i64 0, .slice la ln lc] 28))) := HB2.out.trans (But.of hb3)
  have HT3 := Lib.hid (HT2.out.below hb3)
  have HN_3 := Lib.hid (HN_2.out.move (S' := fun g => T < g) (w' := (W2.alloc (.cells #[.int .i64 40, .string ⟨#[]⟩, .string ⟨#[]⟩, .int .i64 0, .slice la ln lc] 28))) fun g h1 h2 => ⟨hb3.block g h2, h1⟩)
  clear HS2 HB2 HT2 HN_2 hb3
  go_wp2_with fail
  generalize W2.alloc _ = W3 at *
  generalize W2.heap.size = X at *
  refine (word_any κ ts P j _ HS3.out (by omega) _).mono ?_
  rintro e1 W4 ⟨rfl, hb4⟩
  have HS4 : Hid (PsAt κ ts P j W4) := HS3.out.later hb4
  have HB4 : Hid (But P w W4) := HB3.out.trans (But.of hb4)
  have HT4 := Lib.hid (HT3.out.below hb4)
  have HX4 := Lib.hid (HX3.out.below hb4)
  have HN_4 := Lib.hid (HN_3.out.move (S' := fun g => T < g) (w' := W4) fun g h1 h2 => ⟨hb4.block g h2, h1⟩)
  clear HS3 HB3 HT3 HX3 HN_3 hb4
  rw [q0]
  go_wp2_with fail
  refine (word_any κ ts P j _ HS4.out (by omega) _).mono ?_
  rintro e1 W5 ⟨rfl, hb5⟩
  have HS5 : Hid (PsAt κ ts P j W5) := HS4.out.later hb5
  have HB5 : Hid (But P w W5) := HB4.out.trans (But.of hb5)
  have HT5 := Lib.hid (HT4.out.below hb5)
  have HX5 := Lib.hid (HX4.out.below hb5)
  have HN_5 := Lib.hid (HN_4.out.move (S' := fun g => T < g) (w' := W5) fun g h1 h2 => ⟨hb5.block g h2, h1⟩)
  clear HS4 HB4 HT4 HX4 HN_4 hb5
  rw [q1]
  go_wp2_with fail
  refine (want_ok κ ts P j _ HS5.out (by omega) _ q2).mono ?_
  rintro e1 W6 ⟨rfl, hs6, hb6⟩
  have HS6 := Lib.hid hs6
  have HB6 : Hid (But P w W6) := HB5.out.trans hb6
  have HT6 := Lib.hid (HT5.out.but hb6 HL.out.p)
  have HX6 := Lib.hid (HX5.out.but hb6 (by have := HL.out.p; have := HGX.out; omega))
  have HN_6 := Lib.hid (HN_5.out.move (S' := fun g => T < g) (w' := W6) fun g h1 h2 => ⟨hb6.block g h2 (by have := HL.out.p; omega), h1⟩)
  clear HB5 HT5 HX5 HN_5 HS5 hs6 hb6
  obtain ⟨x0, x1, x2, x3, x4⟩ := HX6.out.cells
  obtain ⟨u0, u1, u2, u3, u4⟩ := HT6.out.cells
  have z0 := HT6.out.frozen 0
  have z1 := HT6.out.frozen 1
  have z2 := HT6.out.frozen 2
  have z3 := HT6.out.frozen 3
  have z4 := HT6.out.frozen 4
  go_wp2
  have HR := HT6.out.put (.int .i64 40) (.string ⟨#[]⟩) (.string ⟨#[]⟩) (.int .i64 0) (.slice la ln lc)
  obtain ⟨r0, r1, r2, r3, r4⟩ := HR.cells
  change bodyPost _ _ _ _ _ (ndW W6 T (.int .i64 40) (.string ⟨#[]⟩) (.string ⟨#[]⟩) (.int .i64 0) (.slice la ln lc))
  refine bodyPost_ret (v := .agg #[.int .i64 40, .string ⟨#[]⟩, .string ⟨#[]⟩, .int .i64 0, .slice la ln lc]) ?_ rfl (fn_ret HTT.out HL.out HS6.out HB6.out HN_6.out (fun g h => h))
  generalize ndW W6 T (.int .i64 40) (.string ⟨#[]⟩) (.string ⟨#[]⟩) (.int .i64 0) (.slice la ln lc) = WZ at *
  simp [results, Tryz.results89, go_sem, r0, r1, r2, r3, r4]
set_option maxRecDepth 100000 in
set_option maxHeartbeats 16000000 in
theorem simple_c (κ : Pc) (P : Nat) (w : World) (h : PsAt κ tsC P 0 w) : Calls Tryz.prog 89 #[.pointer (some ⟨P, 0, none⟩)] w (BadP P 3 w) := by
  have H0 : Hid (∀ W, Below w.heap.size w W → PsAt κ tsC P 0 W) := fun W hb => h.later hb
  have HB0 : Hid (But P w (w.alloc zN)) := But.alloc P w _
  have HS0 := Lib.hid (h.later ((Below.refl _ _).alloc (Nat.le_refl _) zN))
  unfold zN at HB0 HS0
  have HM := Lib.hid (text_c κ P)
  clear h
  go_enter Tryz.func89, Tryz.ntmps89
  go_wp2_with fail
  generalize w.alloc _ = W0 at *
  refine (HM.out _ HS0.out).mono ?_
  rintro e1 W1 ⟨rfl, hb⟩
  have HB1 : Hid (But P w W1) := HB0.out.trans hb
  clear hb
  go_wp2
  exact ⟨rfl, rfl, HB1.out⟩

set_option maxRecDepth 100000 in
set_option maxHeartbeats 16000000 in
theorem worded_c (κ : Pc) (P : Nat) (w : World) (h : PsAt κ tsC P 0 w) : Calls Tryz.prog 88 #[.pointer (some ⟨P, 0, none⟩), .string ⟨#[102]⟩] w (BadP P 3 w) := by
  have H0 : Hid (∀ W, Below w.heap.size w W → PsAt κ tsC P 0 W) := fun W hb => h.later hb
  have HB0 : Hid (But P w (w.alloc zN)) := But.alloc P w _
  have HS0 := Lib.hid (h.later ((Below.refl _ _).alloc (Nat.le_refl _) zN))
  unfold zN at HB0 HS0
  have HM := Lib.hid (simple_c κ P)
  clear h
  go_enter Tryz.func88, Tryz.ntmps88
  go_wp2_with fail
  generalize w.alloc _ = W0 at *
  refine (HM.out _ HS0.out).mono ?_
  rintro e1 W1 ⟨rfl, hb⟩
  have HB1 : Hid (But P w W1) := HB0.out.trans hb
  clear hb
  go_wp2
  exact ⟨rfl, rfl, HB1.out⟩

theorem simple_b (κ : Pc) (P : Nat) : Mt κ tsB P 0 89 (.ok 9 (.mk 40 ⟨#[]⟩ ⟨#[]⟩ 0 [.mk 27 ⟨#[]⟩ ⟨#[]⟩ 0 [nMy, .mk 6 ⟨#[95]⟩ ⟨#[]⟩ 0 []]])) :=
  simple_ok κ tsB P 0 8 _ (text_b κ P) (by omega) (by rw [tsB8, wdOf_eq]; rfl) (by rw [tsB8, wdOf_eq]; rfl) (by rw [tsB8, sgOf_eq]; rfl)

set_option maxRecDepth 100000 in
set_option maxHeartbeats 8000000 in
theorem worded_b (κ : Pc) (P : Nat) : ∀ w, PsAt κ tsB P 0 w → Calls Tryz.prog 88 #[.pointer (some ⟨P, 0, none⟩), .string ⟨#[109, 121]⟩] w (OcP κ tsB P (.ok 9 (.mk 40 ⟨#[]⟩ ⟨#[]⟩ 0 [.mk 27 ⟨#[]⟩ ⟨#[]⟩ 0 [nMy, .mk 6 ⟨#[95]⟩ ⟨#[]⟩ 0 []]])) w) := by
  intro w h
  have HL := Lib.hid h.all
  have HS0 : Hid (PsAt κ tsB P 0 (w.alloc zN)) := h.later ((Below.refl _ _).alloc (Nat.le_refl _) _)
  have HB0 : Hid (But P w (w.alloc zN)) := But.alloc P w _
  have HT0 := Lib.hid (NkAt.zero w)
  unfold zN at HS0 HB0 HT0
  have HM := Lib.hid (simple_b κ P)
  clear h
  go_enter Tryz.func88, Tryz.ntmps88
  go_wp2_with fail
  generalize w.alloc _ = W0 at *
  generalize hTT : w.heap.size = T at *
  have HTT : Hid (w.heap.size ≤ T) := Nat.le_of_eq hTT
  clear hTT
  refine (HM.out _ HS0.out).mono ?_
  rintro e1 W1 ⟨v, rfl, hn, hs1, hb1⟩
  obtain ⟨la, ln, lc, rfl⟩ := nd_val hn
  have HN_1 := Lib.hid (hn.move (S' := fun g => T < g) fun g h1 h2 => ⟨rfl, Nat.lt_of_lt_of_le HT0.out.lt h1⟩)
  have HS1 := Lib.hid hs1
  have HB1 : Hid (But P w W1) := HB0.out.trans hb1
  have HT1 := Lib.hid (HT0.out.but hb1 HL.out.p)
  clear HB0 HT0 HS0 hn hs1 hb1 HM
  obtain ⟨u0, u1, u2, u3, u4⟩ := HT1.out.cells
  have z0 := HT1.out.frozen 0
  have z1 := HT1.out.frozen 1
  have z2 := HT1.out.frozen 2
  have z3 := HT1.out.frozen 3
  have z4 := HT1.out.frozen 4
  go_wp2
  have HR := HT1.out.put (.int .i64 40) (.string ⟨#[]⟩) (.string ⟨#[]⟩) (.int .i64 0) (.slice la ln lc)
  obtain ⟨r0, r1, r2, r3, r4⟩ := HR.cells
  change bodyPost _ _ _ _ _ (ndW W1 T (.int .i64 40) (.string ⟨#[]⟩) (.string ⟨#[]⟩) (.int .i64 0) (.slice la ln lc))
  refine bodyPost_ret (v := .agg #[.int .i64 40, .string ⟨#[]⟩, .string ⟨#[]⟩, .int .i64 0, .slice la ln lc]) ?_ rfl (fn_ret HTT.out HL.out HS1.out HB1.out HN_1.out (fun g h => h))
  generalize ndW W1 T (.int .i64 40) (.string ⟨#[]⟩) (.string ⟨#[]⟩) (.int .i64 0) (.slice la ln lc) = WZ at *
  simp [results, Tryz.results88, go_sem, r0, r1, r2, r3, r4]
theorem field_k (k a o : Int) (x : ByteArray) (w : World) : (Instr.field 101 (.agg #[.int .i64 k, .int .i64 a, .string x, .string ⟨#[]⟩, .string ⟨#[]⟩, .int .i64 o]) 0).run Tryz.prog w = .ok (.int .i64 k) w := by kernel_rfl

set_option maxRecDepth 100000 in
set_option maxHeartbeats 16000000 in
theorem label_b (κ : Pc) (P : Nat) (w : World) (h : PsAt κ tsB P 0 w) : Calls Tryz.prog 83 #[.pointer (some ⟨P, 0, none⟩)] w (LkP (.string ⟨#[]⟩) w) := by
  have HP : Hid (∀ w', Below w.heap.size w w' → LkP (.string ⟨#[]⟩) w (.returned (.string ⟨#[]⟩)) w') := fun w' h => ⟨rfl, h⟩
  have H0 := Lib.hid h
  have hfd := field_k 0 0 0 (ByteArray.mk #[109, 121])
  clear h
  go_enter Tryz.func83, Tryz.ntmps83
  go_wp2_with fail
  refine (token_x κ tsB P 0 _ H0.out (by omega)).mono ?_
  rw [tsB0]
  rintro e1 W1 ⟨rfl, hb1⟩
  have H1 := Lib.hid (H0.out.later hb1)
  have HB1 := Lib.hid hb1
  clear hb1 H0
  go_wp2_with fail
  refine (ahead1 κ tsB P 0 _ H1.out (by omega)).mono ?_
  rw [tsB1]
  rintro e1 W2 ⟨rfl, hb2⟩
  have HB2 : Hid (Below w.heap.size w W2) := HB1.out.trans (hb2.mono HB1.out.size)
  clear hb2 H1 HB1
  go_wp2_with fail
  refine (isSign_any ⟨3, 3, ⟨#[40]⟩, 0⟩ _ _).mono ?_
  rw [show sgOf ⟨3, 3, ⟨#[40]⟩, 0⟩ ⟨#[58]⟩ = false from by rw [sgOf_eq]; rfl]
  rintro e1 W3 ⟨rfl, hb3⟩
  have HB3 : Hid (Below w.heap.size w W3) := HB2.out.trans (hb3.mono HB2.out.size)
  clear hb3 HB2
  go_wp2
  go_ret
  exact HP.out _ HB3.out

set_option maxRecDepth 100000 in
set_option maxHeartbeats 16000000 in
theorem label_c (κ : Pc) (P : Nat) (w : World) (h : PsAt κ tsC P 0 w) : Calls Tryz.prog 83 #[.pointer (some ⟨P, 0, none⟩)] w (LkP (.string ⟨#[]⟩) w) := by
  have HP : Hid (∀ w', Below w.heap.size w w' → LkP (.string ⟨#[]⟩) w (.returned (.string ⟨#[]⟩)) w') := fun w' h => ⟨rfl, h⟩
  have H0 := Lib.hid h
  have hfd := field_k 0 0 0 (ByteArray.mk #[102])
  clear h
  go_enter Tryz.func83, Tryz.ntmps83
  go_wp2_with fail
  refine (token_x κ tsC P 0 _ H0.out (by omega)).mono ?_
  rw [tsC0]
  rintro e1 W1 ⟨rfl, hb1⟩
  have H1 := Lib.hid (H0.out.later hb1)
  have HB1 := Lib.hid hb1
  clear hb1 H0
  go_wp2_with fail
  refine (ahead1 κ tsC P 0 _ H1.out (by omega)).mono ?_
  rw [tsC1]
  rintro e1 W2 ⟨rfl, hb2⟩
  have HB2 : Hid (Below w.heap.size w W2) := HB1.out.trans (hb2.mono HB1.out.size)
  clear hb2 H1 HB1
  go_wp2_with fail
  refine (isSign_any ⟨3, 1, ⟨#[40]⟩, 0⟩ _ _).mono ?_
  rw [show sgOf ⟨3, 1, ⟨#[40]⟩, 0⟩ ⟨#[58]⟩ = false from by rw [sgOf_eq]; rfl]
  rintro e1 W3 ⟨rfl, hb3⟩
  have HB3 : Hid (Below w.heap.size w W3) := HB2.out.trans (hb3.mono HB2.out.size)
  clear hb3 HB2
  go_wp2
  go_ret
  exact HP.out _ HB3.out

set_option maxRecDepth 100000 in
set_option maxHeartbeats 16000000 in
theorem isLoop_b (w : World) : Calls Tryz.prog 86 #[.string ⟨#[109, 121]⟩] w (LkP (.bool false) w) := by
  have HP : Hid (LkP (.bool false) w (.returned (.bool false)) w) := ⟨rfl, Below.refl _ _⟩
  go_enter Tryz.func86, Tryz.ntmps86
  go_wp2
  go_ret
  exact HP.out

set_option maxRecDepth 100000 in
set_option maxHeartbeats 16000000 in
theorem isLoop_c (w : World) : Calls Tryz.prog 86 #[.string ⟨#[102]⟩] w (LkP (.bool false) w) := by
  have HP : Hid (LkP (.bool false) w (.returned (.bool false)) w) := ⟨rfl, Below.refl _ _⟩
  go_enter Tryz.func86, Tryz.ntmps86
  go_wp2
  go_ret
  exact HP.out

set_option maxRecDepth 100000 in
set_option maxHeartbeats 16000000 in
theorem statement_b (κ : Pc) (P : Nat) (w : World) (h : PsAt κ tsB P 0 w) : Calls Tryz.prog 55 #[.pointer (some ⟨P, 0, none⟩), .slice none 0 0] w (OcL κ tsB P 9 [(.mk 40 ⟨#[]⟩ ⟨#[]⟩ 0 [.mk 27 ⟨#[]⟩ ⟨#[]⟩ 0 [nMy, .mk 6 ⟨#[95]⟩ ⟨#[]⟩ 0 []]])] w) := by
  have H0 := Lib.hid h
  have HPE : Hid (P < w.heap.size) := h.lt
  have HWD := Lib.hid (worded_b κ P)
  clear h
  go_enter Tryz.func55, Tryz.ntmps55
  go_wp2_with fail
  refine (sign_any κ tsB P 0 _ H0.out (by omega) _).mono ?_
  rw [show sgOf (tAt tsB 0) ⟨#[59]⟩ = false from by rw [tsB0, sgOf_eq]; rfl]
  rintro e1 W1 ⟨rfl, hb⟩
  have H1 := Lib.hid (H0.out.later hb)
  have HB1 := Lib.hid hb
  clear hb H0
  go_wp2_with fail
  refine (label_b κ P _ H1.out).mono ?_
  rintro e1 W2 ⟨rfl, hb⟩
  have H2 := Lib.hid (H1.out.later hb)
  have HB2 := Lib.hid (HB1.out.trans (hb.mono HB1.out.size))
  clear hb H1 HB1
  go_wp2_with fail
  refine (token_x κ tsB P 0 _ H2.out (by omega)).mono ?_
  rw [tsB0]
  rintro e1 W3 ⟨rfl, hb⟩
  have hba : Below W3.heap.size W3 (W3.alloc (.cells #[.int .i64 0, .int .i64 0, .string ⟨#[109, 121]⟩, .string ⟨#[]⟩, .string ⟨#[]⟩, .int .i64 0] 101)) := (Below.refl _ _).alloc (Nat.le_refl _) _
  have H4 := Lib.hid ((H2.out.later hb).later hba)
  have HB4 := Lib.hid ((HB2.out.trans (hb.mono HB2.out.size)).trans (hba.mono (Nat.le_trans HB2.out.size hb.size)))
  have HT4 := Lib.hid (TkAt.new W3 (.int .i64 0) (.int .i64 0) (.string ⟨#[109, 121]⟩) (.string ⟨#[]⟩) (.string ⟨#[]⟩) (.int .i64 0))
  clear hb hba H2 HB2
  go_wp2_with fail
  generalize W3.alloc _ = W4 at *
  generalize W3.heap.size = Y at *
  refine (opens_any κ tsB P 0 _ H4.out (by omega) _).mono ?_
  rw [show opOf (tAt tsB 0) 1 = false from by rw [tsB0, opOf_eq]; rfl]
  rintro e1 W5 ⟨rfl, hb⟩
  have H5 := Lib.hid (H4.out.later hb)
  have HB5 := Lib.hid (HB4.out.trans (hb.mono HB4.out.size))
  have HT5 := Lib.hid (HT4.out.later (hb.block _ HT4.out.lt))
  clear hb H4 HB4 HT4
  obtain ⟨y0, y1, y2, y3, y4, y5⟩ := HT5.out.cells
  go_wp2_with fail
  refine (isLoop_b _).mono ?_
  rintro e1 W6 ⟨rfl, hb⟩
  have H6 := Lib.hid (H5.out.later hb)
  have HB6 := Lib.hid (HB5.out.trans (hb.mono HB5.out.size))
  have HT6 := Lib.hid (HT5.out.later (hb.block _ HT5.out.lt))
  clear hb H5 HB5 HT5 y0 y1 y2 y3 y4 y5
  obtain ⟨y0, y1, y2, y3, y4, y5⟩ := HT6.out.cells
  go_wp2_with fail
  refine (HWD.out _ H6.out).mono ?_
  rintro e1 W7 ⟨v, rfl, hn, hs, hb⟩
  obtain ⟨la, ln, lc, rfl⟩ := nd_val hn
  have HB7 : Hid (But P w W7) := (But.of HB6.out).trans hb
  have HN7 := Lib.hid (hn.move (S' := fun g => w.heap.size ≤ g) fun g h1 h2 => ⟨rfl, Nat.le_trans HB6.out.size h1⟩)
  have HSZ : Hid (w.heap.size ≤ W7.heap.size) := HB7.out.size
  have hbx : ∀ o1 o2, Below W7.heap.size W7 ((W7.alloc o1).alloc o2).drew := fun o1 o2 => (((Below.refl _ _).alloc (Nat.le_refl _) _).alloc (by simp) _).drew
  have HX : Hid (∀ o1 es n c, OcL κ tsB P 9 [(.mk 40 ⟨#[]⟩ ⟨#[]⟩ 0 [.mk 27 ⟨#[]⟩ ⟨#[]⟩ 0 [nMy, .mk 6 ⟨#[95]⟩ ⟨#[]⟩ 0 []]])] w (.returned (.slice (some ⟨W7.heap.size + 1, 0, none⟩) 1 c)) ((W7.alloc o1).alloc (.cells (#[.int .i64 40, .string ⟨#[]⟩, .string ⟨#[]⟩, .int .i64 0, .slice la ln lc] ++ es) 28 n)).drew) := fun o1 es n c => by
    cases HN7.out with
    | mk hL =>
      refine ⟨_, rfl, .some (by have := HSZ.out; omega) (last_drew (by simp)) ?_ rfl (by decide), hs.later (hbx _ _), HB7.out.trans (But.of (hbx _ _))⟩
      have hr : NcAt (fun g => w.heap.size ≤ g) ((W7.alloc o1).alloc (.cells (#[.int .i64 40, .string ⟨#[]⟩, .string ⟨#[]⟩, .int .i64 0, .slice la ln lc] ++ es) 28 n)).drew [(.mk 40 ⟨#[]⟩ ⟨#[]⟩ 0 [.mk 27 ⟨#[]⟩ ⟨#[]⟩ 0 [nMy, .mk 6 ⟨#[95]⟩ ⟨#[]⟩ 0 []]])] [.int .i64 40, .string ⟨#[]⟩, .string ⟨#[]⟩, .int .i64 0, .slice la ln lc] := .cons (hL.move fun g h1 h2 => ⟨(hbx _ _).block g h2, h1⟩) .nil
      have := hr.more es.toList
      simpa using this
  clear hn hs hb hbx H6 HB6 HT6 y0 y1 y2 y3 y4 y5
  go_wp2
  go_ret
  exact HX.out _ _ _ _

set_option maxRecDepth 100000 in
set_option maxHeartbeats 16000000 in
theorem statement_c (κ : Pc) (P : Nat) (w : World) (h : PsAt κ tsC P 0 w) : Calls Tryz.prog 55 #[.pointer (some ⟨P, 0, none⟩), .slice none 0 0] w (BadP P 3 w) := by
  have H0 := Lib.hid h
  have HPE : Hid (P < w.heap.size) := h.lt
  have HWD := Lib.hid (worded_c κ P)
  clear h
  go_enter Tryz.func55, Tryz.ntmps55
  go_wp2_with fail
  refine (sign_any κ tsC P 0 _ H0.out (by omega) _).mono ?_
  rw [show sgOf (tAt tsC 0) ⟨#[59]⟩ = false from by rw [tsC0, sgOf_eq]; rfl]
  rintro e1 W1 ⟨rfl, hb⟩
  have H1 := Lib.hid (H0.out.later hb)
  have HB1 := Lib.hid hb
  clear hb H0
  go_wp2_with fail
  refine (label_c κ P _ H1.out).mono ?_
  rintro e1 W2 ⟨rfl, hb⟩
  have H2 := Lib.hid (H1.out.later hb)
  have HB2 := Lib.hid (HB1.out.trans (hb.mono HB1.out.size))
  clear hb H1 HB1
  go_wp2_with fail
  refine (token_x κ tsC P 0 _ H2.out (by omega)).mono ?_
  rw [tsC0]
  rintro e1 W3 ⟨rfl, hb⟩
  have hba : Below W3.heap.size W3 (W3.alloc (.cells #[.int .i64 0, .int .i64 0, .string ⟨#[102]⟩, .string ⟨#[]⟩, .string ⟨#[]⟩, .int .i64 0] 101)) := (Below.refl _ _).alloc (Nat.le_refl _) _
  have H4 := Lib.hid ((H2.out.later hb).later hba)
  have HB4 := Lib.hid ((HB2.out.trans (hb.mono HB2.out.size)).trans (hba.mono (Nat.le_trans HB2.out.size hb.size)))
  have HT4 := Lib.hid (TkAt.new W3 (.int .i64 0) (.int .i64 0) (.string ⟨#[102]⟩) (.string ⟨#[]⟩) (.string ⟨#[]⟩) (.int .i64 0))
  clear hb hba H2 HB2
  go_wp2_with fail
  generalize W3.alloc _ = W4 at *
  generalize W3.heap.size = Y at *
  refine (opens_any κ tsC P 0 _ H4.out (by omega) _).mono ?_
  rw [show opOf (tAt tsC 0) 1 = false from by rw [tsC0, opOf_eq]; rfl]
  rintro e1 W5 ⟨rfl, hb⟩
  have H5 := Lib.hid (H4.out.later hb)
  have HB5 := Lib.hid (HB4.out.trans (hb.mono HB4.out.size))
  have HT5 := Lib.hid (HT4.out.later (hb.block _ HT4.out.lt))
  clear hb H4 HB4 HT4
  obtain ⟨y0, y1, y2, y3, y4, y5⟩ := HT5.out.cells
  go_wp2_with fail
  refine (isLoop_c _).mono ?_
  rintro e1 W6 ⟨rfl, hb⟩
  have H6 := Lib.hid (H5.out.later hb)
  have HB6 := Lib.hid (HB5.out.trans (hb.mono HB5.out.size))
  have HT6 := Lib.hid (HT5.out.later (hb.block _ HT5.out.lt))
  clear hb H5 HB5 HT5 y0 y1 y2 y3 y4 y5
  obtain ⟨y0, y1, y2, y3, y4, y5⟩ := HT6.out.cells
  go_wp2_with fail
  refine (HWD.out _ H6.out).mono ?_
  rintro e1 W7 ⟨rfl, hb⟩
  have HB7 : Hid (But P w W7) := (But.of HB6.out).trans hb
  clear hb
  go_wp2
  exact ⟨rfl, rfl, HB7.out⟩


end Go.Proofs.YtaocbhfehncdcaaGreatDoor

namespace Go.Proofs.YtaocbhfehncdcaaGreatDoor
open Go.RowKit

mutual
def szN : Nd → Nat
  | .mk _ _ _ _ l => 1 + szL l
def szL : List Nd → Nat
  | [] => 0
  | t :: r => szN t + szL r
end
mutual
def dpN : Nd → Nat
  | .mk _ _ _ _ l => 1 + dpL l
def dpL : List Nd → Nat
  | [] => 0
  | t :: r => max (dpN t) (dpL r)
end
/-- What stands at a place of a row. -/
structure El (S : Nat → Prop) (w : World) (g p : Nat) (t : Nd) where
  op : Int
  s : ByteArray
  u : ByteArray
  n : Int
  l : List Nd
  a : Option Addr
  k : Nat
  c : Nat
  eq : t = .mk op s u n l
  c0 : w.cell? ⟨g, p, none⟩ = some (.int .i64 op)
  c1 : w.cell? ⟨g, p + 1, none⟩ = some (.string s)
  c2 : w.cell? ⟨g, p + 2, none⟩ = some (.string u)
  c3 : w.cell? ⟨g, p + 3, none⟩ = some (.int .i64 n)
  c4 : w.cell? ⟨g, p + 4, none⟩ = some (.slice a k c)
  ns : NsAt S w l (.slice a k c)
theorem NcAt.el {S : Nat → Prop} {w : World} {g : Nat} : ∀ {l : List Nd} {cs : List Value} (p : Nat), NcAt S w l cs → (∀ j x, cs[j]? = some x → w.cell? ⟨g, p + j, none⟩ = some x) → ∀ (i : Nat) (h : i < l.length), Nonempty (El S w g (p + i * 5) l[i])
  | _, _, p, .nil, _, i, h => absurd h (by simp)
  | _, _, p, .cons (op := op) (s := s) (t := u) (n := n) (l := l) (L := L) (ls := ls) (cs := cs) hL hr, hc, 0, h => by
    obtain ⟨a, k, c, rfl⟩ := hL.val
    refine ⟨⟨op, s, u, n, l, a, k, c, rfl, ?_, ?_, ?_, ?_, ?_, hL⟩⟩
    · simpa using hc 0 _ rfl
    · simpa using hc 1 _ rfl
    · simpa using hc 2 _ rfl
    · simpa using hc 3 _ rfl
    · simpa using hc 4 _ rfl
  | _, _, p, .cons hL hr, hc, i + 1, h => by
    have := hr.el (p + 5) (fun j x hx => by
      have h2 := hc (j + 5) x (by simpa using hx)
      rwa [show p + (j + 5) = p + 5 + j by omega] at h2) i (by simpa using h)
    rw [show p + (i + 1) * 5 = p + 5 + i * 5 by omega]
    exact this
/-- A row of trees: its slice, and what stands at each place. -/
theorem NsAt.row {S : Nat → Prop} {w : World} {l : List Nd} {L : Value} (h : NsAt S w l L) : ∃ a c, L = .slice a l.length c ∧ l.length ≤ maxLen ∧ (0 < l.length → ∃ g o, a = Option.some ⟨g, o, Option.none⟩ ∧ g < w.heap.size ∧ ∀ (i : Nat) (h : i < l.length), Nonempty (El S w g (o + i * 5) l[i])) := by
  cases h with
  | none => exact ⟨_, _, rfl, by simp, fun h => absurd h (by simp)⟩
  | some hS hg hc hn hm =>
    subst hn
    refine ⟨_, _, rfl, hm, fun _ => ⟨_, _, rfl, (Array.getElem?_eq_some_iff.1 hg).1, hc.el _ fun j x hx => ?_⟩⟩
    rw [Lib.cell_of_heap hg]
    rw [List.getElem?_drop] at hx
    simpa using hx
theorem sz_take (l : List Nd) (i : Nat) (h : i < l.length) : szL (l.take (i + 1)) = szL (l.take i) + szN l[i] := by
  induction l generalizing i with
  | nil => exact absurd h (by simp)
  | cons t r ih =>
    cases i with
    | zero => simp [szL]
    | succ i =>
      have := ih i (by simpa using h)
      simp only [List.take_succ_cons, szL, List.getElem_cons_succ]
      omega
theorem sz_el (l : List Nd) (i : Nat) (h : i < l.length) : szN l[i] ≤ szL l := by
  induction l generalizing i with
  | nil => exact absurd h (by simp)
  | cons t r ih =>
    cases i with
    | zero => simp [szL]
    | succ i =>
      have := ih i (by simpa using h)
      simp only [szL, List.getElem_cons_succ]
      omega
theorem len_sz (l : List Nd) : l.length ≤ szL l := by
  induction l with
  | nil => simp
  | cons t r ih =>
    obtain ⟨o, s, u, n, k⟩ := t
    simp only [szL, szN, List.length_cons]
    omega
theorem szL_le (l : List Nd) (i : Nat) (h : i < l.length) : szL (l.take i) + szN l[i] ≤ szL l := by
  induction l generalizing i with
  | nil => exact absurd h (by simp)
  | cons t r ih =>
    cases i with
    | zero => simp [szL]
    | succ i =>
      have := ih i (by simpa using h)
      simp only [List.take_succ_cons, szL, List.getElem_cons_succ]
      omega

theorem El.sz {S : Nat → Prop} {w : World} {g p : Nat} {t : Nd} (h : El S w g p t) : szN t = 1 + szL h.l := (congrArg szN h.eq).trans (by simp [szN])
theorem El.dp {S : Nat → Prop} {w : World} {g p : Nat} {t : Nd} (h : El S w g p t) : dpN t = 1 + dpL h.l := (congrArg dpN h.eq).trans (by simp [dpN])
def El.later {S : Nat → Prop} {w w' : World} {g p : Nat} {t : Nd} (h : El S w g p t) (hg : g < w.heap.size) (hb : Below w.heap.size w w') : El S w' g p t :=
  have hc : ∀ q, w'.cell? ⟨g, q, none⟩ = w.cell? ⟨g, q, none⟩ := fun q => World.cell?_of_block (w := w) (a := ⟨g, q, none⟩) (hb.block g hg)
  ⟨h.op, h.s, h.u, h.n, h.l, h.a, h.k, h.c, h.eq, (hc _).trans h.c0, (hc _).trans h.c1, (hc _).trans h.c2, (hc _).trans h.c3, (hc _).trans h.c4, h.ns.move fun g h1 h2 => ⟨hb.block g h2, h1⟩⟩
set_option maxRecDepth 100000 in
set_option maxHeartbeats 8000000 in
theorem size_any (S : Nat → Prop) : ∀ (m : Nat) (l : List Nd) (L : Value) (w : World), szL l ≤ m → m ≤ 1000000 → NsAt S w l L → Calls Tryz.prog 77 #[L] w (LkP (.int .i64 (szL l : Int)) w)
  | m, l, L, w, hm, hM, h => by
    obtain ⟨a, c, rfl, hmax, hrow⟩ := h.row
    have HP : Hid (∀ w' (n : Int), n = (szL l : Int) → Below w.heap.size w w' → LkP (.int .i64 (szL l : Int)) w (.returned (.int .i64 n)) w') := fun w' n h1 h2 => ⟨by rw [h1], h2⟩
    have HROW := Lib.hid hrow
    have HM := Lib.hid hm
    have HIH : Hid (∀ i (h : i < l.length) (k : List Nd) (K : Value) (W : World), szL k < szN l[i] → NsAt S W k K → Calls Tryz.prog 77 #[K] W (LkP (.int .i64 (szL k : Int)) W)) := fun i h k K W hk hK => by
      have h1 := sz_el l i h
      have : m ≠ 0 := by omega
      exact size_any S (m - 1) k K W (by omega) (by omega) hK
    have HLS := Lib.hid (len_sz l)
    clear hrow h hm
    go_enter Tryz.func77, Tryz.ntmps77
    go_wp2
    go_loopw [3, 10] (fun n i wr => ∃ k : Nat, k ≤ l.length ∧ i = .int .i64 (k : Int) ∧ n = .int .i64 ((l.length : Int) + (szL (l.take k) : Int) - (k : Int)) ∧ Hid (Below w.heap.size w wr)) (fun _ i _ => l.length - (intOf i).toNat)
    case atStart => exact ⟨0, Nat.zero_le _, rfl, by simp [szL], Lib.hid (Below.refl _ _)⟩
    case round =>
      obtain ⟨k, hk, rfl, rfl, hb⟩ := hrel
      by_cases hlt : k < l.length
      · obtain ⟨g, o, rfl, hg, hel⟩ := HROW.out (by omega)
        obtain ⟨e⟩ := hel k hlt
        have e := e.later hg hb.out
        have hz := szL_le l k hlt
        have hsm := HM.out
        have hls := HLS.out
        have hse := e.sz
        have HT : Hid (szL (l.take (k + 1)) = szL (l.take k) + (1 + szL e.l)) := by
          show _ = _
          rw [sz_take l k hlt, hse]
        have HSE : Hid (szL e.l < szN l[k]) := by
          show _ < _
          omega
        have HNS : Hid (NsAt S wr e.l (.slice e.a e.k e.c)) := e.ns
        have q0 := e.c0
        have q1 := e.c1
        have q2 := e.c2
        have q3 := e.c3
        have q4 := e.c4
        have x1 : (k : Int) < (l.length : Int) := by omega
        have x2 : IntKind.i64.wrap ((l.length : Int) + (szL (l.take k) : Int) - (k : Int) + (szL e.l : Int)) = (l.length : Int) + (szL (l.take k) : Int) - (k : Int) + (szL e.l : Int) := IntWalk.i64_in _ (by omega)
        have x3 : IntKind.i64.wrap ((k : Int) + 1) = (k : Int) + 1 := IntWalk.i64_in _ (by omega)
        clear hz hsm hls hse hel
        generalize e.l = el at *
        generalize e.a = ea at *
        generalize e.k = ek at *
        generalize e.c = ec at *
        generalize e.op = eo at *
        generalize e.s = es at *
        generalize e.u = eu at *
        generalize e.n = en at *
        have hba : Below wr.heap.size wr (wr.alloc (.cells #[.int .i64 eo, .string es, .string eu, .int .i64 en, .slice ea ek ec] 28)) := (Below.refl _ _).alloc (Nat.le_refl _) _
        have HNA := Lib.hid (HNS.out.move (S' := S) fun g h1 h2 => ⟨hba.block g h2, h1⟩)
        have HBA := Lib.hid (hb.out.trans (hba.mono hb.out.size))
        clear hba HNS hb
        go_wp2_with fail
        refine (HIH.out k hlt el _ _ HSE.out HNA.out).mono ?_
        rintro e1 W2 ⟨rfl, hb2⟩
        have HB2 := Lib.hid (HBA.out.trans (hb2.mono HBA.out.size))
        clear hb2 HNA HBA
        go_wp2
        go_roundw
        case rel => exact ⟨k + 1, hlt, by first | rfl | go_num, by have := HT.out; simp only [Value.int.injEq, true_and]; omega, HB2⟩
        case measure => simp [intOf]; omega
      · have hke : k = l.length := by omega
        have x1 : (l.length : Int) ≤ (k : Int) := by omega
        have HE : Hid ((l.length : Int) + (szL (l.take k) : Int) - (k : Int) = (szL l : Int)) := by
          show _ = _
          rw [hke, List.take_length]
          omega
        clear hke
        go_wp2
        go_ret
        exact HP.out _ _ HE.out hb.out
termination_by m => m
decreasing_by omega

mutual
theorem dp_szN : ∀ t : Nd, dpN t ≤ szN t
  | .mk _ _ _ _ l => by
    have := dp_szL l
    simp only [dpN, szN]
    omega
theorem dp_szL : ∀ l : List Nd, dpL l ≤ szL l
  | [] => by simp [dpL]
  | t :: r => by
    have h1 := dp_szN t
    have h2 := dp_szL r
    simp only [dpL, szL]
    omega
end
theorem dp_take (l : List Nd) (i : Nat) (h : i < l.length) : dpL (l.take (i + 1)) = max (dpL (l.take i)) (dpN l[i]) := by
  induction l generalizing i with
  | nil => exact absurd h (by simp)
  | cons t r ih =>
    cases i with
    | zero => simp [dpL]
    | succ i =>
      have := ih i (by simpa using h)
      simp only [List.take_succ_cons, dpL, List.getElem_cons_succ]
      omega

set_option maxRecDepth 100000 in
set_option maxHeartbeats 8000000 in
theorem depth_any (S : Nat → Prop) : ∀ (m : Nat) (l : List Nd) (L : Value) (w : World), szL l ≤ m → m ≤ 1000000 → NsAt S w l L → Calls Tryz.prog 78 #[L] w (LkP (.int .i64 (dpL l : Int)) w)
  | m, l, L, w, hm, hM, h => by
    obtain ⟨a, c, rfl, hmax, hrow⟩ := h.row
    have HP : Hid (∀ w' (n : Int), n = (dpL l : Int) → Below w.heap.size w w' → LkP (.int .i64 (dpL l : Int)) w (.returned (.int .i64 n)) w') := fun w' n h1 h2 => ⟨by rw [h1], h2⟩
    have HROW := Lib.hid hrow
    have HM := Lib.hid hm
    have HIH : Hid (∀ i (h : i < l.length) (k : List Nd) (K : Value) (W : World), szL k < szN l[i] → NsAt S W k K → Calls Tryz.prog 78 #[K] W (LkP (.int .i64 (dpL k : Int)) W)) := fun i h k K W hk hK => by
      have h1 := sz_el l i h
      have : m ≠ 0 := by omega
      exact depth_any S (m - 1) k K W (by omega) (by omega) hK
    have HLS := Lib.hid (len_sz l)
    clear hrow h hm
    go_enter Tryz.func78, Tryz.ntmps78
    go_wp2
    go_loopw [3, 8] (fun n i wr => ∃ k : Nat, k ≤ l.length ∧ i = .int .i64 (k : Int) ∧ n = .int .i64 (dpL (l.take k) : Int) ∧ Hid (Below w.heap.size w wr)) (fun _ i _ => l.length - (intOf i).toNat)
    case atStart => exact ⟨0, Nat.zero_le _, rfl, by simp [dpL], Lib.hid (Below.refl _ _)⟩
    case round =>
      obtain ⟨k, hk, rfl, rfl, hb⟩ := hrel
      by_cases hlt : k < l.length
      · obtain ⟨g, o, rfl, hg, hel⟩ := HROW.out (by omega)
        obtain ⟨e⟩ := hel k hlt
        have e := e.later hg hb.out
        have hz := szL_le l k hlt
        have hsm := HM.out
        have hls := HLS.out
        have hse := e.sz
        have hds := dp_szL e.l
        have HT : Hid (dpL (l.take (k + 1)) = max (dpL (l.take k)) (1 + dpL e.l)) := by
          show _ = _
          rw [dp_take l k hlt, e.dp]
        have HSE : Hid (szL e.l < szN l[k]) := by
          show _ < _
          omega
        have HNS : Hid (NsAt S wr e.l (.slice e.a e.k e.c)) := e.ns
        have q0 := e.c0
        have q1 := e.c1
        have q2 := e.c2
        have q3 := e.c3
        have q4 := e.c4
        have x1 : (k : Int) < (l.length : Int) := by omega
        have x2 : IntKind.i64.wrap (1 + (dpL e.l : Int)) = 1 + (dpL e.l : Int) := IntWalk.i64_in _ (by omega)
        have x3 : IntKind.i64.wrap ((k : Int) + 1) = (k : Int) + 1 := IntWalk.i64_in _ (by omega)
        clear hz hsm hls hse hel hds
        generalize e.l = el at *
        generalize e.a = ea at *
        generalize e.k = ek at *
        generalize e.c = ec at *
        generalize e.op = eo at *
        generalize e.s = es at *
        generalize e.u = eu at *
        generalize e.n = en at *
        have hba : Below wr.heap.size wr (wr.alloc (.cells #[.int .i64 eo, .string es, .string eu, .int .i64 en, .slice ea ek ec] 28)) := (Below.refl _ _).alloc (Nat.le_refl _) _
        have HNA := Lib.hid (HNS.out.move (S' := S) fun g h1 h2 => ⟨hba.block g h2, h1⟩)
        have HBA := Lib.hid (hb.out.trans (hba.mono hb.out.size))
        clear hba HNS hb
        go_wp2_with fail
        refine (HIH.out k hlt el _ _ HSE.out HNA.out).mono ?_
        rintro e1 W2 ⟨rfl, hb2⟩
        have HB2 := Lib.hid (HBA.out.trans (hb2.mono HBA.out.size))
        clear hb2 HNA HBA
        go_wp2
        all_goals go_roundw
        case rel => exact ⟨k + 1, hlt, by first | rfl | go_num, by have := HT.out; simp only [Value.int.injEq, true_and]; omega, HB2⟩
        case measure => simp [intOf]; omega
      · have hke : k = l.length := by omega
        have x1 : (l.length : Int) ≤ (k : Int) := by omega
        have HE : Hid ((dpL (l.take k) : Int) = (dpL l : Int)) := by
          show _ = _
          rw [hke, List.take_length]
        clear hke
        go_wp2
        go_ret
        exact HP.out _ _ HE.out hb.out
termination_by m => m
decreasing_by omega

end Go.Proofs.YtaocbhfehncdcaaGreatDoor
