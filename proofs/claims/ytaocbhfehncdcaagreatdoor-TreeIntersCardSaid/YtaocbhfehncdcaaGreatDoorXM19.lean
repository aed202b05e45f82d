/-
  The law's second text, `my ($a, @b) = @_;`: the variables that it brings in. Conditions: none beside those stated. The law's second text: its my. Conditions: none beside those stated. The law's second text: its my, walked. Conditions: none beside those stated.
-/
import Derived.Test.YtaocbhfehncdcaaGreatDoorXM18
namespace Go.Proofs.YtaocbhfehncdcaaGreatDoor
open Go.RowKit

def tsB : List Tt := [⟨0, 0, ⟨#[109, 121]⟩, 0⟩, ⟨3, 3, ⟨#[40]⟩, 0⟩, ⟨2, 4, ⟨#[36, 97]⟩, 0⟩, ⟨3, 6, ⟨#[44]⟩, 0⟩, ⟨2, 8, ⟨#[64, 98]⟩, 0⟩, ⟨3, 10, ⟨#[41]⟩, 0⟩, ⟨3, 12, ⟨#[61]⟩, 0⟩, ⟨2, 14, ⟨#[64, 95]⟩, 0⟩, ⟨3, 16, ⟨#[59]⟩, 0⟩]
theorem tsB0 : tAt tsB 0 = ⟨0, 0, ⟨#[109, 121]⟩, 0⟩ := rfl
theorem tsB1 : tAt tsB 1 = ⟨3, 3, ⟨#[40]⟩, 0⟩ := rfl
theorem tsB2 : tAt tsB 2 = ⟨2, 4, ⟨#[36, 97]⟩, 0⟩ := rfl
theorem tsB3 : tAt tsB 3 = ⟨3, 6, ⟨#[44]⟩, 0⟩ := rfl
theorem tsB4 : tAt tsB 4 = ⟨2, 8, ⟨#[64, 98]⟩, 0⟩ := rfl
theorem tsB5 : tAt tsB 5 = ⟨3, 10, ⟨#[41]⟩, 0⟩ := rfl
theorem tsB6 : tAt tsB 6 = ⟨3, 12, ⟨#[61]⟩, 0⟩ := rfl
theorem tsB7 : tAt tsB 7 = ⟨2, 14, ⟨#[64, 95]⟩, 0⟩ := rfl
theorem tsB8 : tAt tsB 8 = ⟨3, 16, ⟨#[59]⟩, 0⟩ := rfl
theorem fn_retG {κ : Pc} {ts : List Tt} {P j T : Nat} {w W : World} {v0 v1 v2 v3 v4 : Value} (hT : w.heap.size ≤ T) (hL : PcLt κ P T) (hP : PsAt κ ts P j W) (hB : But P w W) :
    GoP κ ts P j (.agg #[v0, v1, v2, v3, v4]) w (.returned (.agg #[v0, v1, v2, v3, v4])) (ndW W T v0 v1 v2 v3 v4) := by
  have hb := ndW_below W T v0 v1 v2 v3 v4
  refine ⟨rfl, hP.part hL (fun k hk => hb.block k hk) (by rw [ndW_size]; exact Nat.le_refl _), ?_⟩
  exact ⟨hb.os.trans hB.os, hb.tape.trans hB.tape, hb.output.trans hB.output, by rw [ndW_size]; exact hB.size, fun k hk hP => (hb.block k (by omega)).trans (hB.block k hk hP)⟩

set_option maxRecDepth 100000 in
set_option maxHeartbeats 8000000 in
theorem index_97 (w : World) : Calls Tryz.prog 138 #[.string ⟨#[97]⟩, .string ⟨#[58, 58]⟩] w (LkP (.int .i64 (-1)) w) := by
  have HP : Hid (LkP (.int .i64 (-1)) w (.returned (.int .i64 (-1))) w) := ⟨rfl, Below.refl _ _⟩
  go_enter Tryz.func138, Tryz.ntmps138
  go_wp2
  go_ret
  exact HP.out
theorem index2_97 (w : World) : Calls Tryz.prog 124 #[.string ⟨#[97]⟩, .string ⟨#[58, 58]⟩] w (LkP (.int .i64 (-1)) w) := by
  have HP : Hid (∀ w', Below w.heap.size w w' → LkP (.int .i64 (-1)) w (.returned (.int .i64 (-1))) w') := fun w' h => ⟨rfl, h⟩
  go_enter Tryz.func124, Tryz.ntmps124
  go_wp2_with fail
  refine (index_97 _).mono ?_
  rintro e1 W1 ⟨rfl, hb⟩
  have HB := Lib.hid hb
  clear hb
  go_wp2
  go_ret
  exact HP.out _ HB.out
theorem contains_97 (w : World) : Calls Tryz.prog 95 #[.string ⟨#[97]⟩, .string ⟨#[58, 58]⟩] w (LkP (.bool false) w) := by
  have HP : Hid (∀ w', Below w.heap.size w w' → LkP (.bool false) w (.returned (.bool false)) w') := fun w' h => ⟨rfl, h⟩
  go_enter Tryz.func95, Tryz.ntmps95
  go_wp2_with fail
  refine (index2_97 _).mono ?_
  rintro e1 W1 ⟨rfl, hb⟩
  have HB := Lib.hid hb
  clear hb
  go_wp2
  go_ret
  exact HP.out _ HB.out
theorem ownName_97 (w : World) : Calls Tryz.prog 136 #[.string ⟨#[97]⟩] w (LkP (.bool true) w) := by
  have HP : Hid (∀ w', Below w.heap.size w w' → LkP (.bool true) w (.returned (.bool true)) w') := fun w' h => ⟨rfl, h⟩
  have HW : Hid (∀ w, Calls Tryz.prog 21 #[.string ⟨#[97]⟩] w (BoS true w)) := fun w => by
    have := IsWord_any ⟨#[97]⟩ w (by decide)
    rwa [show isW (ByteArray.mk #[97]).data.toList = true by decide] at this
  go_enter Tryz.func136, Tryz.ntmps136
  go_wp2_with fail
  refine (HW.out _).mono ?_
  rintro e1 wx ⟨rfl, rfl⟩
  go_wp2_with fail
  refine (contains_97 _).mono ?_
  rintro e1 W1 ⟨rfl, hb⟩
  have HB := Lib.hid hb
  clear hb
  go_wp2
  go_ret
  exact HP.out _ HB.out

set_option maxRecDepth 100000 in
set_option maxHeartbeats 8000000 in
theorem index_98 (w : World) : Calls Tryz.prog 138 #[.string ⟨#[98]⟩, .string ⟨#[58, 58]⟩] w (LkP (.int .i64 (-1)) w) := by
  have HP : Hid (LkP (.int .i64 (-1)) w (.returned (.int .i64 (-1))) w) := ⟨rfl, Below.refl _ _⟩
  go_enter Tryz.func138, Tryz.ntmps138
  go_wp2
  go_ret
  exact HP.out
theorem index2_98 (w : World) : Calls Tryz.prog 124 #[.string ⟨#[98]⟩, .string ⟨#[58, 58]⟩] w (LkP (.int .i64 (-1)) w) := by
  have HP : Hid (∀ w', Below w.heap.size w w' → LkP (.int .i64 (-1)) w (.returned (.int .i64 (-1))) w') := fun w' h => ⟨rfl, h⟩
  go_enter Tryz.func124, Tryz.ntmps124
  go_wp2_with fail
  refine (index_98 _).mono ?_
  rintro e1 W1 ⟨rfl, hb⟩
  have HB := Lib.hid hb
  clear hb
  go_wp2
  go_ret
  exact HP.out _ HB.out
theorem contains_98 (w : World) : Calls Tryz.prog 95 #[.string ⟨#[98]⟩, .string ⟨#[58, 58]⟩] w (LkP (.bool false) w) := by
  have HP : Hid (∀ w', Below w.heap.size w w' → LkP (.bool false) w (.returned (.bool false)) w') := fun w' h => ⟨rfl, h⟩
  go_enter Tryz.func95, Tryz.ntmps95
  go_wp2_with fail
  refine (index2_98 _).mono ?_
  rintro e1 W1 ⟨rfl, hb⟩
  have HB := Lib.hid hb
  clear hb
  go_wp2
  go_ret
  exact HP.out _ HB.out
theorem ownName_98 (w : World) : Calls Tryz.prog 136 #[.string ⟨#[98]⟩] w (LkP (.bool true) w) := by
  have HP : Hid (∀ w', Below w.heap.size w w' → LkP (.bool true) w (.returned (.bool true)) w') := fun w' h => ⟨rfl, h⟩
  have HW : Hid (∀ w, Calls Tryz.prog 21 #[.string ⟨#[98]⟩] w (BoS true w)) := fun w => by
    have := IsWord_any ⟨#[98]⟩ w (by decide)
    rwa [show isW (ByteArray.mk #[98]).data.toList = true by decide] at this
  go_enter Tryz.func136, Tryz.ntmps136
  go_wp2_with fail
  refine (HW.out _).mono ?_
  rintro e1 wx ⟨rfl, rfl⟩
  go_wp2_with fail
  refine (contains_98 _).mono ?_
  rintro e1 W1 ⟨rfl, hb⟩
  have HB := Lib.hid hb
  clear hb
  go_wp2
  go_ret
  exact HP.out _ HB.out

set_option maxRecDepth 100000 in
set_option maxHeartbeats 8000000 in
theorem own_2 (κ : Pc) (P : Nat) : ∀ w, PsAt κ tsB P 2 w → Calls Tryz.prog 260 #[.pointer (some ⟨P, 0, none⟩)] w (GoP κ tsB P 3 (.agg #[.int .i64 5, .string ⟨#[97]⟩, .string ⟨#[]⟩, .int .i64 0, .slice none 0 0]) w) := by
  intro w h
  have HL := Lib.hid h.all
  have HS0 : Hid (PsAt κ tsB P 2 (w.alloc zN)) := h.later ((Below.refl _ _).alloc (Nat.le_refl _) _)
  have HB0 : Hid (But P w (w.alloc zN)) := But.alloc P w _
  have HT0 := Lib.hid (NkAt.zero w)
  unfold zN at HS0 HB0 HT0
  have hx : (ByteArray.mk #[36, 97]).extract 1 2 = ⟨#[97]⟩ := by decide
  clear h
  go_enter Tryz.func260, Tryz.ntmps260
  go_wp2_with fail
  generalize w.alloc _ = W0 at *
  generalize hTT : w.heap.size = T at *
  have HTT : Hid (w.heap.size ≤ T) := Nat.le_of_eq hTT
  clear hTT
  refine (token_x κ tsB P 2 _ HS0.out (by omega)).mono ?_
  rw [tsB2]
  rintro e1 W1 ⟨rfl, hb1⟩
  have HS1 : Hid (PsAt κ tsB P 2 W1) := HS0.out.later hb1
  have HB1 : Hid (But P w W1) := HB0.out.trans (But.of hb1)
  have HT1 := Lib.hid (HT0.out.below hb1)
  clear HS0 HB0 HT0 hb1
  have HY2 := Lib.hid (TkAt.new W1 (.int .i64 2) (.int .i64 4) (.string ⟨#[36, 97]⟩) (.string ⟨#[]⟩) (.string ⟨#[]⟩) (.int .i64 0))
  have HGY : Hid (T < W1.heap.size) := HT1.out.lt
  have hb2 : Below W1.heap.size W1 (W1.alloc (.cells #[.int .i64 2, .int .i64 4, .string ⟨#[36, 97]⟩, .string ⟨#[]⟩, .string ⟨#[]⟩, .int .i64 0] 101)) := (Below.refl _ _).alloc (Nat.le_refl _) _
  have HS2 : Hid (PsAt κ tsB P 2 (W1.alloc (.cells #[.int .i64 2, .int .i64 4, .string ⟨#[36, 97]⟩, .string ⟨#[]⟩, .string ⟨#[]⟩, .int .i64 0] 101))) := HS1.out.later hb2
  have HB2 : Hid (But P w (W1.alloc (.cells #[.int .i64 2, .int .i64 4, .string ⟨#[36, 97]⟩, .string ⟨#[]⟩, .string ⟨#[]⟩, .int .i64 0] 101))) := HB1.out.trans (But.of hb2)
  have HT2 := Lib.hid (HT1.out.below hb2)
  clear HS1 HB1 HT1 hb2
  go_wp2_with fail
  generalize W1.alloc _ = W2 at *
  generalize W1.heap.size = Y at *
  refine (ownName_97 _).mono ?_
  rintro e1 W3 ⟨rfl, hb3⟩
  have HS3 : Hid (PsAt κ tsB P 2 W3) := HS2.out.later hb3
  have HB3 : Hid (But P w W3) := HB2.out.trans (But.of hb3)
  have HT3 := Lib.hid (HT2.out.below hb3)
  have HY3 := Lib.hid (HY2.out.later (hb3.block _ HY2.out.lt))
  clear HS2 HB2 HT2 HY2 hb3
  obtain ⟨y0, y1, y2, y3, y4, y5⟩ := HY3.out.cells
  obtain ⟨c0, c1, cz⟩ := HS3.out.cells
  have hb4 : But P W3 (W3.setCell ⟨P, 1, none⟩ (.int .i64 3)) := (But.refl P _).set 1 _
  have HS4 : Hid (PsAt κ tsB P 3 (W3.setCell ⟨P, 1, none⟩ (.int .i64 3))) := HS3.out.step 3
  have HB4 : Hid (But P w (W3.setCell ⟨P, 1, none⟩ (.int .i64 3))) := HB3.out.trans hb4
  have HT4 := Lib.hid (HT3.out.but hb4 HL.out.p)
  have HY4 := Lib.hid (HY3.out.later (hb4.block _ HY3.out.lt (by have := HL.out.p; have := HGY.out; omega)))
  clear HB3 HT3 HY3 HS3 hb4
  obtain ⟨y0, y1, y2, y3, y4, y5⟩ := HY4.out.cells
  obtain ⟨u0, u1, u2, u3, u4⟩ := HT4.out.cells
  have z0 := HT4.out.frozen 0
  have z1 := HT4.out.frozen 1
  have z2 := HT4.out.frozen 2
  have z3 := HT4.out.frozen 3
  have z4 := HT4.out.frozen 4
  go_wp2
  have HR := HT4.out.put (.int .i64 5) (.string ⟨#[97]⟩) (.string ⟨#[]⟩) (.int .i64 0) (.slice none 0 0)
  obtain ⟨r0, r1, r2, r3, r4⟩ := HR.cells
  change bodyPost _ _ _ _ _ (ndW (W3.setCell ⟨P, 1, none⟩ (.int .i64 3)) T (.int .i64 5) (.string ⟨#[97]⟩) (.string ⟨#[]⟩) (.int .i64 0) (.slice none 0 0))
  refine bodyPost_ret (v := .agg #[.int .i64 5, .string ⟨#[97]⟩, .string ⟨#[]⟩, .int .i64 0, .slice none 0 0]) ?_ rfl (fn_retG HTT.out HL.out HS4.out HB4.out)
  generalize ndW (W3.setCell ⟨P, 1, none⟩ (.int .i64 3)) T (.int .i64 5) (.string ⟨#[97]⟩) (.string ⟨#[]⟩) (.int .i64 0) (.slice none 0 0) = WZ at *
  simp [results, Tryz.results260, go_sem, r0, r1, r2, r3, r4]
set_option maxRecDepth 100000 in
set_option maxHeartbeats 8000000 in
theorem own_4 (κ : Pc) (P : Nat) : ∀ w, PsAt κ tsB P 4 w → Calls Tryz.prog 260 #[.pointer (some ⟨P, 0, none⟩)] w (GoP κ tsB P 5 (.agg #[.int .i64 6, .string ⟨#[98]⟩, .string ⟨#[]⟩, .int .i64 0, .slice none 0 0]) w) := by
  intro w h
  have HL := Lib.hid h.all
  have HS0 : Hid (PsAt κ tsB P 4 (w.alloc zN)) := h.later ((Below.refl _ _).alloc (Nat.le_refl _) _)
  have HB0 : Hid (But P w (w.alloc zN)) := But.alloc P w _
  have HT0 := Lib.hid (NkAt.zero w)
  unfold zN at HS0 HB0 HT0
  have hx : (ByteArray.mk #[64, 98]).extract 1 2 = ⟨#[98]⟩ := by decide
  clear h
  go_enter Tryz.func260, Tryz.ntmps260
  go_wp2_with fail
  generalize w.alloc _ = W0 at *
  generalize hTT : w.heap.size = T at *
  have HTT : Hid (w.heap.size ≤ T) := Nat.le_of_eq hTT
  clear hTT
  refine (token_x κ tsB P 4 _ HS0.out (by omega)).mono ?_
  rw [tsB4]
  rintro e1 W1 ⟨rfl, hb1⟩
  have HS1 : Hid (PsAt κ tsB P 4 W1) := HS0.out.later hb1
  have HB1 : Hid (But P w W1) := HB0.out.trans (But.of hb1)
  have HT1 := Lib.hid (HT0.out.below hb1)
  clear HS0 HB0 HT0 hb1
  have HY2 := Lib.hid (TkAt.new W1 (.int .i64 2) (.int .i64 8) (.string ⟨#[64, 98]⟩) (.string ⟨#[]⟩) (.string ⟨#[]⟩) (.int .i64 0))
  have HGY : Hid (T < W1.heap.size) := HT1.out.lt
  have hb2 : Below W1.heap.size W1 (W1.alloc (.cells #[.int .i64 2, .int .i64 8, .string ⟨#[64, 98]⟩, .string ⟨#[]⟩, .string ⟨#[]⟩, .int .i64 0] 101)) := (Below.refl _ _).alloc (Nat.le_refl _) _
  have HS2 : Hid (PsAt κ tsB P 4 (W1.alloc (.cells #[.int .i64 2, .int .i64 8, .string ⟨#[64, 98]⟩, .string ⟨#[]⟩, .string ⟨#[]⟩, .int .i64 0] 101))) := HS1.out.later hb2
  have HB2 : Hid (But P w (W1.alloc (.cells #[.int .i64 2, .int .i64 8, .string ⟨#[64, 98]⟩, .string ⟨#[]⟩, .string ⟨#[]⟩, .int .i64 0] 101))) := HB1.out.trans (But.of hb2)
  have HT2 := Lib.hid (HT1.out.below hb2)
  clear HS1 HB1 HT1 hb2
  go_wp2_with fail
  generalize W1.alloc _ = W2 at *
  generalize W1.heap.size = Y at *
  refine (ownName_98 _).mono ?_
  rintro e1 W3 ⟨rfl, hb3⟩
  have HS3 : Hid (PsAt κ tsB P 4 W3) := HS2.out.later hb3
  have HB3 : Hid (But P w W3) := HB2.out.trans (But.of hb3)
  have HT3 := Lib.hid (HT2.out.below hb3)
  have HY3 := Lib.hid (HY2.out.later (hb3.block _ HY2.out.lt))
  clear HS2 HB2 HT2 HY2 hb3
  obtain ⟨y0, y1, y2, y3, y4, y5⟩ := HY3.out.cells
  obtain ⟨c0, c1, cz⟩ := HS3.out.cells
  have hb4 : But P W3 (W3.setCell ⟨P, 1, none⟩ (.int .i64 5)) := (But.refl P _).set 1 _
  have HS4 : Hid (PsAt κ tsB P 5 (W3.setCell ⟨P, 1, none⟩ (.int .i64 5))) := HS3.out.step 5
  have HB4 : Hid (But P w (W3.setCell ⟨P, 1, none⟩ (.int .i64 5))) := HB3.out.trans hb4
  have HT4 := Lib.hid (HT3.out.but hb4 HL.out.p)
  have HY4 := Lib.hid (HY3.out.later (hb4.block _ HY3.out.lt (by have := HL.out.p; have := HGY.out; omega)))
  clear HB3 HT3 HY3 HS3 hb4
  obtain ⟨y0, y1, y2, y3, y4, y5⟩ := HY4.out.cells
  obtain ⟨u0, u1, u2, u3, u4⟩ := HT4.out.cells
  have z0 := HT4.out.frozen 0
  have z1 := HT4.out.frozen 1
  have z2 := HT4.out.frozen 2
  have z3 := HT4.out.frozen 3
  have z4 := HT4.out.frozen 4
  go_wp2
  have HR := HT4.out.put (.int .i64 6) (.string ⟨#[98]⟩) (.string ⟨#[]⟩) (.int .i64 0) (.slice none 0 0)
  obtain ⟨r0, r1, r2, r3, r4⟩ := HR.cells
  change bodyPost _ _ _ _ _ (ndW (W3.setCell ⟨P, 1, none⟩ (.int .i64 5)) T (.int .i64 6) (.string ⟨#[98]⟩) (.string ⟨#[]⟩) (.int .i64 0) (.slice none 0 0))
  refine bodyPost_ret (v := .agg #[.int .i64 6, .string ⟨#[98]⟩, .string ⟨#[]⟩, .int .i64 0, .slice none 0 0]) ?_ rfl (fn_retG HTT.out HL.out HS4.out HB4.out)
  generalize ndW (W3.setCell ⟨P, 1, none⟩ (.int .i64 5)) T (.int .i64 6) (.string ⟨#[98]⟩) (.string ⟨#[]⟩) (.int .i64 0) (.slice none 0 0) = WZ at *
  simp [results, Tryz.results260, go_sem, r0, r1, r2, r3, r4]

end Go.Proofs.YtaocbhfehncdcaaGreatDoor

namespace Go.Proofs.YtaocbhfehncdcaaGreatDoor
open Go.RowKit

def vA : List Value := [.int .i64 5, .string ⟨#[97]⟩, .string ⟨#[]⟩, .int .i64 0, .slice none 0 0]
def vB : List Value := [.int .i64 6, .string ⟨#[98]⟩, .string ⟨#[]⟩, .int .i64 0, .slice none 0 0]
/-- How the loop of declared stands. -/
structure DeS (κ : Pc) (P T X k : Nat) (L : Value) (n : Nat) (xs : List Value) (w wr : World) : Prop where
  ps : PsAt κ tsB P k wr
  but : But P w wr
  res : NkAt T (.int .i64 0) (.string ⟨#[]⟩) (.string ⟨#[]⟩) (.int .i64 0) (.slice none 0 0) wr
  nod : NkAt X (.int .i64 4) (.string ⟨#[109, 121]⟩) (.string ⟨#[]⟩) (.int .i64 1) L wr
  row : wr.ownsRow (X + 1) 28 5 L n xs
theorem DeS.on {κ : Pc} {P T X k k' : Nat} {L : Value} {n : Nat} {xs : List Value} {w wr wr' : World} (h : DeS κ P T X k L n xs w wr) (hPT : P < T) (hTX : T < X) (hps : PsAt κ tsB P k' wr') (hb : But P wr wr') : DeS κ P T X k' L n xs w wr' :=
  ⟨hps, h.but.trans hb, h.res.but hb hPT, h.nod.but hb (by omega), row_keep h.row fun g hg => hb.block g (own_lt h.row hg).1 (by have := (own_lt h.row hg).2; omega)⟩
theorem DeS.below {κ : Pc} {P T X k : Nat} {L : Value} {n : Nat} {xs : List Value} {w wr wr' : World} (h : DeS κ P T X k L n xs w wr) (hb : Below wr.heap.size wr wr') : DeS κ P T X k L n xs w wr' :=
  ⟨h.ps.later hb, h.but.trans (But.of hb), h.res.below hb, h.nod.below hb, row_keep h.row fun g hg => hb.block g (own_lt h.row hg).1⟩
theorem DeS.app {κ : Pc} {P T X k : Nat} {L : Value} {n m g cap : Nat} {xs ys : List Value} {w W w2 : World} (h : DeS κ P T X k L n xs w W) (hL : PcLt κ P T) (hw : w.heap.size ≤ T) (hTX : T < X)
    (ho : w2.ownsRow (X + 1) 28 5 (.slice (some ⟨g, 0, none⟩) m cap) m ys) (hg : W.grownBy w2 L.ownBlock) : DeS κ P T X k (.slice (some ⟨g, 0, none⟩) m cap) m ys w (w2.setCell ⟨X, 4, none⟩ (.slice (some ⟨g, 0, none⟩) m cap)) := by
  have hlow : ∀ q, q ≤ X → q < W.heap.size → w2.heap[q]? = W.heap[q]? := fun q hq hq2 => hg.block q hq2 fun e => by
    have := (own_lt h.row e.symm).2
    omega
  have hset : ∀ q, q ≠ X → (w2.setCell ⟨X, 4, none⟩ (.slice (some ⟨g, 0, none⟩) m cap)).heap[q]? = w2.heap[q]? := fun q hq => Below.heap_setCell w2 ⟨X, 4, none⟩ _ q hq
  have hsz : ∀ q, q < T → q < W.heap.size := fun q hq => Nat.lt_trans hq h.res.lt
  refine ⟨h.ps.part hL (fun q hq => (hset q (by omega)).trans (hlow q (by omega) (hsz q hq))) (by rw [World.size_setCell]; exact hg.size), ?_, ?_, ?_, ?_⟩
  · refine ⟨hg.os.trans h.but.os, hg.tape.trans h.but.tape, hg.output.trans h.but.output, by rw [World.size_setCell]; exact Nat.le_trans h.but.size hg.size, fun q hq hP => ?_⟩
    exact ((hset q (by omega)).trans (hlow q (by omega) (Nat.lt_of_lt_of_le hq h.but.size))).trans (h.but.block q hq hP)
  · exact ((hset T (by omega)).trans (hlow T (by omega) h.res.lt)).trans h.res
  · exact heap_setCell_same w2 X 4 _ _ _ ((hlow X (Nat.le_refl _) h.nod.lt).trans h.nod)
  · refine row_set ho (fun e => ?_) 4 _
    have := (own_lt ho e.symm).2
    omega
theorem NkAt.later {T : Nat} {v0 v1 v2 v3 v4 : Value} {W W' : World} (h : NkAt T v0 v1 v2 v3 v4 W) (hb : W'.heap[T]? = W.heap[T]?) : NkAt T v0 v1 v2 v3 v4 W' := hb.trans h
theorem NcAt.more {S : Nat → Prop} {w : World} (ys : List Value) : ∀ {l : List Nd} {cs : List Value}, NcAt S w l cs → NcAt S w l (cs ++ ys)
  | _, _, .nil => .nil
  | _, _, .cons h hr => .cons h (NcAt.more ys hr)

end Go.Proofs.YtaocbhfehncdcaaGreatDoor

namespace Go.Proofs.YtaocbhfehncdcaaGreatDoor
open Go.RowKit

set_option maxRecDepth 100000 in
set_option maxHeartbeats 16000000 in
theorem declared_b (κ : Pc) (P : Nat) (w : World) (h : PsAt κ tsB P 0 w) :
    Calls Tryz.prog 253 #[.pointer (some ⟨P, 0, none⟩), .string ⟨#[109, 121]⟩] w (OcP κ tsB P (.ok 6 (.mk 4 ⟨#[109, 121]⟩ ⟨#[]⟩ 1 [.mk 5 ⟨#[97]⟩ ⟨#[]⟩ 0 [], .mk 6 ⟨#[98]⟩ ⟨#[]⟩ 0 []])) w) := by
  obtain ⟨i0, hi, hz0, hz1, hz2⟩ := info_parts infoN
  have HL := Lib.hid h.all
  have HT : Hid (∀ W, Below (w.alloc zN).heap.size (w.alloc zN) W → True) := fun _ _ => trivial
  have hb0 : Below w.heap.size w (w.alloc zN) := (Below.refl _ _).alloc (Nat.le_refl _) _
  have hs0 := h.later hb0
  obtain ⟨c0, c1, cz⟩ := hs0.cells
  have hbs : But P (w.alloc zN) ((w.alloc zN).setCell ⟨P, 1, none⟩ (.int .i64 1)) := (But.refl P _).set 1 _
  have hs1 : PsAt κ tsB P 1 ((w.alloc zN).setCell ⟨P, 1, none⟩ (.int .i64 1)) := hs0.step 1
  have ht1 := (NkAt.zero w).but hbs h.lt
  have HS1 := Lib.hid hs1
  have HB1 : Hid (But P w ((w.alloc zN).setCell ⟨P, 1, none⟩ (.int .i64 1))) := (But.of hb0).trans hbs
  have HT1 := Lib.hid ht1
  have HSZ : Hid (((w.alloc zN).setCell ⟨P, 1, none⟩ (.int .i64 1)).heap.size = w.heap.size + 1) := by
    show _ = _
    simp [World.size_setCell]
  clear h hb0 hs0 hbs hs1 ht1 HT
  unfold zN at c0 c1 cz HS1 HB1 HT1 HSZ
  go_enter Tryz.func253, Tryz.ntmps253
  go_wp2_with fail
  clear c0 c1 cz
  generalize (w.alloc _).setCell _ _ = W1 at *
  generalize hTT : w.heap.size = T at *
  have HTT : Hid (w.heap.size ≤ T) := Nat.le_of_eq hTT
  clear hTT
  have hb2 : Below W1.heap.size W1 (W1.alloc (.cells #[.int .i64 4, .string ⟨#[109, 121]⟩, .string ⟨#[]⟩, .int .i64 0, .slice none 0 0] 28)) := (Below.refl _ _).alloc (Nat.le_refl _) _
  have HS2 := Lib.hid (HS1.out.later hb2)
  have HB2 : Hid (But P w _) := HB1.out.trans (But.of hb2)
  have HT2 := Lib.hid (HT1.out.below hb2)
  have HX2 := Lib.hid (NkAt.new W1 (.int .i64 4) (.string ⟨#[109, 121]⟩) (.string ⟨#[]⟩) (.int .i64 0) (.slice none 0 0))
  have HTX : Hid (T < W1.heap.size) := HT1.out.lt
  clear hb2 HS1 HB1 HT1
  go_wp2_with fail
  generalize W1.alloc _ = W2 at *
  rw [HSZ.out] at HX2 HTX
  clear HSZ
  generalize T + 1 = X at *
  refine (sign_any κ tsB P 1 _ HS2.out (by omega) _).mono ?_
  rintro e1 W3 ⟨rfl, hb3⟩
  rw [show sgOf (tAt tsB 1) ⟨#[40]⟩ = true from by rw [tsB1, sgOf_eq]; rfl]
  have HX3 := HX2.out.below hb3
  have hr3 : But X W3 (W3.setCell ⟨X, 3, none⟩ (.int .i64 1)) := (But.refl X W3).set 3 _
  have HDE : Hid (DeS κ P T X 1 (.slice none 0 0) 0 [] w (W3.setCell ⟨X, 3, none⟩ (.int .i64 1))) := by
    have hPX := HL.out.p
    have hTX := HTX.out
    have hs3 := HS2.out.later hb3
    have hset : ∀ q, q ≠ X → (W3.setCell ⟨X, 3, none⟩ (.int .i64 1)).heap[q]? = W3.heap[q]? := fun q hq => Below.heap_setCell W3 ⟨X, 3, none⟩ _ q hq
    refine ⟨hs3.part HL.out (fun q hq => hset q (by omega)) (by rw [World.size_setCell]; exact Nat.le_refl _), ?_, (hset T (by omega)).trans (HT2.out.below hb3), heap_setCell_same W3 X 3 _ _ _ HX3, rfl, .inl ⟨rfl, rfl⟩⟩
    have hw := HTT.out
    have hbw := HB2.out.trans (But.of (B := P) hb3)
    exact ⟨hbw.os, hbw.tape, hbw.output, by rw [World.size_setCell]; exact hbw.size, fun q hq hP => (hset q (by omega)).trans (hbw.block q hq hP)⟩
  obtain ⟨x0, x1, x2, x3, x4⟩ := HX3.cells
  have xz := HX3.frozen 3
  clear HX3 hr3 hb3 HS2 HB2 HT2 HX2
  go_wp2_with fail
  clear x0 x1 x2 x3 x4 xz
  generalize W3.setCell _ _ = W4 at *
  go_loopw [38] (fun _ wr => Hid (DeS κ P T X 1 (.slice none 0 0) 0 [] w wr) ∨ (∃ g c, Hid (DeS κ P T X 3 (.slice (some ⟨g, 0, none⟩) 1 c) 1 vA w wr))) (fun _ wr => 10 - atP P wr)
  case atStart => exact .inl HDE
  case round =>
    clear HDE
    rcases hrel with hd | ⟨g, c, hd⟩

    · have HAT : Hid (atP P wr = 1) := hd.out.ps.pos
      obtain ⟨c0, c1, cz⟩ := hd.out.ps.cells
      have HD1 : Hid (DeS κ P T X 2 (.slice none 0 0) 0 [] w (wr.setCell ⟨P, 1, none⟩ (.int .i64 2))) := hd.out.on HL.out.p HTX.out (hd.out.ps.step 2) ((But.refl P wr).set 1 _)
      go_wp2
      clear c0 c1 cz hd
      generalize wr.setCell _ _ = W5 at *
      have HD2 : Hid (DeS κ P T X 2 (.slice none 0 0) 0 [] w W5.drew) := HD1.out.below ((Below.refl _ _).drew)
      have q4 := HD1.out.nod.cells.2.2.2.2
      clear HD1
      go_region_law (first
        | (refine step_call rfl 260 (.tmp 33) 71 rfl (.pointer (some ⟨P, 0, none⟩)) (by simp [Act.eval, Act.put]) (own_enter _ _) _ (own_2 κ P _ HD2.out.ps) ?_
           rintro e9 wd ⟨rfl, hs9, hb9⟩
           refine ⟨_, rfl, ?_⟩
           have HD3 : Hid (DeS κ P T X 3 (.slice none 0 0) 0 [] w wd) := HD2.out.on HL.out.p HTX.out hs9 hb9
           have q4 := HD3.out.nod.cells.2.2.2.2
           have xl := HD3.out.nod.lt
           clear hs9 hb9)
        | (refine step_append_lies _ rfl (.tmp 32) (.tmp 35) 26 rfl (X + 1) 28 i0 _ 5 72 (by kernel_rfl) hi hz0 hz1 hz2 rfl (by decide) (.slice none 0 0) 0 [] (by simp [Act.eval, Act.put]) (HD3.out.below ((Below.refl _ _).alloc (Nat.le_refl _) _)).row ⟨wd.heap.size, 0, none⟩ 1 1 [.int .i64 5, .string ⟨#[97]⟩, .string ⟨#[]⟩, .int .i64 0, .slice none 0 0] (by simp [Act.eval, Act.put]) rfl (World.news_of_block (Go.MapKept.heap_alloc _ _).1) (by simp [Value.oneCell']) (by decide) (by unfold maxLen; omega) (by omega) (by have := HD3.out.nod.lt; simp; omega) _ rfl ?_
           intro g6 cap6 w2 ho hg hG hlt
           have HD6 := Lib.hid ((HD3.out.below ((Below.refl _ _).alloc (Nat.le_refl _) (.cells #[.int .i64 5, .string ⟨#[97]⟩, .string ⟨#[]⟩, .int .i64 0, .slice none 0 0] 28))).app HL.out HTT.out HTX.out ho hg)
           have hlow : w2.heap[X]? = wd.heap[X]? := (hg.block X (Nat.lt_of_lt_of_le HD3.out.nod.lt (by simp)) fun e => by have := (own_lt HD3.out.row e.symm).2; omega).trans (((Below.refl _ wd).alloc (Nat.le_refl _) _).block X HD3.out.nod.lt)
           have q5 := (HD3.out.nod.later hlow).cells.2.2.2.2
           have qf := (HD3.out.nod.later hlow).frozen 4
           clear ho hg hG hlt hlow))
      all_goals (
        clear q4 q5 qf HD2 HD3
        generalize w2.setCell _ _ = W6 at *
        go_wp2_with fail
        refine (sign_any κ tsB P 3 _ HD6.out.ps (by omega) _).mono ?_
        rintro e1 W7 ⟨rfl, hb7⟩
        rw [show sgOf (tAt tsB 3) ⟨#[44]⟩ = true from by rw [tsB3, sgOf_eq]; rfl]
        have HD7 := Lib.hid (HD6.out.below hb7)
        clear hb7 HD6
        have HM7 := Lib.hid HD7.out.ps.pos
        go_wp2
        go_roundw
        case rel => exact .inr ⟨g6, cap6, HD7⟩
        case measure =>
          have h1 := HAT.out
          have h2 := HM7.out
          omega)
    · have HAT : Hid (atP P wr = 3) := hd.out.ps.pos
      obtain ⟨c0, c1, cz⟩ := hd.out.ps.cells
      have HD1 : Hid (DeS κ P T X 4 (.slice (some ⟨g, 0, none⟩) 1 c) 1 vA w (wr.setCell ⟨P, 1, none⟩ (.int .i64 4))) := hd.out.on HL.out.p HTX.out (hd.out.ps.step 4) ((But.refl P wr).set 1 _)
      go_wp2
      clear c0 c1 cz hd
      generalize wr.setCell _ _ = W5 at *
      have HD2 : Hid (DeS κ P T X 4 (.slice (some ⟨g, 0, none⟩) 1 c) 1 vA w W5.drew) := HD1.out.below ((Below.refl _ _).drew)
      have q4 := HD1.out.nod.cells.2.2.2.2
      clear HD1
      go_region_law (first
        | (refine step_call rfl 260 (.tmp 33) 71 rfl (.pointer (some ⟨P, 0, none⟩)) (by simp [Act.eval, Act.put]) (own_enter _ _) _ (own_4 κ P _ HD2.out.ps) ?_
           rintro e9 wd ⟨rfl, hs9, hb9⟩
           refine ⟨_, rfl, ?_⟩
           have HD3 : Hid (DeS κ P T X 5 (.slice (some ⟨g, 0, none⟩) 1 c) 1 vA w wd) := HD2.out.on HL.out.p HTX.out hs9 hb9
           have q4 := HD3.out.nod.cells.2.2.2.2
           have xl := HD3.out.nod.lt
           clear hs9 hb9)
        | (refine step_append_lies _ rfl (.tmp 32) (.tmp 35) 26 rfl (X + 1) 28 i0 _ 5 72 (by kernel_rfl) hi hz0 hz1 hz2 rfl (by decide) (.slice (some ⟨g, 0, none⟩) 1 c) 1 vA (by simp [Act.eval, Act.put]) (HD3.out.below ((Below.refl _ _).alloc (Nat.le_refl _) _)).row ⟨wd.heap.size, 0, none⟩ 1 1 [.int .i64 6, .string ⟨#[98]⟩, .string ⟨#[]⟩, .int .i64 0, .slice none 0 0] (by simp [Act.eval, Act.put]) rfl (World.news_of_block (Go.MapKept.heap_alloc _ _).1) (by simp [Value.oneCell']) (by decide) (by unfold maxLen; omega) (by omega) (by have := HD3.out.nod.lt; simp; omega) _ rfl ?_
           intro g6 cap6 w2 ho hg hG hlt
           have HD6 := Lib.hid ((HD3.out.below ((Below.refl _ _).alloc (Nat.le_refl _) (.cells #[.int .i64 6, .string ⟨#[98]⟩, .string ⟨#[]⟩, .int .i64 0, .slice none 0 0] 28))).app HL.out HTT.out HTX.out ho hg)
           have hlow : w2.heap[X]? = wd.heap[X]? := (hg.block X (Nat.lt_of_lt_of_le HD3.out.nod.lt (by simp)) fun e => by have := (own_lt HD3.out.row e.symm).2; omega).trans (((Below.refl _ wd).alloc (Nat.le_refl _) _).block X HD3.out.nod.lt)
           have q5 := (HD3.out.nod.later hlow).cells.2.2.2.2
           have qf := (HD3.out.nod.later hlow).frozen 4
           clear ho hg hG hlt hlow))
      all_goals (
        clear q4 q5 qf HD2 HD3
        generalize w2.setCell _ _ = W6 at *
        go_wp2_with fail
        refine (sign_any κ tsB P 5 _ HD6.out.ps (by omega) _).mono ?_
        rintro e1 W7 ⟨rfl, hb7⟩
        rw [show sgOf (tAt tsB 5) ⟨#[44]⟩ = false from by rw [tsB5, sgOf_eq]; rfl]
        have HD7 := Lib.hid (HD6.out.below hb7)
        clear hb7 HD6
        go_wp2_with fail
        refine (want_ok κ tsB P 5 _ HD7.out.ps (by omega) _ (by rw [tsB5, sgOf_eq]; rfl)).mono ?_
        rintro e1 W8 ⟨rfl, hs8, hb8⟩
        have HD8 := Lib.hid (HD7.out.on HL.out.p HTX.out hs8 hb8)
        clear hs8 hb8 HD7
        obtain ⟨x0, x1, x2, x3, x4⟩ := HD8.out.nod.cells
        obtain ⟨u0, u1, u2, u3, u4⟩ := HD8.out.res.cells
        have z0 := HD8.out.res.frozen 0
        have z1 := HD8.out.res.frozen 1
        have z2 := HD8.out.res.frozen 2
        have z3 := HD8.out.res.frozen 3
        have z4 := HD8.out.res.frozen 4
        have HN : NdAt (fun g => T < g) W8 (.mk 4 ⟨#[109, 121]⟩ ⟨#[]⟩ 1 [.mk 5 ⟨#[97]⟩ ⟨#[]⟩ 0 [], .mk 6 ⟨#[98]⟩ ⟨#[]⟩ 0 []]) (.agg #[.int .i64 4, .string ⟨#[109, 121]⟩, .string ⟨#[]⟩, .int .i64 1, .slice (some ⟨g6, 0, none⟩) 2 cap6]) := by
          refine .mk ?_
          rcases HD8.out.row.2 with ⟨h0, _⟩ | ⟨gg, cp, cur, h0, h1, h2, h3, h4, h5, h6⟩
          · cases h0
          · cases h0
            have hTX := HTX.out
            refine .some (by omega) h2 ?_ rfl (by decide)
            have hc : NcAt (fun g => T < g) W8 [.mk 5 ⟨#[97]⟩ ⟨#[]⟩ 0 [], .mk 6 ⟨#[98]⟩ ⟨#[]⟩ 0 []] (vA ++ vB) := .cons .none (.cons .none .nil)
            have h7 : cur.toList = (vA ++ vB) ++ cur.toList.drop 10 := by
              have h8 : cur.toList.take 10 = vA ++ vB := h6
              rw [← h8, List.take_append_drop]
            rw [List.drop_zero, h7]
            exact hc.more _
        go_wp2
        have HR := HD8.out.res.put (.int .i64 4) (.string ⟨#[109, 121]⟩) (.string ⟨#[]⟩) (.int .i64 1) (.slice (some ⟨g6, 0, none⟩) 2 cap6)
        obtain ⟨r0, r1, r2, r3, r4⟩ := HR.cells
        change bodyPost _ _ _ _ _ (ndW W8 T (.int .i64 4) (.string ⟨#[109, 121]⟩) (.string ⟨#[]⟩) (.int .i64 1) (.slice (some ⟨g6, 0, none⟩) 2 cap6))
        refine bodyPost_ret (v := .agg #[.int .i64 4, .string ⟨#[109, 121]⟩, .string ⟨#[]⟩, .int .i64 1, .slice (some ⟨g6, 0, none⟩) 2 cap6]) ?_ rfl (fn_ret HTT.out HL.out HD8.out.ps HD8.out.but HN (fun g h => h))
        generalize ndW W8 T (.int .i64 4) (.string ⟨#[109, 121]⟩) (.string ⟨#[]⟩) (.int .i64 1) (.slice (some ⟨g6, 0, none⟩) 2 cap6) = WZ at *
        simp [results, Tryz.results253, go_sem, r0, r1, r2, r3, r4])

end Go.Proofs.YtaocbhfehncdcaaGreatDoor
