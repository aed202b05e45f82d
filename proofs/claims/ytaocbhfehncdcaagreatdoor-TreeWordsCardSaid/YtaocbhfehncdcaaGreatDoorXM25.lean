/-
  A call of a function, by its contract, as one step of a region that draws. Conditions: none. The law's second text, `my ($a, @b) = @_;`: the variables that it brings in. Conditions: none beside those stated.
-/
import Derived.Test.YtaocbhfehncdcaaGreatDoorXM24
import Derived.Deep.RegionLaw
namespace Go.Proofs.YtaocbhfehncdcaaGreatDoor
open Go.RowKit

theorem step_call {P : Program} {ops : Array Oper} {o : Oper} {a : Act} {w : World} {K : Act → World → Prop} {Q : Exit → Act → World → Prop} {E : Prop}
    (hg : o.guard = none) (f : Nat) (x : Operand) (ty : TypeId) (hop : o.op = Op.call { callee := Callee.value (Operand.func f), args := #[x], argTypes := #[ty] })
    (v : Value) (hv : a.eval x = v) (hcall : (callFunc f #[v]).run P w = .ok (.enter f #[v]) w) (post : Ending → World → Prop) (hc : Calls P f #[v] w post) (hK : ∀ e w', post e w' → ∃ u, e = .returned u ∧ K (a.put o.dst u) w') :
    if Region.wanted o (yielded ops a.tmps) = true then Oper.wp P o a w K Q else E := by
  have hw : Region.wanted o (yielded ops a.tmps) = true := by simp [Region.wanted, hg]
  rw [if_pos hw]
  have hrun : (execOp a.eval o).run P w = .ok (.enter f #[v]) w := by
    rw [← hv] at hcall ⊢
    simp only [Act.eval] at hcall ⊢
    simpa [execOp, hop, resolve, invoke, Result.andThen, Act.eval, Deferred.ofValue] using hcall
  unfold Oper.wp
  rw [hrun, Oper.upon_enter]
  refine hc.mono fun e w' h => ?_
  obtain ⟨u, rfl, hk⟩ := hK e w' h
  exact hk

theorem own_enter (v : Value) (w : World) : (callFunc 260 #[v]).run Tryz.prog w = .ok (.enter 260 #[v]) w := by kernel_rfl

end Go.Proofs.YtaocbhfehncdcaaGreatDoor

namespace Go.Proofs.YtaocbhfehncdcaaGreatDoor
open Go.RowKit

def tsB : List Tt := [⟨0, 0, ⟨#[109, 121]⟩, 0⟩, ⟨3, 3, ⟨#[40]⟩, 0⟩, ⟨2, 4, ⟨#[36, 97]⟩, 0⟩, ⟨3, 6, ⟨#[44]⟩, 0⟩, ⟨2, 8, ⟨#[64, 98]⟩, 0⟩, ⟨3, 10, ⟨#[41]⟩, 0⟩, ⟨3, 12, ⟨#[61]⟩, 0⟩, ⟨2, 14, ⟨#[64, 95]⟩, 0⟩, ⟨3, 16, ⟨#[59]⟩, 0⟩]
theorem tsB0 : tAt tsB 0 = ⟨0, 0, ⟨#[109, 121]⟩, 0⟩ := rfl
theorem tsB1 : tAt tsB 1 = ⟨3, 3, ⟨#[40]⟩, 0⟩ := rfl
theorem tsB2 : tAt tsB 2 = ⟨2, 4, ⟨#[36, 97]⟩, 0⟩ := rfl
theorem tsB3 : tAt tsB 3 = ⟨3, 6, ⟨#[44]⟩, 0⟩ := rfl
theorem tsB4 : tAt tsB 4 = ⟨2, 8, ⟨#[64, 98]⟩, 0⟩ := rfl
theorem tsB5 : tAt tsB 5 = ⟨3, 10, ⟨#[41]⟩, 0⟩ := rfl
theorem tsB6 : tAt tsB 6 = ⟨3, 12, ⟨#[61]⟩, 0⟩ := rfl
theorem tsB7 : tAt tsB 7 = ⟨2, 14, ⟨#[64, 95]⟩, 0⟩ := rfl
theorem tsB8 : tAt tsB 8 = ⟨3, 16, ⟨#[59]⟩, 0⟩ := rfl
theorem fn_retG {κ : Pc} {ts : List Tt} {P j T : Nat} {w W : World} {v0 v1 v2 v3 v4 : Value} (hT : w.heap.size ≤ T) (hL : PcLt κ P T) (hP : PsAt κ ts P j W) (hB : But P w W) :
    GoP κ ts P j (.agg #[v0, v1, v2, v3, v4]) w (.returned (.agg #[v0, v1, v2, v3, v4])) (ndW W T v0 v1 v2 v3 v4) := by
  have hb := ndW_below W T v0 v1 v2 v3 v4
  refine ⟨rfl, hP.part hL (fun k hk => hb.block k hk) (by rw [ndW_size]; exact Nat.le_refl _), ?_⟩
  exact ⟨hb.os.trans hB.os, hb.tape.trans hB.tape, hb.output.trans hB.output, by rw [ndW_size]; exact hB.size, fun k hk hP => (hb.block k (by omega)).trans (hB.block k hk hP)⟩

set_option maxRecDepth 100000 in
set_option maxHeartbeats 8000000 in
theorem index_97 (w : World) : Calls Tryz.prog 138 #[.string ⟨#[97]⟩, .string ⟨#[58, 58]⟩] w (LkP (.int .i64 (-1)) w) := by
  have HP : Hid (LkP (.int .i64 (-1)) w (.returned (.int .i64 (-1))) w) := ⟨rfl, Below.refl _ _⟩
  go_enter Tryz.func138, Tryz.ntmps138
  go_wp2
  go_ret
  exact HP.out
theorem index2_97 (w : World) : Calls Tryz.prog 124 #[.string ⟨#[97]⟩, .string ⟨#[58, 58]⟩] w (LkP (.int .i64 (-1)) w) := by
  have HP : Hid (∀ w', Below w.heap.size w w' → LkP (.int .i64 (-1)) w (.returned (.int .i64 (-1))) w') := fun w' h => ⟨rfl, h⟩
  go_enter Tryz.func124, Tryz.ntmps124
  go_wp2_with fail
  refine (index_97 _).mono ?_
  rintro e1 W1 ⟨rfl, hb⟩
  have HB := Lib.hid hb
  clear hb
  go_wp2
  go_ret
  exact HP.out _ HB.out
theorem contains_97 (w : World) : Calls Tryz.prog 95 #[.string ⟨#[97]⟩, .string ⟨#[58, 58]⟩] w (LkP (.bool false) w) := by
  have HP : Hid (∀ w', Below w.heap.size w w' → LkP (.bool false) w (.returned (.bool false)) w') := fun w' h => ⟨rfl, h⟩
  go_enter Tryz.func95, Tryz.ntmps95
  go_wp2_with fail
  refine (index2_97 _).mono ?_
  rintro e1 W1 ⟨rfl, hb⟩
  have HB := Lib.hid hb
  clear hb
  go_wp2
  go_ret
  exact HP.out _ HB.out
theorem ownName_97 (w : World) : Calls Tryz.prog 136 #[.string ⟨#[97]⟩] w (LkP (.bool true) w) := by
  have HP : Hid (∀ w', Below w.heap.size w w' → LkP (.bool true) w (.returned (.bool true)) w') := fun w' h => ⟨rfl, h⟩
  have HW : Hid (∀ w, Calls Tryz.prog 21 #[.string ⟨#[97]⟩] w (BoS true w)) := fun w => by
    have := IsWord_any ⟨#[97]⟩ w (by decide)
    rwa [show isW (ByteArray.mk #[97]).data.toList = true by decide] at this
  go_enter Tryz.func136, Tryz.ntmps136
  go_wp2_with fail
  refine (HW.out _).mono ?_
  rintro e1 wx ⟨rfl, rfl⟩
  go_wp2_with fail
  refine (contains_97 _).mono ?_
  rintro e1 W1 ⟨rfl, hb⟩
  have HB := Lib.hid hb
  clear hb
  go_wp2
  go_ret
  exact HP.out _ HB.out

set_option maxRecDepth 100000 in
set_option maxHeartbeats 8000000 in
theorem index_98 (w : World) : Calls Tryz.prog 138 #[.string ⟨#[98]⟩, .string ⟨#[58, 58]⟩] w (LkP (.int .i64 (-1)) w) := by
  have HP : Hid (LkP (.int .i64 (-1)) w (.returned (.int .i64 (-1))) w) := ⟨rfl, Below.refl _ _⟩
  go_enter Tryz.func138, Tryz.ntmps138
  go_wp2
  go_ret
  exact HP.out
theorem index2_98 (w : World) : Calls Tryz.prog 124 #[.string ⟨#[98]⟩, .string ⟨#[58, 58]⟩] w (LkP (.int .i64 (-1)) w) := by
  have HP : Hid (∀ w', Below w.heap.size w w' → LkP (.int .i64 (-1)) w (.returned (.int .i64 (-1))) w') := fun w' h => ⟨rfl, h⟩
  go_enter Tryz.func124, Tryz.ntmps124
  go_wp2_with fail
  refine (index_98 _).mono ?_
  rintro e1 W1 ⟨rfl, hb⟩
  have HB := Lib.hid hb
  clear hb
  go_wp2
  go_ret
  exact HP.out _ HB.out
theorem contains_98 (w : World) : Calls Tryz.prog 95 #[.string ⟨#[98]⟩, .string ⟨#[58, 58]⟩] w (LkP (.bool false) w) := by
  have HP : Hid (∀ w', Below w.heap.size w w' → LkP (.bool false) w (.returned (.bool false)) w') := fun w' h => ⟨rfl, h⟩
  go_enter Tryz.func95, Tryz.ntmps95
  go_wp2_with fail
  refine (index2_98 _).mono ?_
  rintro e1 W1 ⟨rfl, hb⟩
  have HB := Lib.hid hb
  clear hb
  go_wp2
  go_ret
  exact HP.out _ HB.out
theorem ownName_98 (w : World) : Calls Tryz.prog 136 #[.string ⟨#[98]⟩] w (LkP (.bool true) w) := by
  have HP : Hid (∀ w', Below w.heap.size w w' → LkP (.bool true) w (.returned (.bool true)) w') := fun w' h => ⟨rfl, h⟩
  have HW : Hid (∀ w, Calls Tryz.prog 21 #[.string ⟨#[98]⟩] w (BoS true w)) := fun w => by
    have := IsWord_any ⟨#[98]⟩ w (by decide)
    rwa [show isW (ByteArray.mk #[98]).data.toList = true by decide] at this
  go_enter Tryz.func136, Tryz.ntmps136
  go_wp2_with fail
  refine (HW.out _).mono ?_
  rintro e1 wx ⟨rfl, rfl⟩
  go_wp2_with fail
  refine (contains_98 _).mono ?_
  rintro e1 W1 ⟨rfl, hb⟩
  have HB := Lib.hid hb
  clear hb
  go_wp2
  go_ret
  exact HP.out _ HB.out

set_option maxRecDepth 100000 in
set_option maxHeartbeats 8000000 in
theorem own_2 (κ : Pc) (P : Nat) : ∀ w, PsAt κ tsB P 2 w → Calls Tryz.prog 260 #[.pointer (some ⟨P, 0, none⟩)] w (GoP κ tsB P 3 (.agg #[.int .i64 5, .string ⟨#[97]⟩, .string ⟨#[]⟩, .int .i64 0, .slice none 0 0]) w) := by
  intro w h
  have HL := Lib.hid h.all
  have HS0 : Hid (PsAt κ tsB P 2 (w.alloc zN)) := h.later ((Below.refl _ _).alloc (Nat.le_refl _) _)
  have HB0 : Hid (But P w (w.alloc zN)) := But.alloc P w _
  have HT0 := Lib.hid (NkAt.zero w)
  unfold zN at HS0 HB0 HT0
  have hx : (ByteArray.mk #[36, 97]).extract 1 2 = ⟨#[97]⟩ := by decide
  clear h
  go_enter Tryz.func260, Tryz.ntmps260
  go_wp2_with fail
  generalize w.alloc _ = W0 at *
  generalize hTT : w.heap.size = T at *
  have HTT : Hid (w.heap.size ≤ T) := Nat.le_of_eq hTT
  clear hTT
  refine (token_x κ tsB P 2 _ HS0.out (by omega)).mono ?_
  rw [tsB2]
  rintro e1 W1 ⟨rfl, hb1⟩
  have HS1 : Hid (PsAt κ tsB P 2 W1) := HS0.out.later hb1
  have HB1 : Hid (But P w W1) := HB0.out.trans (But.of hb1)
  have HT1 := Lib.hid (HT0.out.below hb1)
  clear HS0 HB0 HT0 hb1
  have HY2 := Lib.hid (TkAt.new W1 (.int .i64 2) (.int .i64 4) (.string ⟨#[36, 97]⟩) (.string ⟨#[]⟩) (.string ⟨#[]⟩) (.int .i64 0))
  have HGY : Hid (T < W1.heap.size) := HT1.out.lt
  have hb2 : Below W1.heap.size W1 (W1.alloc (.cells #[.int .i64 2, .int .i64 4, .string ⟨#[36, 97]⟩, .string ⟨#[]⟩, .string ⟨#[]⟩, .int .i64 0] 101)) := (Below.refl _ _).alloc (Nat.le_refl _) _
  have HS2 : Hid (PsAt κ tsB P 2 (W1.alloc (.cells #[.int .i64 2, .int .i64 4, .string ⟨#[36, 97]⟩, .string ⟨#[]⟩, .string ⟨#[]⟩, .int .i64 0] 101))) := HS1.out.later hb2
  have HB2 : Hid (But P w (W1.alloc (.cells #[.int .i64 2, .int .i64 4, .string ⟨#[36, 97]⟩, .string ⟨#[]⟩, .string ⟨#[]⟩, .int .i64 0] 101))) := HB1.out.trans (But.of hb2)
  have HT2 := Lib.hid (HT1.out.below hb2)
  clear HS1 HB1 HT1 hb2
  go_wp2_with fail
  generalize W1.alloc _ = W2 at *
  generalize W1.heap.size = Y at *
  refine (ownName_97 _).mono ?_
  rintro e1 W3 ⟨rfl, hb3⟩
  have HS3 : Hid (PsAt κ tsB P 2 W3) := HS2.out.later hb3
  have HB3 : Hid (But P w W3) := HB2.out.trans (But.of hb3)
  have HT3 := Lib.hid (HT2.out.below hb3)
  have HY3 := Lib.hid (HY2.out.later (hb3.block _ HY2.out.lt))
  clear HS2 HB2 HT2 HY2 hb3
  obtain ⟨y0, y1, y2, y3, y4, y5⟩ := HY3.out.cells
  obtain ⟨c0, c1, cz⟩ := HS3.out.cells
  have hb4 : But P W3 (W3.setCell ⟨P, 1, none⟩ (.int .i64 3)) := (But.refl P _).set 1 _
  have HS4 : Hid (PsAt κ tsB P 3 (W3.setCell ⟨P, 1, none⟩ (.int .i64 3))) := HS3.out.step 3
  have HB4 : Hid (But P w (W3.setCell ⟨P, 1, none⟩ (.int .i64 3))) := HB3.out.trans hb4
  have HT4 := Lib.hid (HT3.out.but hb4 HL.out.p)
  have HY4 := Lib.hid (HY3.out.later (hb4.block _ HY3.out.lt (by have := HL.out.p; have := HGY.out; omega)))
  clear HB3 HT3 HY3 HS3 hb4
  obtain ⟨y0, y1, y2, y3, y4, y5⟩ := HY4.out.cells
  obtain ⟨u0, u1, u2, u3, u4⟩ := HT4.out.cells
  have z0 := HT4.out.frozen 0
  have z1 := HT4.out.frozen 1
  have z2 := HT4.out.frozen 2
  have z3 := HT4.out.frozen 3
  have z4 := HT4.out.frozen 4
  go_wp2
  have HR := HT4.out.put (.int .i64 5) (.string ⟨#[97]⟩) (.string ⟨#[]⟩) (.int .i64 0) (.slice none 0 0)
  obtain ⟨r0, r1, r2, r3, r4⟩ := HR.cells
  change bodyPost _ _ _ _ _ (ndW (W3.setCell ⟨P, 1, none⟩ (.int .i64 3)) T (.int .i64 5) (.string ⟨#[97]⟩) (.string ⟨#[]⟩) (.int .i64 0) (.slice none 0 0))
  refine bodyPost_ret (v := .agg #[.int .i64 5, .string ⟨#[97]⟩, .string ⟨#[]⟩, .int .i64 0, .slice none 0 0]) ?_ rfl (fn_retG HTT.out HL.out HS4.out HB4.out)
  generalize ndW (W3.setCell ⟨P, 1, none⟩ (.int .i64 3)) T (.int .i64 5) (.string ⟨#[97]⟩) (.string ⟨#[]⟩) (.int .i64 0) (.slice none 0 0) = WZ at *
  simp [results, Tryz.results260, go_sem, r0, r1, r2, r3, r4]
set_option maxRecDepth 100000 in
set_option maxHeartbeats 8000000 in
theorem own_4 (κ : Pc) (P : Nat) : ∀ w, PsAt κ tsB P 4 w → Calls Tryz.prog 260 #[.pointer (some ⟨P, 0, none⟩)] w (GoP κ tsB P 5 (.agg #[.int .i64 6, .string ⟨#[98]⟩, .string ⟨#[]⟩, .int .i64 0, .slice none 0 0]) w) := by
  intro w h
  have HL := Lib.hid h.all
  have HS0 : Hid (PsAt κ tsB P 4 (w.alloc zN)) := h.later ((Below.refl _ _).alloc (Nat.le_refl _) _)
  have HB0 : Hid (But P w (w.alloc zN)) := But.alloc P w _
  have HT0 := Lib.hid (NkAt.zero w)
  unfold zN at HS0 HB0 HT0
  have hx : (ByteArray.mk #[64, 98]).extract 1 2 = ⟨#[98]⟩ := by decide
  clear h
  go_enter Tryz.func260, Tryz.ntmps260
  go_wp2_with fail
  generalize w.alloc _ = W0 at *
  generalize hTT : w.heap.size = T at *
  have HTT : Hid (w.heap.size ≤ T) := Nat.le_of_eq hTT
  clear hTT
  refine (token_x κ tsB P 4 _ HS0.out (by omega)).mono ?_
  rw [tsB4]
  rintro e1 W1 ⟨rfl, hb1⟩
  have HS1 : Hid (PsAt κ tsB P 4 W1) := HS0.out.later hb1
  have HB1 : Hid (But P w W1) := HB0.out.trans (But.of hb1)
  have HT1 := Lib.hid (HT0.out.below hb1)
  clear HS0 HB0 HT0 hb1
  have HY2 := Lib.hid (TkAt.new W1 (.int .i64 2) (.int .i64 8) (.string ⟨#[64, 98]⟩) (.string ⟨#[]⟩) (.string ⟨#[]⟩) (.int .i64 0))
  have HGY : Hid (T < W1.heap.size) := HT1.out.lt
  have hb2 : Below W1.heap.size W1 (W1.alloc (.cells #[.int .i64 2, .int .i64 8, .string ⟨#[64, 98]⟩, .string ⟨#[]⟩, .string ⟨#[]⟩, .int .i64 0] 101)) := (Below.refl _ _).alloc (Nat.le_refl _) _
  have HS2 : Hid (PsAt κ tsB P 4 (W1.alloc (.cells #[.int .i64 2, .int .i64 8, .string ⟨#[64, 98]⟩, .string ⟨#[]⟩, .string ⟨#[]⟩, .int .i64 0] 101))) := HS1.out.later hb2
  have HB2 : Hid (But P w (W1.alloc (.cells #[.int .i64 2, .int .i64 8, .string ⟨#[64, 98]⟩, .string ⟨#[]⟩, .string ⟨#[]⟩, .int .i64 0] 101))) := HB1.out.trans (But.of hb2)
  have HT2 := Lib.hid (HT1.out.below hb2)
  clear HS1 HB1 HT1 hb2
  go_wp2_with fail
  generalize W1.alloc _ = W2 at *
  generalize W1.heap.size = Y at *
  refine (ownName_98 _).mono ?_
  rintro e1 W3 ⟨rfl, hb3⟩
  have HS3 : Hid (PsAt κ tsB P 4 W3) := HS2.out.later hb3
  have HB3 : Hid (But P w W3) := HB2.out.trans (But.of hb3)
  have HT3 := Lib.hid (HT2.out.below hb3)
  have HY3 := Lib.hid (HY2.out.later (hb3.block _ HY2.out.lt))
  clear HS2 HB2 HT2 HY2 hb3
  obtain ⟨y0, y1, y2, y3, y4, y5⟩ := HY3.out.cells
  obtain ⟨c0, c1, cz⟩ := HS3.out.cells
  have hb4 : But P W3 (W3.setCell ⟨P, 1, none⟩ (.int .i64 5)) := (But.refl P _).set 1 _
  have HS4 : Hid (PsAt κ tsB P 5 (W3.setCell ⟨P, 1, none⟩ (.int .i64 5))) := HS3.out.step 5
  have HB4 : Hid (But P w (W3.setCell ⟨P, 1, none⟩ (.int .i64 5))) := HB3.out.trans hb4
  have HT4 := Lib.hid (HT3.out.but hb4 HL.out.p)
  have HY4 := Lib.hid (HY3.out.later (hb4.block _ HY3.out.lt (by have := HL.out.p; have := HGY.out; omega)))
  clear HB3 HT3 HY3 HS3 hb4
  obtain ⟨y0, y1, y2, y3, y4, y5⟩ := HY4.out.cells
  obtain ⟨u0, u1, u2, u3, u4⟩ := HT4.out.cells
  have z0 := HT4.out.frozen 0
  have z1 := HT4.out.frozen 1
  have z2 := HT4.out.frozen 2
  have z3 := HT4.out.frozen 3
  have z4 := HT4.out.frozen 4
  go_wp2
  have HR := HT4.out.put (.int .i64 6) (.string ⟨#[98]⟩) (.string ⟨#[]⟩) (.int .i64 0) (.slice none 0 0)
  obtain ⟨r0, r1, r2, r3, r4⟩ := HR.cells
  change bodyPost _ _ _ _ _ (ndW (W3.setCell ⟨P, 1, none⟩ (.int .i64 5)) T (.int .i64 6) (.string ⟨#[98]⟩) (.string ⟨#[]⟩) (.int .i64 0) (.slice none 0 0))
  refine bodyPost_ret (v := .agg #[.int .i64 6, .string ⟨#[98]⟩, .string ⟨#[]⟩, .int .i64 0, .slice none 0 0]) ?_ rfl (fn_retG HTT.out HL.out HS4.out HB4.out)
  generalize ndW (W3.setCell ⟨P, 1, none⟩ (.int .i64 5)) T (.int .i64 6) (.string ⟨#[98]⟩) (.string ⟨#[]⟩) (.int .i64 0) (.slice none 0 0) = WZ at *
  simp [results, Tryz.results260, go_sem, r0, r1, r2, r3, r4]

end Go.Proofs.YtaocbhfehncdcaaGreatDoor
