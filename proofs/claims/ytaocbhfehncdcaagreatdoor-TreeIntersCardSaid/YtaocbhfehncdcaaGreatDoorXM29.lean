/-
  The node of a text with interpolation, as the document gives it. Conditions: texts of at most 20000 bytes. Programs of the law's texts, and what catches a token that does not fit. Conditions: none beside those stated. The parser's all: a rule's trees, or the token that does not fit. Conditions: none beside those stated.
-/
import Derived.Test.YtaocbhfehncdcaaGreatDoorXM27
import Derived.Test.YtaocbhfehncdcaaGreatDoorXDt
import Derived.Test.YtaocbhfehncdcaaGreatDoorXM20
import Derived.Recover
import Derived.Defers
namespace Go.Proofs.YtaocbhfehncdcaaGreatDoor
open Go.RowKit

set_option maxRecDepth 100000 in
set_option maxHeartbeats 4000000 in
theorem rInter_any (L : List UInt8) (hz : L.length ≤ 20000) (w : World) : Calls Tryz.prog 12 #[.string (bs L)] w (IrP L w) := by
  have hsz : (bs L).size = L.length := bs_size L
  by_cases h : L.length ≤ 4096
  · have x1 : ((bs L).size : Int) ≤ 4096 := by omega
    have HI := Lib.hid (fun w => interpolated_any L hz w)
    have HV : Hid (irV L = (itN L, 0)) := if_pos h
    clear hsz hz h
    generalize bs L = s at *
    have HT0 := Lib.hid (NkAt.zero w)
    have HB0 := Lib.hid ((Below.refl w.heap.size w).alloc (Nat.le_refl _) zN)
    unfold zN at HT0 HB0
    go_enter Tryz.func12, Tryz.ntmps12
    go_wp2_with fail
    generalize w.alloc _ = W0 at *
    generalize hTT : w.heap.size = T at *
    have HTT := Lib.hid hTT
    clear hTT
    refine (HI.out _).mono ?_
    rintro e W2 ⟨v, rfl, hb, hnd⟩
    have HT2 := Lib.hid (HT0.out.below hb)
    have HB2 := Lib.hid (HB0.out.trans (hb.mono (Nat.le_of_lt HT0.out.lt)))
    have HG : Hid (T < W0.heap.size) := HT0.out.lt
    clear hb
    obtain ⟨o1, s1, t1, n1, L1, rfl⟩ := nd_form hnd
    obtain ⟨la, lk, lc, rfl⟩ := nd_slice hnd
    have HND := Lib.hid hnd
    clear hnd
    obtain ⟨u0, u1, u2, u3, u4⟩ := HT2.out.cells
    have z0 := HT2.out.frozen 0
    have z1 := HT2.out.frozen 1
    have z2 := HT2.out.frozen 2
    have z3 := HT2.out.frozen 3
    have z4 := HT2.out.frozen 4
    go_wp2
    have HR := HT2.out.put (.int .i64 o1) (.string s1) (.string t1) (.int .i64 n1) (.slice la lk lc)
    obtain ⟨r0, r1, r2, r3, r4⟩ := HR.cells
    change bodyPost _ _ _ _ _ (ndW W2 T (.int .i64 o1) (.string s1) (.string t1) (.int .i64 n1) (.slice la lk lc))
    refine bodyPost_ret (v := .tuple #[.agg #[.int .i64 o1, .string s1, .string t1, .int .i64 n1, .slice la lk lc], .int .i64 0]) ?_ rfl ?_
    · generalize ndW W2 T (.int .i64 o1) (.string s1) (.string t1) (.int .i64 n1) (.slice la lk lc) = WZ at *
      simp [results, Tryz.results12, go_sem, r0, r1, r2, r3, r4]
    · exact ir_ret HTT.out HB2.out HND.out (fun g h => Nat.lt_of_lt_of_le HG.out h) HV.out
  · have x1 : 4096 < ((bs L).size : Int) := by omega
    have HV : Hid (irV L = (.mk 0 ⟨#[]⟩ ⟨#[]⟩ 0 [], 3)) := if_neg h
    clear hsz hz h
    generalize bs L = s at *
    have HT0 := Lib.hid (NkAt.zero w)
    have HB0 := Lib.hid ((Below.refl w.heap.size w).alloc (Nat.le_refl _) zN)
    unfold zN at HT0 HB0
    go_enter Tryz.func12, Tryz.ntmps12
    go_upto_region 1 with fail
    generalize w.alloc _ = W0 at *
    generalize hTT : w.heap.size = T at *
    have HTT := Lib.hid hTT
    clear hTT
    obtain ⟨u0, u1, u2, u3, u4⟩ := HT0.out.cells
    have z0 := HT0.out.frozen 0
    have z1 := HT0.out.frozen 1
    have z2 := HT0.out.frozen 2
    have z3 := HT0.out.frozen 3
    have z4 := HT0.out.frozen 4
    go_wp2
    have HR := HT0.out.put (.int .i64 0) (.string ⟨#[]⟩) (.string ⟨#[]⟩) (.int .i64 0) (.slice none 0 0)
    obtain ⟨r0, r1, r2, r3, r4⟩ := HR.cells
    change bodyPost _ _ _ _ _ (ndW W0 T (.int .i64 0) (.string ⟨#[]⟩) (.string ⟨#[]⟩) (.int .i64 0) (.slice none 0 0))
    refine bodyPost_ret (v := .tuple #[.agg #[.int .i64 0, .string ⟨#[]⟩, .string ⟨#[]⟩, .int .i64 0, .slice none 0 0], .int .i64 3]) ?_ rfl ?_
    · generalize ndW W0 T (.int .i64 0) (.string ⟨#[]⟩) (.string ⟨#[]⟩) (.int .i64 0) (.slice none 0 0) = WZ at *
      simp [results, Tryz.results12, go_sem, r0, r1, r2, r3, r4]
    · exact ir_ret HTT.out HB0.out (S := fun _ => False) (.mk .none) (fun g h => h.elim) HV.out

end Go.Proofs.YtaocbhfehncdcaaGreatDoor

namespace Go.Proofs.YtaocbhfehncdcaaGreatDoor
open Go.RowKit

set_option maxRecDepth 100000 in
set_option maxHeartbeats 8000000 in
theorem isLarge_no (S : Nat → Prop) (l : List Nd) (L : Value) (w : World) (h : NsAt S w l L) (h1 : szL l ≤ 400) (h2 : dpL l ≤ 16) : Calls Tryz.prog 52 #[L] w (LkP (.bool false) w) := by
  have HP : Hid (∀ b w', b = false → Below w.heap.size w w' → LkP (.bool false) w (.returned (.bool b)) w') := fun b w' h1 h => ⟨by rw [h1], h⟩
  have H1 := Lib.hid (size_any S 400 l L w h1 (by omega) h)
  have H2 : Hid (∀ W, Below w.heap.size w W → Calls Tryz.prog 78 #[L] W (LkP (.int .i64 (dpL l : Int)) W)) := fun W hb => depth_any S 400 l L W h1 (by omega) (h.move fun g h1 h2 => ⟨hb.block g h2, h1⟩)
  have x1 : (szL l : Int) ≤ 400 := by omega
  have x2 : (dpL l : Int) ≤ 16 := by omega
  clear h h1 h2
  go_enter Tryz.func52, Tryz.ntmps52
  go_wp2_with fail
  refine H1.out.mono ?_
  rintro e1 W1 ⟨rfl, hb1⟩
  have HB1 := Lib.hid hb1
  clear hb1
  go_wp2_with fail
  refine (H2.out _ HB1.out).mono ?_
  rintro e1 W2 ⟨rfl, hb2⟩
  have HB2 := Lib.hid (HB1.out.trans (hb2.mono HB1.out.size))
  clear hb2
  have x3 : decide ((400 : Int) < (szL l : Int)) = false := decide_eq_false (by omega)
  have x4 : decide ((16 : Int) < (dpL l : Int)) = false := decide_eq_false (by omega)
  go_wp2
  go_ret
  refine HP.out _ _ ?_ HB2.out
  first | rfl | (simp; omega)
set_option maxRecDepth 100000 in
set_option maxHeartbeats 8000000 in
theorem single_a (κ : Pc) (P : Nat) (w : World) (h : PsAt κ tsA P 0 w) : Calls Tryz.prog 35 #[.pointer (some ⟨P, 0, none⟩)] w (OcL κ tsA P 8 [nI (nI nX (nN 1)) (nN 2)] w) := by
  have HM := Lib.hid (text_a κ P w h)
  clear h
  go_enter Tryz.func35, Tryz.ntmps35
  go_wp2_with fail
  refine HM.out.mono ?_
  rintro e1 W1 ⟨v, rfl, hn, hs, hb⟩
  obtain ⟨la, ln, lc, rfl⟩ := nd_val hn
  have hba : Below W1.heap.size W1 (W1.alloc (.cells #[.int .i64 8, .string ⟨#[]⟩, .string ⟨#[]⟩, .int .i64 0, .slice la ln lc] 28)) := (Below.refl _ _).alloc (Nat.le_refl _) _
  have HX : Hid (OcL κ tsA P 8 [nI (nI nX (nN 1)) (nN 2)] w (.returned (.slice (some ⟨W1.heap.size, 0, none⟩) 1 1)) (W1.alloc (.cells #[.int .i64 8, .string ⟨#[]⟩, .string ⟨#[]⟩, .int .i64 0, .slice la ln lc] 28))) := by
    cases hn with
    | mk hL =>
      exact ⟨_, rfl, .some hb.size (last_at rfl rfl) (.cons (hL.move fun g h1 h2 => ⟨hba.block g h2, h1⟩) .nil) rfl (by decide), hs.later hba, hb.trans (But.of hba)⟩
  clear hn hs hb hba
  go_wp2
  go_ret
  exact HX.out
set_option maxRecDepth 100000 in
set_option maxHeartbeats 8000000 in
theorem program_c (κ : Pc) (P : Nat) (w : World) (h : PsAt κ tsC P 0 w) : Calls Tryz.prog 36 #[.pointer (some ⟨P, 0, none⟩)] w (BadP P 3 w) := by
  have H0 := Lib.hid h
  have HST := Lib.hid (statement_c κ P)
  clear h
  go_enter Tryz.func36, Tryz.ntmps36
  go_wp2
  go_loopw [3, 4] (fun l _ wr => l = .slice none 0 0 ∧ wr = w) (fun _ _ _ => 0)
  case atStart => exact ⟨rfl, rfl⟩
  case round =>
    obtain ⟨rfl, rfl⟩ := hrel
    go_wp2_with fail
    refine (done_any κ tsC P 0 _ H0.out (by omega)).mono ?_
    rintro e1 W1 ⟨rfl, hb⟩
    rw [show decide (0 = tsC.length) = false from rfl]
    have H1 := Lib.hid (H0.out.later hb)
    have HB1 : Hid (But P wr W1) := But.of hb
    clear hb
    go_wp2_with fail
    refine (HST.out _ H1.out).mono ?_
    rintro e1 W2 ⟨rfl, hb⟩
    have HB2 := Lib.hid (HB1.out.trans hb)
    clear hb
    go_wp2
    exact ⟨rfl, rfl, HB2.out⟩
def nEx : Nd := .mk 40 ⟨#[]⟩ ⟨#[]⟩ 0 [.mk 27 ⟨#[]⟩ ⟨#[]⟩ 0 [nMy, .mk 6 ⟨#[95]⟩ ⟨#[]⟩ 0 []]]
set_option maxRecDepth 100000 in
set_option maxHeartbeats 8000000 in
theorem program_b (κ : Pc) (P : Nat) (w : World) (h : PsAt κ tsB P 0 w) : Calls Tryz.prog 36 #[.pointer (some ⟨P, 0, none⟩)] w (OcL κ tsB P 9 [nEx] w) := by
  have H0 := Lib.hid h
  have HST := Lib.hid (statement_b κ P)
  clear h
  go_enter Tryz.func36, Tryz.ntmps36
  go_wp2
  go_loopw [3, 4] (fun l _ wr => (l = .slice none 0 0 ∧ wr = w) ∨ (NsAt (fun g => w.heap.size ≤ g) wr [nEx] l ∧ Hid (PsAt κ tsB P 9 wr) ∧ Hid (But P w wr))) (fun _ _ wr => 10 - atP P wr)
  case atStart => exact .inl ⟨rfl, rfl⟩
  case round =>
    rcases hrel with ⟨rfl, rfl⟩ | ⟨hn, hs, hb⟩
    · have HAT := Lib.hid H0.out.pos
      go_wp2_with fail
      refine (done_any κ tsB P 0 _ H0.out (by omega)).mono ?_
      rintro e1 W1 ⟨rfl, hb⟩
      rw [show decide (0 = tsB.length) = false from rfl]
      have H1 := Lib.hid (H0.out.later hb)
      have HB1 : Hid (But P wr W1) := But.of hb
      have HSZ : Hid (wr.heap.size ≤ W1.heap.size) := hb.size
      clear hb
      go_wp2_with fail
      refine (HST.out _ H1.out).mono ?_
      rintro e1 W2 ⟨v, rfl, hn, hs, hb⟩
      have HN2 : Hid (NsAt (fun g => wr.heap.size ≤ g) W2 [nEx] v) := hn.move fun g h1 h2 => ⟨rfl, Nat.le_trans HSZ.out h1⟩
      have HS2 := Lib.hid hs
      have HB2 := Lib.hid (HB1.out.trans hb)
      have HM2 := Lib.hid hs.pos
      clear hn hs hb
      go_wp2
      go_roundw
      case rel => exact .inr ⟨HN2.out, HS2, HB2⟩
      case measure =>
        have h1 := HAT.out
        have h2 := HM2.out
        omega
    · have HN := Lib.hid hn
      clear hn
      go_wp2_with fail
      refine (done_any κ tsB P 9 _ hs.out (by omega)).mono ?_
      rintro e1 W1 ⟨rfl, hb1⟩
      rw [show decide (9 = tsB.length) = true from rfl]
      have HX : Hid (∀ v, Hid (NsAt (fun g => w.heap.size ≤ g) wr [nEx] v) → OcL κ tsB P 9 [nEx] w (.returned v) W1) := fun v hv => ⟨_, rfl, hv.out.move fun g h1 h2 => ⟨hb1.block g h2, h1⟩, hs.out.later hb1, hb.out.trans (But.of hb1)⟩
      clear hb1
      go_wp2
      go_ret
      exact HX.out _ HN

theorem assert_misfit (b : Int) (w : World) : (Instr.typeAssert (.iface 97 (.int .i64 b)) 20 97 true).run Tryz.prog w = .ok (.tuple #[.int .i64 b, .bool true]) w := by kernel_rfl
theorem assert_nil2 (w : World) : (Instr.typeAssert Value.nilIface 20 97 true).run Tryz.prog w = .ok (.tuple #[.int .i64 0, .bool false]) w := by kernel_rfl
set_option maxRecDepth 100000 in
theorem catch_misfit (p q : Addr) (x y : Value) (b : Nat) (w : World) (hc : w.cell? p = some x) (hz : w.frozen? p = false) (hd : (w.setCell p (.slice none 0 0)).cell? q = some y) (hy : (w.setCell p (.slice none 0 0)).frozen? q = false) :
    CallsD Tryz.prog 75 #[.pointer (some p), .pointer (some q)] (.panicking [{ v := .iface 97 (.int .i64 (b : Int)), recovered := false }]) w fun e u' w' =>
      e = .returned (.tuple #[]) ∧ u' = .panicking [{ v := .iface 97 (.int .i64 (b : Int)), recovered := true }] ∧ w' = (w.setCell p (.slice none 0 0)).setCell q (.int .i64 (b : Int)) := by
  refine callsD_of_wpS Tryz.func75 rfl fun c₀ cs hu => ?_
  apply wpS_seq
  apply wpS_region
  simp [wpOpsS, go_sem, recoverD, hu, assert_misfit, Tryz.ntmps75, Exit.thenS]
  apply wpS_seq
  apply wpS_region
  simp [wpOpsS, go_sem, Exit.thenS]
  refine wpS_cond (t := true) (by simp [Act.eval, Array.replicate]) ?_
  simp only [if_true]
  apply wpS_region
  simp [wpOpsS, go_sem, hc, hz, hd, hy, bodyPostS, results, Tryz.results75]
set_option maxRecDepth 100000 in
theorem catch_none (p q : Addr) (w : World) :
    CallsD Tryz.prog 75 #[.pointer (some p), .pointer (some q)] .returning w fun e u' w' => e = .returned (.tuple #[]) ∧ u' = .returning ∧ w' = w := by
  refine callsD_of_wpS Tryz.func75 rfl fun c₀ cs hu => ?_
  apply wpS_seq
  apply wpS_region
  simp [wpOpsS, go_sem, recoverD, hu, assert_nil2, Tryz.ntmps75, Exit.thenS]
  apply wpS_seq
  apply wpS_region
  simp [wpOpsS, go_sem, Exit.thenS]
  refine wpS_cond (t := false) (by simp [Act.eval, Array.replicate]) ?_
  simp only [Bool.false_eq_true, if_false]
  refine wpS_of_wp (wp_skip ?_)
  cases c₀
  simp_all [bodyPostS, results, Tryz.results75]

end Go.Proofs.YtaocbhfehncdcaaGreatDoor

namespace Go.Proofs.YtaocbhfehncdcaaGreatDoor
open Go.RowKit

/-- A block with one cell. -/
def CeAt (T : Nat) (v : Value) (ty : TypeId) (w : World) : Prop := w.heap[T]? = some (.cells #[v] ty (0, 0))
section
variable {T : Nat} {v : Value} {ty : TypeId} {w w' : World}
theorem CeAt.cell (h : CeAt T v ty w) : w.cell? ⟨T, 0, none⟩ = some v := Lib.cell_of_heap h 0
theorem CeAt.frozen (h : CeAt T v ty w) : w.frozen? ⟨T, 0, none⟩ = false := Lib.frozen_of_heap h 0
theorem CeAt.lt (h : CeAt T v ty w) : T < w.heap.size := (Array.getElem?_eq_some_iff.1 h).1
theorem CeAt.but {P : Nat} (h : CeAt T v ty w) (hb : But P w w') (hT : P < T) : CeAt T v ty w' := (hb.block T h.lt (by omega)).trans h
theorem CeAt.below (h : CeAt T v ty w) (hb : Below w.heap.size w w') : CeAt T v ty w' := (hb.block T h.lt).trans h
theorem CeAt.set (h : CeAt T v ty w) (u : Value) : CeAt T u ty (w.setCell ⟨T, 0, none⟩ u) := heap_setCell_same w T 0 _ _ u h
theorem CeAt.other (h : CeAt T v ty w) {Q : Nat} (hQ : T ≠ Q) (u : Value) : CeAt T v ty (w.setCell ⟨Q, 0, none⟩ u) := (Below.heap_setCell w ⟨Q, 0, none⟩ u T hQ).trans h
theorem CeAt.new (w : World) (v : Value) (ty : TypeId) : CeAt w.heap.size v ty (w.alloc (.cells #[v] ty)) := (Go.MapKept.heap_alloc w _).1
end
/-- What all leaves. -/
def AlP (P : Nat) (l : List Nd) (w : World) (e : Ending) (w' : World) : Prop := ∃ v, e = .returned (.tuple #[v, .int .i64 (-1)]) ∧ NsAt (fun g => w.heap.size ≤ g) w' l v ∧ But P w w'
def AlB (P m : Nat) (w : World) (e : Ending) (w' : World) : Prop := e = .returned (.tuple #[.slice none 0 0, .int .i64 (m : Int)]) ∧ But P w w'
/-- What is behind block E stays apart: cells of the call's own. -/
theorem But.own {P T : Nat} {w W : World} (h : But P w W) (hT : w.heap.size ≤ T) (u : Value) : But P w (W.setCell ⟨T, 0, none⟩ u) :=
  ⟨h.os, h.tape, h.output, by rw [World.size_setCell]; exact h.size, fun k hk hP => (Below.heap_setCell W ⟨T, 0, none⟩ u k (by show k ≠ T; omega)).trans (h.block k hk hP)⟩

set_option maxRecDepth 100000 in
set_option maxHeartbeats 16000000 in
theorem all_a (κ : Pc) (P : Nat) (w : World) (h : PsAt κ tsA P 0 w) : Calls Tryz.prog 51 #[.pointer (some ⟨P, 0, none⟩), .func (.func 35) #[] #[]] w (AlP P [nI (nI nX (nN 1)) (nN 2)] w) := by
  have hmf := makeFunc_run
  have hb0 : Below w.heap.size w ((w.alloc (.cells #[.slice none 0 0] 26)).alloc (.cells #[.int .i64 0] 3)) := ((Below.refl _ _).alloc (Nat.le_refl _) _).alloc (by simp) _
  have HS0 := Lib.hid (h.later hb0)
  have HB0 : Hid (But P w ((w.alloc (.cells #[.slice none 0 0] 26)).alloc (.cells #[.int .i64 0] 3))) := But.of hb0
  have HT0 := Lib.hid ((CeAt.new w (.slice none 0 0) 26).below ((Below.refl _ _).alloc (Nat.le_refl _) (.cells #[.int .i64 0] 3)))
  have HQ0 : Hid (CeAt (w.heap.size + 1) (.int .i64 0) 3 ((w.alloc (.cells #[.slice none 0 0] 26)).alloc (.cells #[.int .i64 0] 3))) := by
    have := CeAt.new (w.alloc (.cells #[.slice none 0 0] 26)) (.int .i64 0) 3
    rwa [show (w.alloc (.cells #[.slice none 0 0] 26)).heap.size = w.heap.size + 1 by simp] at this
  have HPT : Hid (P < w.heap.size) := h.lt
  have HL := Lib.hid h.all
  have HR := Lib.hid (single_a κ P)
  clear h hb0
  go_enter_defers Tryz.func51, Tryz.ntmps51
  go_wp2_with fail
  generalize (w.alloc _).alloc _ = W0 at *
  generalize hTT : w.heap.size = T at *
  have HTT : Hid (w.heap.size = T) := hTT
  clear hTT
  refine (HR.out _ HS0.out).mono ?_
  rintro e1 W1 ⟨v, rfl, hn, hs, hb⟩
  obtain ⟨la, lc, rfl, _, _⟩ := hn.row
  have HB1 := Lib.hid (HB0.out.trans hb)
  have HT1 := Lib.hid (HT0.out.but hb HPT.out)
  have HQ1 := Lib.hid (HQ0.out.but hb (by have := HPT.out; omega))
  have HN1 := Lib.hid (hn.move (S' := fun g => T + 1 < g) fun g h1 h2 => ⟨rfl, Nat.lt_of_lt_of_le HQ0.out.lt h1⟩)
  have HS1 := Lib.hid hs
  clear hn hs hb HB0 HT0 HQ0 HS0 HR
  have hset : ∀ (u : Value) (q : Nat), q ≠ T → (W1.setCell ⟨T, 0, none⟩ u).heap[q]? = W1.heap[q]? := fun u q hq => Below.heap_setCell W1 ⟨T, 0, none⟩ u q hq
  have HT2 := Lib.hid (HT1.out.set (.slice la 1 lc))
  have HQ2 := Lib.hid (HQ1.out.other (Q := T) (by omega) (.slice la 1 lc))
  have HB2 := Lib.hid (HB1.out.own (T := T) (by have := HTT.out; omega) (.slice la 1 lc))
  have HS2 : Hid (PsAt κ tsA P 8 (W1.setCell ⟨T, 0, none⟩ (.slice la 1 lc))) := HS1.out.part HL.out (fun q hq => hset _ q (by have := HTT.out; omega)) (by rw [World.size_setCell]; exact Nat.le_refl _)
  have HN2 : Hid (NsAt (fun g => T + 1 < g) (W1.setCell ⟨T, 0, none⟩ (.slice la 1 lc)) [nI (nI nX (nN 1)) (nN 2)] (.slice la 1 lc)) := HN1.out.move fun g h1 h2 => ⟨hset _ g (by omega), h1⟩
  have t1 := HT1.out.cell
  have t2 := HT1.out.frozen
  clear hset HS1 HB1 HN1 HQ1
  go_wp2_with fail
  clear t1 t2 HT1
  generalize W1.setCell _ _ = W2 at *
  refine (done_any κ tsA P 8 _ HS2.out (by omega)).mono ?_
  rintro e1 W3 ⟨rfl, hb3⟩
  rw [show decide (8 = tsA.length) = true from rfl]
  have HT3 := Lib.hid (HT2.out.below hb3)
  have HQ3 := Lib.hid (HQ2.out.below hb3)
  have HB3 := Lib.hid (HB2.out.trans (But.of hb3))
  have HN3 : Hid (NsAt (fun g => T + 1 < g) W3 [nI (nI nX (nN 1)) (nN 2)] (.slice la 1 lc)) := HN2.out.move fun g h1 h2 => ⟨hb3.block g h2, h1⟩
  clear hb3 HT2 HQ2 HB2 HN2 HS2
  have HQ4 := Lib.hid (HQ3.out.other (Q := T) (by omega) (.slice la 1 lc))
  have HT4 := Lib.hid (HT3.out.set (.slice la 1 lc))
  have HQ5 := Lib.hid (HQ4.out.set (.int .i64 (-1)))
  have HT5 := Lib.hid (HT4.out.other (Q := T + 1) (by omega) (.int .i64 (-1)))
  have HB5 := Lib.hid ((HB3.out.own (T := T) (by have := HTT.out; omega) (.slice la 1 lc)).own (T := T + 1) (by have := HTT.out; omega) (.int .i64 (-1)))
  have hset : ∀ (q : Nat), T + 1 < q → ((W3.setCell ⟨T, 0, none⟩ (.slice la 1 lc)).setCell ⟨T + 1, 0, none⟩ (.int .i64 (-1))).heap[q]? = W3.heap[q]? := fun q hq => (Below.heap_setCell _ ⟨T + 1, 0, none⟩ _ q (by show q ≠ T + 1; omega)).trans (Below.heap_setCell W3 ⟨T, 0, none⟩ _ q (by show q ≠ T; omega))
  have HN5 : Hid (NsAt (fun g => w.heap.size ≤ g) ((W3.setCell ⟨T, 0, none⟩ (.slice la 1 lc)).setCell ⟨T + 1, 0, none⟩ (.int .i64 (-1))) [nI (nI nX (nN 1)) (nN 2)] (.slice la 1 lc)) := HN3.out.move fun g h1 h2 => ⟨hset g h1, by have := HTT.out; omega⟩
  have t1 := HT3.out.cell
  have t2 := HT3.out.frozen
  have t3 := HQ4.out.cell
  have t4 := HQ4.out.frozen
  clear hset HN3 HB3 HT3 HQ3
  go_wp2
  refine leaves_cons (f := 75) (args := #[.pointer (some ⟨T, 0, none⟩), .pointer (some ⟨T + 1, 0, none⟩)]) (by simp) (by simp [go_sem]) ?_
  refine (catch_none ⟨T, 0, none⟩ ⟨T + 1, 0, none⟩ _).mono ?_
  rintro e2 u w9 ⟨rfl, rfl, rfl⟩
  have c1 := HT5.out.cell
  have c2 := HQ5.out.cell
  generalize (W3.setCell _ _).setCell _ _ = WZ at *
  simp [Leaves, settle, results, Tryz.results51, go_sem, c1, c2]
  exact ⟨_, rfl, HN5.out, HB5.out⟩

set_option maxRecDepth 100000 in
set_option maxHeartbeats 16000000 in
theorem all_b (κ : Pc) (P : Nat) (w : World) (h : PsAt κ tsB P 0 w) : Calls Tryz.prog 51 #[.pointer (some ⟨P, 0, none⟩), .func (.func 36) #[] #[]] w (AlP P [nEx] w) := by
  have hmf := makeFunc_run
  have hb0 : Below w.heap.size w ((w.alloc (.cells #[.slice none 0 0] 26)).alloc (.cells #[.int .i64 0] 3)) := ((Below.refl _ _).alloc (Nat.le_refl _) _).alloc (by simp) _
  have HS0 := Lib.hid (h.later hb0)
  have HB0 : Hid (But P w ((w.alloc (.cells #[.slice none 0 0] 26)).alloc (.cells #[.int .i64 0] 3))) := But.of hb0
  have HT0 := Lib.hid ((CeAt.new w (.slice none 0 0) 26).below ((Below.refl _ _).alloc (Nat.le_refl _) (.cells #[.int .i64 0] 3)))
  have HQ0 : Hid (CeAt (w.heap.size + 1) (.int .i64 0) 3 ((w.alloc (.cells #[.slice none 0 0] 26)).alloc (.cells #[.int .i64 0] 3))) := by
    have := CeAt.new (w.alloc (.cells #[.slice none 0 0] 26)) (.int .i64 0) 3
    rwa [show (w.alloc (.cells #[.slice none 0 0] 26)).heap.size = w.heap.size + 1 by simp] at this
  have HPT : Hid (P < w.heap.size) := h.lt
  have HL := Lib.hid h.all
  have HR := Lib.hid (program_b κ P)
  clear h hb0
  go_enter_defers Tryz.func51, Tryz.ntmps51
  go_wp2_with fail
  generalize (w.alloc _).alloc _ = W0 at *
  generalize hTT : w.heap.size = T at *
  have HTT : Hid (w.heap.size = T) := hTT
  clear hTT
  refine (HR.out _ HS0.out).mono ?_
  rintro e1 W1 ⟨v, rfl, hn, hs, hb⟩
  obtain ⟨la, lc, rfl, _, _⟩ := hn.row
  have HB1 := Lib.hid (HB0.out.trans hb)
  have HT1 := Lib.hid (HT0.out.but hb HPT.out)
  have HQ1 := Lib.hid (HQ0.out.but hb (by have := HPT.out; omega))
  have HN1 := Lib.hid (hn.move (S' := fun g => T + 1 < g) fun g h1 h2 => ⟨rfl, Nat.lt_of_lt_of_le HQ0.out.lt h1⟩)
  have HS1 := Lib.hid hs
  clear hn hs hb HB0 HT0 HQ0 HS0 HR
  have hset : ∀ (u : Value) (q : Nat), q ≠ T → (W1.setCell ⟨T, 0, none⟩ u).heap[q]? = W1.heap[q]? := fun u q hq => Below.heap_setCell W1 ⟨T, 0, none⟩ u q hq
  have HT2 := Lib.hid (HT1.out.set (.slice la 1 lc))
  have HQ2 := Lib.hid (HQ1.out.other (Q := T) (by omega) (.slice la 1 lc))
  have HB2 := Lib.hid (HB1.out.own (T := T) (by have := HTT.out; omega) (.slice la 1 lc))
  have HS2 : Hid (PsAt κ tsB P 9 (W1.setCell ⟨T, 0, none⟩ (.slice la 1 lc))) := HS1.out.part HL.out (fun q hq => hset _ q (by have := HTT.out; omega)) (by rw [World.size_setCell]; exact Nat.le_refl _)
  have HN2 : Hid (NsAt (fun g => T + 1 < g) (W1.setCell ⟨T, 0, none⟩ (.slice la 1 lc)) [nEx] (.slice la 1 lc)) := HN1.out.move fun g h1 h2 => ⟨hset _ g (by omega), h1⟩
  have t1 := HT1.out.cell
  have t2 := HT1.out.frozen
  clear hset HS1 HB1 HN1 HQ1
  go_wp2_with fail
  clear t1 t2 HT1
  generalize W1.setCell _ _ = W2 at *
  refine (done_any κ tsB P 9 _ HS2.out (by omega)).mono ?_
  rintro e1 W3 ⟨rfl, hb3⟩
  rw [show decide (9 = tsB.length) = true from rfl]
  have HT3 := Lib.hid (HT2.out.below hb3)
  have HQ3 := Lib.hid (HQ2.out.below hb3)
  have HB3 := Lib.hid (HB2.out.trans (But.of hb3))
  have HN3 : Hid (NsAt (fun g => T + 1 < g) W3 [nEx] (.slice la 1 lc)) := HN2.out.move fun g h1 h2 => ⟨hb3.block g h2, h1⟩
  clear hb3 HT2 HQ2 HB2 HN2 HS2
  have HQ4 := Lib.hid (HQ3.out.other (Q := T) (by omega) (.slice la 1 lc))
  have HT4 := Lib.hid (HT3.out.set (.slice la 1 lc))
  have HQ5 := Lib.hid (HQ4.out.set (.int .i64 (-1)))
  have HT5 := Lib.hid (HT4.out.other (Q := T + 1) (by omega) (.int .i64 (-1)))
  have HB5 := Lib.hid ((HB3.out.own (T := T) (by have := HTT.out; omega) (.slice la 1 lc)).own (T := T + 1) (by have := HTT.out; omega) (.int .i64 (-1)))
  have hset : ∀ (q : Nat), T + 1 < q → ((W3.setCell ⟨T, 0, none⟩ (.slice la 1 lc)).setCell ⟨T + 1, 0, none⟩ (.int .i64 (-1))).heap[q]? = W3.heap[q]? := fun q hq => (Below.heap_setCell _ ⟨T + 1, 0, none⟩ _ q (by show q ≠ T + 1; omega)).trans (Below.heap_setCell W3 ⟨T, 0, none⟩ _ q (by show q ≠ T; omega))
  have HN5 : Hid (NsAt (fun g => w.heap.size ≤ g) ((W3.setCell ⟨T, 0, none⟩ (.slice la 1 lc)).setCell ⟨T + 1, 0, none⟩ (.int .i64 (-1))) [nEx] (.slice la 1 lc)) := HN3.out.move fun g h1 h2 => ⟨hset g h1, by have := HTT.out; omega⟩
  have t1 := HT3.out.cell
  have t2 := HT3.out.frozen
  have t3 := HQ4.out.cell
  have t4 := HQ4.out.frozen
  clear hset HN3 HB3 HT3 HQ3
  go_wp2
  refine leaves_cons (f := 75) (args := #[.pointer (some ⟨T, 0, none⟩), .pointer (some ⟨T + 1, 0, none⟩)]) (by simp) (by simp [go_sem]) ?_
  refine (catch_none ⟨T, 0, none⟩ ⟨T + 1, 0, none⟩ _).mono ?_
  rintro e2 u w9 ⟨rfl, rfl, rfl⟩
  have c1 := HT5.out.cell
  have c2 := HQ5.out.cell
  generalize (W3.setCell _ _).setCell _ _ = WZ at *
  simp [Leaves, settle, results, Tryz.results51, go_sem, c1, c2]
  exact ⟨_, rfl, HN5.out, HB5.out⟩

set_option maxRecDepth 100000 in
set_option maxHeartbeats 16000000 in
theorem all_c (κ : Pc) (P : Nat) (w : World) (h : PsAt κ tsC P 0 w) : Calls Tryz.prog 51 #[.pointer (some ⟨P, 0, none⟩), .func (.func 36) #[] #[]] w (AlB P 3 w) := by
  have hmf := makeFunc_run
  have hb0 : Below w.heap.size w ((w.alloc (.cells #[.slice none 0 0] 26)).alloc (.cells #[.int .i64 0] 3)) := ((Below.refl _ _).alloc (Nat.le_refl _) _).alloc (by simp) _
  have HS0 := Lib.hid (h.later hb0)
  have HB0 : Hid (But P w ((w.alloc (.cells #[.slice none 0 0] 26)).alloc (.cells #[.int .i64 0] 3))) := But.of hb0
  have HT0 := Lib.hid ((CeAt.new w (.slice none 0 0) 26).below ((Below.refl _ _).alloc (Nat.le_refl _) (.cells #[.int .i64 0] 3)))
  have HQ0 : Hid (CeAt (w.heap.size + 1) (.int .i64 0) 3 ((w.alloc (.cells #[.slice none 0 0] 26)).alloc (.cells #[.int .i64 0] 3))) := by
    have := CeAt.new (w.alloc (.cells #[.slice none 0 0] 26)) (.int .i64 0) 3
    rwa [show (w.alloc (.cells #[.slice none 0 0] 26)).heap.size = w.heap.size + 1 by simp] at this
  have HPT : Hid (P < w.heap.size) := h.lt
  have HL := Lib.hid h.all
  have HR := Lib.hid (program_c κ P)
  clear h hb0
  go_enter_defers Tryz.func51, Tryz.ntmps51
  go_wp2_with fail
  generalize (w.alloc _).alloc _ = W0 at *
  generalize hTT : w.heap.size = T at *
  have HTT : Hid (w.heap.size = T) := hTT
  clear hTT
  refine (HR.out _ HS0.out).mono ?_
  rintro e1 W1 ⟨rfl, hb⟩
  have HB1 := Lib.hid (HB0.out.trans hb)
  have HT1 := Lib.hid (HT0.out.but hb HPT.out)
  have HQ1 := Lib.hid (HQ0.out.but hb (by have := HPT.out; omega))
  clear hb HB0 HT0 HQ0 HS0
  go_wp2
  have HT2 := Lib.hid (HT1.out.set (.slice none 0 0))
  have HQ2 := Lib.hid (HQ1.out.other (Q := T) (by omega) (.slice none 0 0))
  refine leaves_cons (f := 75) (args := #[.pointer (some ⟨T, 0, none⟩), .pointer (some ⟨T + 1, 0, none⟩)]) (by simp) (by simp [go_sem]) ?_
  refine (catch_misfit ⟨T, 0, none⟩ ⟨T + 1, 0, none⟩ _ _ 3 _ HT1.out.cell HT1.out.frozen HQ2.out.cell HQ2.out.frozen).mono ?_
  rintro e2 u w9 ⟨rfl, rfl, rfl⟩
  have t1 := (HT2.out.other (Q := T + 1) (by omega) (.int .i64 ((3 : Nat) : Int))).cell
  have t2 := (HQ2.out.set (.int .i64 ((3 : Nat) : Int))).cell
  have HBZ := Lib.hid ((HB1.out.own (T := T) (by have := HTT.out; omega) (.slice none 0 0)).own (T := T + 1) (by have := HTT.out; omega) (.int .i64 ((3 : Nat) : Int)))
  generalize (W1.setCell _ _).setCell _ _ = WZ at *
  simp [Leaves, settle, results, Tryz.results51, go_sem, t1, t2]
  exact ⟨rfl, HBZ.out⟩


end Go.Proofs.YtaocbhfehncdcaaGreatDoor
