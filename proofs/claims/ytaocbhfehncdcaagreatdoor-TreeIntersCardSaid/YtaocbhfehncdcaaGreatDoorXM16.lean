/-
  What the parser's methods leave; the walk of those that hand on what another one read. Conditions: none beside those stated. The parser's methods that hand on what another one read. Conditions: none beside those stated. The parser's methods that hand on what another one read. Conditions: none beside those stated.
-/
import Derived.Test.YtaocbhfehncdcaaGreatDoorXM15
namespace Go.Proofs.YtaocbhfehncdcaaGreatDoor
open Go.RowKit Go.MapKept Go.ChangeMaps

theorem NsAt.val {S : Nat → Prop} {w : World} {l : List Nd} {L : Value} (h : NsAt S w l L) : ∃ a n c, L = .slice a n c := by
  cases h with
  | none => exact ⟨_, _, _, rfl⟩
  | some => exact ⟨_, _, _, rfl⟩
/-- The block of a node. -/
def NkAt (T : Nat) (v0 v1 v2 v3 v4 : Value) (W : World) : Prop := W.heap[T]? = some (.cells #[v0, v1, v2, v3, v4] 28 (0, 0))
def ndW (W : World) (T : Nat) (v0 v1 v2 v3 v4 : Value) : World :=
  ((((W.setCell ⟨T, 0, none⟩ v0).setCell ⟨T, 1, none⟩ v1).setCell ⟨T, 2, none⟩ v2).setCell ⟨T, 3, none⟩ v3).setCell ⟨T, 4, none⟩ v4
def zN : Obj := .cells #[.int .i64 0, .string ⟨#[]⟩, .string ⟨#[]⟩, .int .i64 0, .slice none 0 0] 28
section
variable {T : Nat} {v0 v1 v2 v3 v4 : Value} {W : World}
theorem NkAt.cells (h : NkAt T v0 v1 v2 v3 v4 W) : W.cell? ⟨T, 0, none⟩ = some v0 ∧ W.cell? ⟨T, 1, none⟩ = some v1 ∧ W.cell? ⟨T, 2, none⟩ = some v2 ∧ W.cell? ⟨T, 3, none⟩ = some v3 ∧ W.cell? ⟨T, 4, none⟩ = some v4 := by
  unfold NkAt at h
  refine ⟨?_, ?_, ?_, ?_, ?_⟩ <;> (rw [Lib.cell_of_heap h]; rfl)
theorem NkAt.frozen (h : NkAt T v0 v1 v2 v3 v4 W) (i : Nat) : W.frozen? ⟨T, i, none⟩ = false := Lib.frozen_of_heap h i
theorem NkAt.lt (h : NkAt T v0 v1 v2 v3 v4 W) : T < W.heap.size := (Array.getElem?_eq_some_iff.1 h).1
theorem NkAt.but {P : Nat} {W' : World} (h : NkAt T v0 v1 v2 v3 v4 W) (hb : But P W W') (hT : P < T) : NkAt T v0 v1 v2 v3 v4 W' := (hb.block T h.lt (by omega)).trans h
theorem NkAt.below {W' : World} (h : NkAt T v0 v1 v2 v3 v4 W) (hb : Below W.heap.size W W') : NkAt T v0 v1 v2 v3 v4 W' := (hb.block T h.lt).trans h
theorem NkAt.put (h : NkAt T v0 v1 v2 v3 v4 W) (u0 u1 u2 u3 u4 : Value) : NkAt T u0 u1 u2 u3 u4 (ndW W T u0 u1 u2 u3 u4) :=
  heap_setCell_same _ T 4 _ _ u4 (heap_setCell_same _ T 3 _ _ u3 (heap_setCell_same _ T 2 _ _ u2 (heap_setCell_same _ T 1 _ _ u1 (heap_setCell_same W T 0 _ _ u0 h))))
end
theorem ndW_below (W : World) (T : Nat) (v0 v1 v2 v3 v4 : Value) : Below T W (ndW W T v0 v1 v2 v3 v4) :=
  (((((Below.refl T W).setCell (p := ⟨T, 0, none⟩) (Nat.le_refl _) v0).setCell (p := ⟨T, 1, none⟩) (Nat.le_refl _) v1).setCell (p := ⟨T, 2, none⟩) (Nat.le_refl _) v2).setCell (p := ⟨T, 3, none⟩) (Nat.le_refl _) v3).setCell (p := ⟨T, 4, none⟩) (Nat.le_refl _) v4
theorem ndW_size (W : World) (T : Nat) (v0 v1 v2 v3 v4 : Value) : (ndW W T v0 v1 v2 v3 v4).heap.size = W.heap.size := by
  unfold ndW
  simp [World.size_setCell]
theorem ndW_block (W : World) (T : Nat) (v0 v1 v2 v3 v4 : Value) (k : Nat) (hk : k ≠ T) : (ndW W T v0 v1 v2 v3 v4).heap[k]? = W.heap[k]? := by
  unfold ndW
  exact (Below.heap_setCell _ ⟨T, 4, none⟩ _ k hk).trans ((Below.heap_setCell _ ⟨T, 3, none⟩ _ k hk).trans ((Below.heap_setCell _ ⟨T, 2, none⟩ _ k hk).trans ((Below.heap_setCell _ ⟨T, 1, none⟩ _ k hk).trans (Below.heap_setCell _ ⟨T, 0, none⟩ _ k hk))))
theorem NkAt.zero (w : World) : NkAt w.heap.size (.int .i64 0) (.string ⟨#[]⟩) (.string ⟨#[]⟩) (.int .i64 0) (.slice none 0 0) (w.alloc zN) := (Go.MapKept.heap_alloc w _).1
theorem NkAt.new (w : World) (v0 v1 v2 v3 v4 : Value) : NkAt w.heap.size v0 v1 v2 v3 v4 (w.alloc (.cells #[v0, v1, v2, v3, v4] 28)) := (Go.MapKept.heap_alloc w _).1

/-- The parser's parts lie ahead of block E. -/
structure PcLt (κ : Pc) (P E : Nat) : Prop where
  p : P < E
  g : κ.g < E
  m : ∀ n, n < 8 → κ.m n < E
theorem PsAt.all {κ : Pc} {ts : List Tt} {P k : Nat} {w : World} (h : PsAt κ ts P k w) : PcLt κ P w.heap.size := ⟨h.lt, h.glt, fun n hn => (h.map n hn).lt⟩
theorem PsAt.part {κ : Pc} {ts : List Tt} {P k E : Nat} {w w' : World} (h : PsAt κ ts P k w) (hL : PcLt κ P E) (hb : ∀ T, T < E → w'.heap[T]? = w.heap[T]?) (hs : w.heap.size ≤ w'.heap.size) : PsAt κ ts P k w' :=
  ⟨(hb P hL.p).trans h.blk, fun i hi => (h.row i hi).later (hb _ hL.g), Nat.lt_of_lt_of_le h.glt hs, h.gne, h.cap, fun n hn => (h.map n hn).block (hb _ (hL.m n hn)), h.mne, h.few⟩
/-- What a method ends with: a tree, the parser being further on; or it gives up at a token. -/
inductive Oc where
  | ok (j : Nat) (t : Nd)
  | bad (m : Nat)
def OcP (κ : Pc) (ts : List Tt) (P : Nat) : Oc → World → Ending → World → Prop
  | .ok j t, w, e, w' => ∃ v, e = .returned v ∧ NdAt (fun g => w.heap.size ≤ g) w' t v ∧ PsAt κ ts P j w' ∧ But P w w'
  | .bad m, w, e, w' => BadP P m w e w'
/-- A method of the parser, from token k on. -/
def Mt (κ : Pc) (ts : List Tt) (P k : Nat) (f : Nat) (o : Oc) : Prop := ∀ w, PsAt κ ts P k w → Calls Tryz.prog f #[.pointer (some ⟨P, 0, none⟩)] w (OcP κ ts P o w)
/-- A condition on where a method has gone on to. -/
def Oc.at (o : Oc) (f : Nat → Prop) : Prop := match o with | .ok j _ => f j | .bad _ => True
theorem fn_ret {κ : Pc} {ts : List Tt} {P j T : Nat} {w W : World} {t : Nd} {v0 v1 v2 v3 v4 : Value} {S : Nat → Prop} (hT : w.heap.size ≤ T) (hL : PcLt κ P T) (hP : PsAt κ ts P j W) (hB : But P w W) (hN : NdAt S W t (.agg #[v0, v1, v2, v3, v4])) (hS : ∀ g, S g → T < g) :
    OcP κ ts P (.ok j t) w (.returned (.agg #[v0, v1, v2, v3, v4])) (ndW W T v0 v1 v2 v3 v4) := by
  have hb := ndW_below W T v0 v1 v2 v3 v4
  refine ⟨_, rfl, hN.move fun g h1 h2 => ⟨ndW_block _ _ _ _ _ _ _ _ (by have := hS g h1; omega), by have := hS g h1; omega⟩, hP.part hL (fun k hk => hb.block k hk) (by rw [ndW_size]; exact Nat.le_refl _), ?_⟩
  exact ⟨hb.os.trans hB.os, hb.tape.trans hB.tape, hb.output.trans hB.output, by rw [ndW_size]; exact hB.size, fun k hk hP => (hb.block k (by omega)).trans (hB.block k hk hP)⟩

theorem token_x (κ : Pc) (ts : List Tt) (P k : Nat) (w : World) (h : PsAt κ ts P k w) (hk : k ≤ 100000) :
    Calls Tryz.prog 84 #[.pointer (some ⟨P, 0, none⟩)] w (LkP (.agg #[.int .i64 (tAt ts k).k, .int .i64 (tAt ts k).a, .string (tAt ts k).x, .string ⟨#[]⟩, .string ⟨#[]⟩, .int .i64 (tAt ts k).o]) w) := token_any κ ts P k w h hk
theorem TkAt.new (w : World) (v0 v1 v2 v3 v4 v5 : Value) : TkAt w.heap.size v0 v1 v2 v3 v4 v5 (w.alloc (.cells #[v0, v1, v2, v3, v4, v5] 101)) := (Go.MapKept.heap_alloc w _).1
theorem SMap.none {P : Program} {w : World} {B : Nat} {l : List (ByteArray × Value)} (h : SMap w B l) {t k e : TypeId} (ht : P.underlying t = some (.map k e)) (hk : P.underlying k = some .string) {z : Value} (hz : (zeroValue e).run P w = .ok z w) {key : ByteArray} (hn : findS key l = Option.none) :
    (Instr.lookup t (.map (some B)) (.string key) false).run P w = .ok z w := by
  obtain ⟨es, h1, h2⟩ := h
  have hfind : Instr.findNow .string (.string key) es.toList 0 = some Option.none := findNow_none key es.toList l 0 h2 hn
  have hkey : MapKept.IsKey .string (.string key) := trivial
  simp [Instr.lookup, run_underlying ht, MapKept.run_getObj_map h1, MapKept.run_checkKey hk hkey, MapKept.run_findKey hk hfind, hz]
theorem PsAt.look {κ : Pc} {ts : List Tt} {P k : Nat} {w : World} (h : PsAt κ ts P k w) (n : Nat) (hn : n < 8) (x : ByteArray) (hx : findS x (lvM n) = Option.none) :
    (Instr.lookup 72 (.map (some (κ.m n))) (.string x) false).run Tryz.prog w = .ok (.int .i64 0) w :=
  (h.map n hn).none (P := Tryz.prog) Tryz.underlying72 Tryz.underlying9 (Tryz.zeroValue3 _) hx
theorem PsAt.lev {κ : Pc} {ts : List Tt} {P k : Nat} {w : World} (h : PsAt κ ts P k w) : w.cell? ⟨P, 2, none⟩ = some (.map (some κ.m0)) ∧ w.cell? ⟨P, 3, none⟩ = some (.map (some κ.m1)) ∧ w.cell? ⟨P, 4, none⟩ = some (.map (some κ.m2)) ∧ w.cell? ⟨P, 5, none⟩ = some (.map (some κ.m3)) ∧ w.cell? ⟨P, 6, none⟩ = some (.map (some κ.m4)) ∧ w.cell? ⟨P, 7, none⟩ = some (.map (some κ.m5)) ∧ w.cell? ⟨P, 8, none⟩ = some (.map (some κ.m6)) ∧ w.cell? ⟨P, 9, none⟩ = some (.map (some κ.m7)) := by
  refine ⟨?_, ?_, ?_, ?_, ?_, ?_, ?_, ?_⟩ <;> (rw [Lib.cell_of_heap h.blk]; rfl)

end Go.Proofs.YtaocbhfehncdcaaGreatDoor

namespace Go.Proofs.YtaocbhfehncdcaaGreatDoor
open Go.RowKit

set_option maxRecDepth 100000 in
set_option maxHeartbeats 8000000 in
theorem postfix_any (κ : Pc) (ts : List Tt) (P k : Nat) (o : Oc) (hm : Mt κ ts P k 236 o) (hq : o.at fun j => j ≤ 1000 ∧ sgOf (tAt ts j) ⟨#[43, 43]⟩ = false ∧ sgOf (tAt ts j) ⟨#[45, 45]⟩ = false) : Mt κ ts P k 229 o := by
  intro w h
  have HL := Lib.hid h.all
  have HS0 : Hid (PsAt κ ts P k (w.alloc zN)) := h.later ((Below.refl _ _).alloc (Nat.le_refl _) _)
  have HB0 : Hid (But P w (w.alloc zN)) := But.alloc P w _
  have HT0 := Lib.hid (NkAt.zero w)
  unfold zN at HS0 HB0 HT0
  have HM := Lib.hid hm
  clear hm
  clear h
  go_enter Tryz.func229, Tryz.ntmps229
  go_wp2_with fail
  generalize w.alloc _ = W0 at *
  generalize hTT : w.heap.size = T at *
  have HTT : Hid (w.heap.size ≤ T) := Nat.le_of_eq hTT
  clear hTT
  refine (HM.out _ HS0.out).mono ?_
  intro e1 W1 h1
  cases o with
  | bad m =>
    obtain ⟨rfl, hb1⟩ := h1
    have HBZ : Hid (But P w W1) := HB0.out.trans hb1
    clear hb1
    go_wp2
    exact ⟨rfl, rfl, HBZ.out⟩
  | ok j t =>
    obtain ⟨v, rfl, hn, hs1, hb1⟩ := h1
    cases hn with
    | @mk op s t' n l L hn =>
      obtain ⟨la, ln, lc, rfl⟩ := hn.val
      have HN_1 : Hid (NdAt (fun g => T < g) W1 (.mk op s t' n l) (.agg #[.int .i64 op, .string s, .string t', .int .i64 n, .slice la ln lc])) := .mk (hn.move fun g h1 h2 => ⟨rfl, Nat.lt_of_lt_of_le HT0.out.lt h1⟩)
      have HS1 := Lib.hid hs1
      have HB1 : Hid (But P w W1) := HB0.out.trans hb1
      have HT1 := Lib.hid (HT0.out.but hb1 HL.out.p)
      clear HB0 HT0 HS0 hn hs1 hb1 HM
      obtain ⟨hj, q0, q1⟩ := hq
      have HX2 := Lib.hid (NkAt.new W1 (.int .i64 op) (.string s) (.string t') (.int .i64 n) (.slice la ln lc))
      have HGX : Hid (T < W1.heap.size) := HT1.out.lt
      have hb2 : Below W1.heap.size W1 (W1.alloc (.cells #[.int .i64 op, .string s, .string t', .int .i64 n, .slice la ln lc] 28)) := (Below.refl _ _).alloc (Nat.le_refl _) _
      have HS2 : Hid (PsAt κ ts P j (W1.alloc (.cells #[.int .i64 op, .string s, .string t', .int .i64 n, .slice la ln lc] 28))) := HS1.out.later hb2
      have HB2 : Hid (But P w (W1.alloc (.cells #[.int .i64 op, .string s, .string t', .int .i64 n, .slice la ln lc] 28))) := HB1.out.trans (But.of hb2)
      have HT2 := Lib.hid (HT1.out.below hb2)
      have HN_2 := Lib.hid (HN_1.out.move (S' := fun g => T < g) (w' := (W1.alloc (.cells #[.int .i64 op, .string s, .string t', .int .i64 n, .slice la ln lc] 28))) fun g h1 h2 => ⟨hb2.block g h2, h1⟩)
      clear HS1 HB1 HT1 HN_1 hb2
      go_wp2_with fail
      generalize W1.alloc _ = W2 at *
      generalize W1.heap.size = X at *
      refine (sign_any κ ts P j _ HS2.out (by omega) _).mono ?_
      rintro e1 W3 ⟨rfl, hb3⟩
      have HS3 : Hid (PsAt κ ts P j W3) := HS2.out.later hb3
      have HB3 : Hid (But P w W3) := HB2.out.trans (But.of hb3)
      have HT3 := Lib.hid (HT2.out.below hb3)
      have HX3 := Lib.hid (HX2.out.below hb3)
      have HN_3 := Lib.hid (HN_2.out.move (S' := fun g => T < g) (w' := W3) fun g h1 h2 => ⟨hb3.block g h2, h1⟩)
      clear HS2 HB2 HT2 HX2 HN_2 hb3
      rw [q0]
      go_wp2_with fail
      refine (sign_any κ ts P j _ HS3.out (by omega) _).mono ?_
      rintro e1 W4 ⟨rfl, hb4⟩
      have HS4 : Hid (PsAt κ ts P j W4) := HS3.out.later hb4
      have HB4 : Hid (But P w W4) := HB3.out.trans (But.of hb4)
      have HT4 := Lib.hid (HT3.out.below hb4)
      have HX4 := Lib.hid (HX3.out.below hb4)
      have HN_4 := Lib.hid (HN_3.out.move (S' := fun g => T < g) (w' := W4) fun g h1 h2 => ⟨hb4.block g h2, h1⟩)
      clear HS3 HB3 HT3 HX3 HN_3 hb4
      rw [q1]
      obtain ⟨x0, x1, x2, x3, x4⟩ := HX4.out.cells
      obtain ⟨u0, u1, u2, u3, u4⟩ := HT4.out.cells
      have z0 := HT4.out.frozen 0
      have z1 := HT4.out.frozen 1
      have z2 := HT4.out.frozen 2
      have z3 := HT4.out.frozen 3
      have z4 := HT4.out.frozen 4
      go_wp2
      have HR := HT4.out.put (.int .i64 op) (.string s) (.string t') (.int .i64 n) (.slice la ln lc)
      obtain ⟨r0, r1, r2, r3, r4⟩ := HR.cells
      change bodyPost _ _ _ _ _ (ndW W4 T (.int .i64 op) (.string s) (.string t') (.int .i64 n) (.slice la ln lc))
      refine bodyPost_ret (v := .agg #[.int .i64 op, .string s, .string t', .int .i64 n, .slice la ln lc]) ?_ rfl (fn_ret HTT.out HL.out HS4.out HB4.out HN_4.out (fun g h => h))
      generalize ndW W4 T (.int .i64 op) (.string s) (.string t') (.int .i64 n) (.slice la ln lc) = WZ at *
      simp [results, Tryz.results229, go_sem, r0, r1, r2, r3, r4]
set_option maxRecDepth 100000 in
set_option maxHeartbeats 8000000 in
theorem bind_any (κ : Pc) (ts : List Tt) (P k : Nat) (o : Oc) (hm : Mt κ ts P k 220 o) (hq : o.at fun j => j ≤ 1000 ∧ sgOf (tAt ts j) ⟨#[33, 126]⟩ = false ∧ sgOf (tAt ts j) ⟨#[61, 126]⟩ = false) : Mt κ ts P k 212 o := by
  intro w h
  have HL := Lib.hid h.all
  have HS0 : Hid (PsAt κ ts P k (w.alloc zN)) := h.later ((Below.refl _ _).alloc (Nat.le_refl _) _)
  have HB0 : Hid (But P w (w.alloc zN)) := But.alloc P w _
  have HT0 := Lib.hid (NkAt.zero w)
  unfold zN at HS0 HB0 HT0
  have HM := Lib.hid hm
  clear hm
  clear h
  go_enter Tryz.func212, Tryz.ntmps212
  go_wp2_with fail
  generalize w.alloc _ = W0 at *
  generalize hTT : w.heap.size = T at *
  have HTT : Hid (w.heap.size ≤ T) := Nat.le_of_eq hTT
  clear hTT
  refine (HM.out _ HS0.out).mono ?_
  intro e1 W1 h1
  cases o with
  | bad m =>
    obtain ⟨rfl, hb1⟩ := h1
    have HBZ : Hid (But P w W1) := HB0.out.trans hb1
    clear hb1
    go_wp2
    exact ⟨rfl, rfl, HBZ.out⟩
  | ok j t =>
    obtain ⟨v, rfl, hn, hs1, hb1⟩ := h1
    cases hn with
    | @mk op s t' n l L hn =>
      obtain ⟨la, ln, lc, rfl⟩ := hn.val
      have HN_1 : Hid (NdAt (fun g => T < g) W1 (.mk op s t' n l) (.agg #[.int .i64 op, .string s, .string t', .int .i64 n, .slice la ln lc])) := .mk (hn.move fun g h1 h2 => ⟨rfl, Nat.lt_of_lt_of_le HT0.out.lt h1⟩)
      have HS1 := Lib.hid hs1
      have HB1 : Hid (But P w W1) := HB0.out.trans hb1
      have HT1 := Lib.hid (HT0.out.but hb1 HL.out.p)
      clear HB0 HT0 HS0 hn hs1 hb1 HM
      obtain ⟨hj, q0, q1⟩ := hq
      have HX2 := Lib.hid (NkAt.new W1 (.int .i64 op) (.string s) (.string t') (.int .i64 n) (.slice la ln lc))
      have HGX : Hid (T < W1.heap.size) := HT1.out.lt
      have hb2 : Below W1.heap.size W1 (W1.alloc (.cells #[.int .i64 op, .string s, .string t', .int .i64 n, .slice la ln lc] 28)) := (Below.refl _ _).alloc (Nat.le_refl _) _
      have HS2 : Hid (PsAt κ ts P j (W1.alloc (.cells #[.int .i64 op, .string s, .string t', .int .i64 n, .slice la ln lc] 28))) := HS1.out.later hb2
      have HB2 : Hid (But P w (W1.alloc (.cells #[.int .i64 op, .string s, .string t', .int .i64 n, .slice la ln lc] 28))) := HB1.out.trans (But.of hb2)
      have HT2 := Lib.hid (HT1.out.below hb2)
      have HN_2 := Lib.hid (HN_1.out.move (S' := fun g => T < g) (w' := (W1.alloc (.cells #[.int .i64 op, .string s, .string t', .int .i64 n, .slice la ln lc] 28))) fun g h1 h2 => ⟨hb2.block g h2, h1⟩)
      clear HS1 HB1 HT1 HN_1 hb2
      go_wp2_with fail
      generalize W1.alloc _ = W2 at *
      generalize W1.heap.size = X at *
      refine (sign_any κ ts P j _ HS2.out (by omega) _).mono ?_
      rintro e1 W3 ⟨rfl, hb3⟩
      have HS3 : Hid (PsAt κ ts P j W3) := HS2.out.later hb3
      have HB3 : Hid (But P w W3) := HB2.out.trans (But.of hb3)
      have HT3 := Lib.hid (HT2.out.below hb3)
      have HX3 := Lib.hid (HX2.out.below hb3)
      have HN_3 := Lib.hid (HN_2.out.move (S' := fun g => T < g) (w' := W3) fun g h1 h2 => ⟨hb3.block g h2, h1⟩)
      clear HS2 HB2 HT2 HX2 HN_2 hb3
      rw [q0]
      go_wp2_with fail
      refine (sign_any κ ts P j _ HS3.out (by omega) _).mono ?_
      rintro e1 W4 ⟨rfl, hb4⟩
      have HS4 : Hid (PsAt κ ts P j W4) := HS3.out.later hb4
      have HB4 : Hid (But P w W4) := HB3.out.trans (But.of hb4)
      have HT4 := Lib.hid (HT3.out.below hb4)
      have HX4 := Lib.hid (HX3.out.below hb4)
      have HN_4 := Lib.hid (HN_3.out.move (S' := fun g => T < g) (w' := W4) fun g h1 h2 => ⟨hb4.block g h2, h1⟩)
      clear HS3 HB3 HT3 HX3 HN_3 hb4
      rw [q1]
      obtain ⟨x0, x1, x2, x3, x4⟩ := HX4.out.cells
      obtain ⟨u0, u1, u2, u3, u4⟩ := HT4.out.cells
      have z0 := HT4.out.frozen 0
      have z1 := HT4.out.frozen 1
      have z2 := HT4.out.frozen 2
      have z3 := HT4.out.frozen 3
      have z4 := HT4.out.frozen 4
      go_wp2
      have HR := HT4.out.put (.int .i64 op) (.string s) (.string t') (.int .i64 n) (.slice la ln lc)
      obtain ⟨r0, r1, r2, r3, r4⟩ := HR.cells
      change bodyPost _ _ _ _ _ (ndW W4 T (.int .i64 op) (.string s) (.string t') (.int .i64 n) (.slice la ln lc))
      refine bodyPost_ret (v := .agg #[.int .i64 op, .string s, .string t', .int .i64 n, .slice la ln lc]) ?_ rfl (fn_ret HTT.out HL.out HS4.out HB4.out HN_4.out (fun g h => h))
      generalize ndW W4 T (.int .i64 op) (.string s) (.string t') (.int .i64 n) (.slice la ln lc) = WZ at *
      simp [results, Tryz.results212, go_sem, r0, r1, r2, r3, r4]
set_option maxRecDepth 100000 in
set_option maxHeartbeats 8000000 in
theorem level8_any (κ : Pc) (ts : List Tt) (P k : Nat) (o : Oc) (hm : Mt κ ts P k 212 o) : ∀ w, PsAt κ ts P k w → Calls Tryz.prog 186 #[.pointer (some ⟨P, 0, none⟩), .int .i64 8] w (OcP κ ts P o w) := by
  intro w h
  have HL := Lib.hid h.all
  have HS0 : Hid (PsAt κ ts P k (w.alloc zN)) := h.later ((Below.refl _ _).alloc (Nat.le_refl _) _)
  have HB0 : Hid (But P w (w.alloc zN)) := But.alloc P w _
  have HT0 := Lib.hid (NkAt.zero w)
  unfold zN at HS0 HB0 HT0
  have HM := Lib.hid hm
  clear hm
  clear h
  go_enter Tryz.func186, Tryz.ntmps186
  go_wp2_with fail
  generalize w.alloc _ = W0 at *
  generalize hTT : w.heap.size = T at *
  have HTT : Hid (w.heap.size ≤ T) := Nat.le_of_eq hTT
  clear hTT
  refine (HM.out _ HS0.out).mono ?_
  intro e1 W1 h1
  cases o with
  | bad m =>
    obtain ⟨rfl, hb1⟩ := h1
    have HBZ : Hid (But P w W1) := HB0.out.trans hb1
    clear hb1
    go_wp2
    exact ⟨rfl, rfl, HBZ.out⟩
  | ok j t =>
    obtain ⟨v, rfl, hn, hs1, hb1⟩ := h1
    cases hn with
    | @mk op s t' n l L hn =>
      obtain ⟨la, ln, lc, rfl⟩ := hn.val
      have HN_1 : Hid (NdAt (fun g => T < g) W1 (.mk op s t' n l) (.agg #[.int .i64 op, .string s, .string t', .int .i64 n, .slice la ln lc])) := .mk (hn.move fun g h1 h2 => ⟨rfl, Nat.lt_of_lt_of_le HT0.out.lt h1⟩)
      have HS1 := Lib.hid hs1
      have HB1 : Hid (But P w W1) := HB0.out.trans hb1
      have HT1 := Lib.hid (HT0.out.but hb1 HL.out.p)
      clear HB0 HT0 HS0 hn hs1 hb1 HM
      obtain ⟨u0, u1, u2, u3, u4⟩ := HT1.out.cells
      have z0 := HT1.out.frozen 0
      have z1 := HT1.out.frozen 1
      have z2 := HT1.out.frozen 2
      have z3 := HT1.out.frozen 3
      have z4 := HT1.out.frozen 4
      go_wp2
      have HR := HT1.out.put (.int .i64 op) (.string s) (.string t') (.int .i64 n) (.slice la ln lc)
      obtain ⟨r0, r1, r2, r3, r4⟩ := HR.cells
      change bodyPost _ _ _ _ _ (ndW W1 T (.int .i64 op) (.string s) (.string t') (.int .i64 n) (.slice la ln lc))
      refine bodyPost_ret (v := .agg #[.int .i64 op, .string s, .string t', .int .i64 n, .slice la ln lc]) ?_ rfl (fn_ret HTT.out HL.out HS1.out HB1.out HN_1.out (fun g h => h))
      generalize ndW W1 T (.int .i64 op) (.string s) (.string t') (.int .i64 n) (.slice la ln lc) = WZ at *
      simp [results, Tryz.results186, go_sem, r0, r1, r2, r3, r4]
set_option maxRecDepth 100000 in
set_option maxHeartbeats 8000000 in
theorem unary_any (κ : Pc) (ts : List Tt) (P k : Nat) (o : Oc) (hm : Mt κ ts P k 229 o) (hk : k ≤ 1000) (hq : ((tAt ts k).k != 3) = true) : Mt κ ts P k 220 o := by
  intro w h
  have HL := Lib.hid h.all
  have HS0 : Hid (PsAt κ ts P k (w.alloc zN)) := h.later ((Below.refl _ _).alloc (Nat.le_refl _) _)
  have HB0 : Hid (But P w (w.alloc zN)) := But.alloc P w _
  have HT0 := Lib.hid (NkAt.zero w)
  unfold zN at HS0 HB0 HT0
  have HM := Lib.hid hm
  clear hm
  clear h
  go_enter Tryz.func220, Tryz.ntmps220
  go_wp2_with fail
  generalize w.alloc _ = W0 at *
  generalize hTT : w.heap.size = T at *
  have HTT : Hid (w.heap.size ≤ T) := Nat.le_of_eq hTT
  clear hTT
  refine (token_x κ ts P k _ HS0.out (by omega)).mono ?_
  rintro e1 W1 ⟨rfl, hb1⟩
  have HS1 : Hid (PsAt κ ts P k W1) := HS0.out.later hb1
  have HB1 : Hid (But P w W1) := HB0.out.trans (But.of hb1)
  have HT1 := Lib.hid (HT0.out.below hb1)
  clear HS0 HB0 HT0 hb1
  have HY2 := Lib.hid (TkAt.new W1 (.int .i64 (tAt ts k).k) (.int .i64 (tAt ts k).a) (.string (tAt ts k).x) (.string ⟨#[]⟩) (.string ⟨#[]⟩) (.int .i64 (tAt ts k).o))
  have HGY : Hid (T < W1.heap.size) := HT1.out.lt
  have hb2 : Below W1.heap.size W1 (W1.alloc (.cells #[.int .i64 (tAt ts k).k, .int .i64 (tAt ts k).a, .string (tAt ts k).x, .string ⟨#[]⟩, .string ⟨#[]⟩, .int .i64 (tAt ts k).o] 101)) := (Below.refl _ _).alloc (Nat.le_refl _) _
  have HS2 : Hid (PsAt κ ts P k (W1.alloc (.cells #[.int .i64 (tAt ts k).k, .int .i64 (tAt ts k).a, .string (tAt ts k).x, .string ⟨#[]⟩, .string ⟨#[]⟩, .int .i64 (tAt ts k).o] 101))) := HS1.out.later hb2
  have HB2 : Hid (But P w (W1.alloc (.cells #[.int .i64 (tAt ts k).k, .int .i64 (tAt ts k).a, .string (tAt ts k).x, .string ⟨#[]⟩, .string ⟨#[]⟩, .int .i64 (tAt ts k).o] 101))) := HB1.out.trans (But.of hb2)
  have HT2 := Lib.hid (HT1.out.below hb2)
  clear HS1 HB1 HT1 hb2
  go_wp2_with fail
  generalize W1.alloc _ = W2 at *
  generalize W1.heap.size = Y at *
  obtain ⟨y0, y1, y2, y3, y4, y5⟩ := HY2.out.cells
  go_wp2_with fail
  refine (HM.out _ HS2.out).mono ?_
  intro e1 W3 h1
  cases o with
  | bad m =>
    obtain ⟨rfl, hb1⟩ := h1
    have HBZ : Hid (But P w W3) := HB2.out.trans hb1
    clear hb1
    go_wp2
    exact ⟨rfl, rfl, HBZ.out⟩
  | ok j t =>
    obtain ⟨v, rfl, hn, hs3, hb3⟩ := h1
    cases hn with
    | @mk op s t' n l L hn =>
      obtain ⟨la, ln, lc, rfl⟩ := hn.val
      have HN_3 : Hid (NdAt (fun g => T < g) W3 (.mk op s t' n l) (.agg #[.int .i64 op, .string s, .string t', .int .i64 n, .slice la ln lc])) := .mk (hn.move fun g h1 h2 => ⟨rfl, Nat.lt_of_lt_of_le HT2.out.lt h1⟩)
      have HS3 := Lib.hid hs3
      have HB3 : Hid (But P w W3) := HB2.out.trans hb3
      have HT3 := Lib.hid (HT2.out.but hb3 HL.out.p)
      clear HB2 HT2 HS2 hn hs3 hb3 HM
      obtain ⟨u0, u1, u2, u3, u4⟩ := HT3.out.cells
      have z0 := HT3.out.frozen 0
      have z1 := HT3.out.frozen 1
      have z2 := HT3.out.frozen 2
      have z3 := HT3.out.frozen 3
      have z4 := HT3.out.frozen 4
      go_wp2
      have HR := HT3.out.put (.int .i64 op) (.string s) (.string t') (.int .i64 n) (.slice la ln lc)
      obtain ⟨r0, r1, r2, r3, r4⟩ := HR.cells
      change bodyPost _ _ _ _ _ (ndW W3 T (.int .i64 op) (.string s) (.string t') (.int .i64 n) (.slice la ln lc))
      refine bodyPost_ret (v := .agg #[.int .i64 op, .string s, .string t', .int .i64 n, .slice la ln lc]) ?_ rfl (fn_ret HTT.out HL.out HS3.out HB3.out HN_3.out (fun g h => h))
      generalize ndW W3 T (.int .i64 op) (.string s) (.string t') (.int .i64 n) (.slice la ln lc) = WZ at *
      simp [results, Tryz.results220, go_sem, r0, r1, r2, r3, r4]
set_option maxRecDepth 100000 in
set_option maxHeartbeats 8000000 in
theorem level7_any (κ : Pc) (ts : List Tt) (P k : Nat) (o : Oc) (hm : ∀ w, PsAt κ ts P k w → Calls Tryz.prog 186 #[.pointer (some ⟨P, 0, none⟩), .int .i64 8] w (OcP κ ts P o w)) (hq : o.at fun j => j ≤ 1000 ∧ findS (tAt ts j).x (lvM 7) = none) : ∀ w, PsAt κ ts P k w → Calls Tryz.prog 186 #[.pointer (some ⟨P, 0, none⟩), .int .i64 7] w (OcP κ ts P o w) := by
  intro w h
  have HL := Lib.hid h.all
  have HS0 : Hid (PsAt κ ts P k (w.alloc zN)) := h.later ((Below.refl _ _).alloc (Nat.le_refl _) _)
  have HB0 : Hid (But P w (w.alloc zN)) := But.alloc P w _
  have HT0 := Lib.hid (NkAt.zero w)
  unfold zN at HS0 HB0 HT0
  have HM := Lib.hid hm
  clear hm
  clear h
  go_enter Tryz.func186, Tryz.ntmps186
  go_wp2_with fail
  generalize w.alloc _ = W0 at *
  generalize hTT : w.heap.size = T at *
  have HTT : Hid (w.heap.size ≤ T) := Nat.le_of_eq hTT
  clear hTT
  refine (HM.out _ HS0.out).mono ?_
  intro e1 W1 h1
  cases o with
  | bad m =>
    obtain ⟨rfl, hb1⟩ := h1
    have HBZ : Hid (But P w W1) := HB0.out.trans hb1
    clear hb1
    go_wp2
    exact ⟨rfl, rfl, HBZ.out⟩
  | ok j t =>
    obtain ⟨v, rfl, hn, hs1, hb1⟩ := h1
    cases hn with
    | @mk op s t' n l L hn =>
      obtain ⟨la, ln, lc, rfl⟩ := hn.val
      have HN_1 : Hid (NdAt (fun g => T < g) W1 (.mk op s t' n l) (.agg #[.int .i64 op, .string s, .string t', .int .i64 n, .slice la ln lc])) := .mk (hn.move fun g h1 h2 => ⟨rfl, Nat.lt_of_lt_of_le HT0.out.lt h1⟩)
      have HS1 := Lib.hid hs1
      have HB1 : Hid (But P w W1) := HB0.out.trans hb1
      have HT1 := Lib.hid (HT0.out.but hb1 HL.out.p)
      clear HB0 HT0 HS0 hn hs1 hb1 HM
      obtain ⟨hj, q0⟩ := hq
      have HX2 := Lib.hid (NkAt.new W1 (.int .i64 op) (.string s) (.string t') (.int .i64 n) (.slice la ln lc))
      have HGX : Hid (T < W1.heap.size) := HT1.out.lt
      have hb2 : Below W1.heap.size W1 (W1.alloc (.cells #[.int .i64 op, .string s, .string t', .int .i64 n, .slice la ln lc] 28)) := (Below.refl _ _).alloc (Nat.le_refl _) _
      have HS2 : Hid (PsAt κ ts P j (W1.alloc (.cells #[.int .i64 op, .string s, .string t', .int .i64 n, .slice la ln lc] 28))) := HS1.out.later hb2
      have HB2 : Hid (But P w (W1.alloc (.cells #[.int .i64 op, .string s, .string t', .int .i64 n, .slice la ln lc] 28))) := HB1.out.trans (But.of hb2)
      have HT2 := Lib.hid (HT1.out.below hb2)
      have HN_2 := Lib.hid (HN_1.out.move (S' := fun g => T < g) (w' := (W1.alloc (.cells #[.int .i64 op, .string s, .string t', .int .i64 n, .slice la ln lc] 28))) fun g h1 h2 => ⟨hb2.block g h2, h1⟩)
      clear HS1 HB1 HT1 HN_1 hb2
      go_wp2_with fail
      generalize W1.alloc _ = W2 at *
      generalize W1.heap.size = X at *
      go_loopw [16] (fun _ wr => wr = W2) (fun _ _ => 0)
      case atStart => rfl
      case round =>
        subst hrel
        go_wp2_with fail
        refine (token_x κ ts P j _ HS2.out (by omega)).mono ?_
        rintro e1 W3 ⟨rfl, hb3⟩
        have HS3 : Hid (PsAt κ ts P j W3) := HS2.out.later hb3
        have HB3 : Hid (But P w W3) := HB2.out.trans (But.of hb3)
        have HT3 := Lib.hid (HT2.out.below hb3)
        have HX3 := Lib.hid (HX2.out.below hb3)
        have HN_3 := Lib.hid (HN_2.out.move (S' := fun g => T < g) (w' := W3) fun g h1 h2 => ⟨hb3.block g h2, h1⟩)
        clear HS2 HB2 HT2 HX2 HN_2 hb3
        have HY4 := Lib.hid (TkAt.new W3 (.int .i64 (tAt ts j).k) (.int .i64 (tAt ts j).a) (.string (tAt ts j).x) (.string ⟨#[]⟩) (.string ⟨#[]⟩) (.int .i64 (tAt ts j).o))
        have HGY : Hid (T < W3.heap.size) := HT3.out.lt
        have hb4 : Below W3.heap.size W3 (W3.alloc (.cells #[.int .i64 (tAt ts j).k, .int .i64 (tAt ts j).a, .string (tAt ts j).x, .string ⟨#[]⟩, .string ⟨#[]⟩, .int .i64 (tAt ts j).o] 101)) := (Below.refl _ _).alloc (Nat.le_refl _) _
        have HS4 : Hid (PsAt κ ts P j (W3.alloc (.cells #[.int .i64 (tAt ts j).k, .int .i64 (tAt ts j).a, .string (tAt ts j).x, .string ⟨#[]⟩, .string ⟨#[]⟩, .int .i64 (tAt ts j).o] 101))) := HS3.out.later hb4
        have HB4 : Hid (But P w (W3.alloc (.cells #[.int .i64 (tAt ts j).k, .int .i64 (tAt ts j).a, .string (tAt ts j).x, .string ⟨#[]⟩, .string ⟨#[]⟩, .int .i64 (tAt ts j).o] 101))) := HB3.out.trans (But.of hb4)
        have HT4 := Lib.hid (HT3.out.below hb4)
        have HX4 := Lib.hid (HX3.out.below hb4)
        have HN_4 := Lib.hid (HN_3.out.move (S' := fun g => T < g) (w' := (W3.alloc (.cells #[.int .i64 (tAt ts j).k, .int .i64 (tAt ts j).a, .string (tAt ts j).x, .string ⟨#[]⟩, .string ⟨#[]⟩, .int .i64 (tAt ts j).o] 101))) fun g h1 h2 => ⟨hb4.block g h2, h1⟩)
        clear HS3 HB3 HT3 HX3 HN_3 hb4
        go_wp2_with fail
        generalize W3.alloc _ = W4 at *
        generalize W3.heap.size = Y at *
        have hl5 : ∀ q, (Instr.lookup 72 (.map (some κ.m7)) (.string (tAt ts j).x) false).run Tryz.prog (W4.drewN q) = .ok (.int .i64 0) (W4.drewN q) := fun q => (HS4.out.later (bl_drewN (Below.refl _ _) q)).look 7 (by decide) _ q0
        have hl0 := hl5 0
        obtain ⟨m0, m1, m2, m3, m4, m5, m6, m7⟩ := HS4.out.lev
        obtain ⟨y0, y1, y2, y3, y4, y5⟩ := HY4.out.cells
        go_quiet (fail)
        have hb6 : Below W4.heap.size W4 (W4.drewN nq) := bl_drewN (Below.refl _ _) nq
        have HS6 : Hid (PsAt κ ts P j (W4.drewN nq)) := HS4.out.later hb6
        have HB6 : Hid (But P w (W4.drewN nq)) := HB4.out.trans (But.of hb6)
        have HT6 := Lib.hid (HT4.out.below hb6)
        have HX6 := Lib.hid (HX4.out.below hb6)
        have HY6 := Lib.hid (HY4.out.later (hb6.block _ HY4.out.lt))
        have HN_6 := Lib.hid (HN_4.out.move (S' := fun g => T < g) (w' := (W4.drewN nq)) fun g h1 h2 => ⟨hb6.block g h2, h1⟩)
        clear HS4 HB4 HT4 HX4 HY4 HN_4 hb6 hl5 hl0 m0 m1 m2 m3 m4 m5 m6 m7 y0 y1 y2 y3 y4 y5
        generalize W4.drewN nq = W6 at *
        obtain ⟨x0, x1, x2, x3, x4⟩ := HX6.out.cells
        obtain ⟨u0, u1, u2, u3, u4⟩ := HT6.out.cells
        have z0 := HT6.out.frozen 0
        have z1 := HT6.out.frozen 1
        have z2 := HT6.out.frozen 2
        have z3 := HT6.out.frozen 3
        have z4 := HT6.out.frozen 4
        go_wp2
        have HR := HT6.out.put (.int .i64 op) (.string s) (.string t') (.int .i64 n) (.slice la ln lc)
        obtain ⟨r0, r1, r2, r3, r4⟩ := HR.cells
        change bodyPost _ _ _ _ _ (ndW W6 T (.int .i64 op) (.string s) (.string t') (.int .i64 n) (.slice la ln lc))
        refine bodyPost_ret (v := .agg #[.int .i64 op, .string s, .string t', .int .i64 n, .slice la ln lc]) ?_ rfl (fn_ret HTT.out HL.out HS6.out HB6.out HN_6.out (fun g h => h))
        generalize ndW W6 T (.int .i64 op) (.string s) (.string t') (.int .i64 n) (.slice la ln lc) = WZ at *
        simp [results, Tryz.results186, go_sem, r0, r1, r2, r3, r4]
set_option maxRecDepth 100000 in
set_option maxHeartbeats 8000000 in
theorem level6_any (κ : Pc) (ts : List Tt) (P k : Nat) (o : Oc) (hm : ∀ w, PsAt κ ts P k w → Calls Tryz.prog 186 #[.pointer (some ⟨P, 0, none⟩), .int .i64 7] w (OcP κ ts P o w)) (hq : o.at fun j => j ≤ 1000 ∧ findS (tAt ts j).x (lvM 6) = none) : ∀ w, PsAt κ ts P k w → Calls Tryz.prog 186 #[.pointer (some ⟨P, 0, none⟩), .int .i64 6] w (OcP κ ts P o w) := by
  intro w h
  have HL := Lib.hid h.all
  have HS0 : Hid (PsAt κ ts P k (w.alloc zN)) := h.later ((Below.refl _ _).alloc (Nat.le_refl _) _)
  have HB0 : Hid (But P w (w.alloc zN)) := But.alloc P w _
  have HT0 := Lib.hid (NkAt.zero w)
  unfold zN at HS0 HB0 HT0
  have HM := Lib.hid hm
  clear hm
  clear h
  go_enter Tryz.func186, Tryz.ntmps186
  go_wp2_with fail
  generalize w.alloc _ = W0 at *
  generalize hTT : w.heap.size = T at *
  have HTT : Hid (w.heap.size ≤ T) := Nat.le_of_eq hTT
  clear hTT
  refine (HM.out _ HS0.out).mono ?_
  intro e1 W1 h1
  cases o with
  | bad m =>
    obtain ⟨rfl, hb1⟩ := h1
    have HBZ : Hid (But P w W1) := HB0.out.trans hb1
    clear hb1
    go_wp2
    exact ⟨rfl, rfl, HBZ.out⟩
  | ok j t =>
    obtain ⟨v, rfl, hn, hs1, hb1⟩ := h1
    cases hn with
    | @mk op s t' n l L hn =>
      obtain ⟨la, ln, lc, rfl⟩ := hn.val
      have HN_1 : Hid (NdAt (fun g => T < g) W1 (.mk op s t' n l) (.agg #[.int .i64 op, .string s, .string t', .int .i64 n, .slice la ln lc])) := .mk (hn.move fun g h1 h2 => ⟨rfl, Nat.lt_of_lt_of_le HT0.out.lt h1⟩)
      have HS1 := Lib.hid hs1
      have HB1 : Hid (But P w W1) := HB0.out.trans hb1
      have HT1 := Lib.hid (HT0.out.but hb1 HL.out.p)
      clear HB0 HT0 HS0 hn hs1 hb1 HM
      obtain ⟨hj, q0⟩ := hq
      have HX2 := Lib.hid (NkAt.new W1 (.int .i64 op) (.string s) (.string t') (.int .i64 n) (.slice la ln lc))
      have HGX : Hid (T < W1.heap.size) := HT1.out.lt
      have hb2 : Below W1.heap.size W1 (W1.alloc (.cells #[.int .i64 op, .string s, .string t', .int .i64 n, .slice la ln lc] 28)) := (Below.refl _ _).alloc (Nat.le_refl _) _
      have HS2 : Hid (PsAt κ ts P j (W1.alloc (.cells #[.int .i64 op, .string s, .string t', .int .i64 n, .slice la ln lc] 28))) := HS1.out.later hb2
      have HB2 : Hid (But P w (W1.alloc (.cells #[.int .i64 op, .string s, .string t', .int .i64 n, .slice la ln lc] 28))) := HB1.out.trans (But.of hb2)
      have HT2 := Lib.hid (HT1.out.below hb2)
      have HN_2 := Lib.hid (HN_1.out.move (S' := fun g => T < g) (w' := (W1.alloc (.cells #[.int .i64 op, .string s, .string t', .int .i64 n, .slice la ln lc] 28))) fun g h1 h2 => ⟨hb2.block g h2, h1⟩)
      clear HS1 HB1 HT1 HN_1 hb2
      go_wp2_with fail
      generalize W1.alloc _ = W2 at *
      generalize W1.heap.size = X at *
      go_loopw [16] (fun _ wr => wr = W2) (fun _ _ => 0)
      case atStart => rfl
      case round =>
        subst hrel
        go_wp2_with fail
        refine (token_x κ ts P j _ HS2.out (by omega)).mono ?_
        rintro e1 W3 ⟨rfl, hb3⟩
        have HS3 : Hid (PsAt κ ts P j W3) := HS2.out.later hb3
        have HB3 : Hid (But P w W3) := HB2.out.trans (But.of hb3)
        have HT3 := Lib.hid (HT2.out.below hb3)
        have HX3 := Lib.hid (HX2.out.below hb3)
        have HN_3 := Lib.hid (HN_2.out.move (S' := fun g => T < g) (w' := W3) fun g h1 h2 => ⟨hb3.block g h2, h1⟩)
        clear HS2 HB2 HT2 HX2 HN_2 hb3
        have HY4 := Lib.hid (TkAt.new W3 (.int .i64 (tAt ts j).k) (.int .i64 (tAt ts j).a) (.string (tAt ts j).x) (.string ⟨#[]⟩) (.string ⟨#[]⟩) (.int .i64 (tAt ts j).o))
        have HGY : Hid (T < W3.heap.size) := HT3.out.lt
        have hb4 : Below W3.heap.size W3 (W3.alloc (.cells #[.int .i64 (tAt ts j).k, .int .i64 (tAt ts j).a, .string (tAt ts j).x, .string ⟨#[]⟩, .string ⟨#[]⟩, .int .i64 (tAt ts j).o] 101)) := (Below.refl _ _).alloc (Nat.le_refl _) _
        have HS4 : Hid (PsAt κ ts P j (W3.alloc (.cells #[.int .i64 (tAt ts j).k, .int .i64 (tAt ts j).a, .string (tAt ts j).x, .string ⟨#[]⟩, .string ⟨#[]⟩, .int .i64 (tAt ts j).o] 101))) := HS3.out.later hb4
        have HB4 : Hid (But P w (W3.alloc (.cells #[.int .i64 (tAt ts j).k, .int .i64 (tAt ts j).a, .string (tAt ts j).x, .string ⟨#[]⟩, .string ⟨#[]⟩, .int .i64 (tAt ts j).o] 101))) := HB3.out.trans (But.of hb4)
        have HT4 := Lib.hid (HT3.out.below hb4)
        have HX4 := Lib.hid (HX3.out.below hb4)
        have HN_4 := Lib.hid (HN_3.out.move (S' := fun g => T < g) (w' := (W3.alloc (.cells #[.int .i64 (tAt ts j).k, .int .i64 (tAt ts j).a, .string (tAt ts j).x, .string ⟨#[]⟩, .string ⟨#[]⟩, .int .i64 (tAt ts j).o] 101))) fun g h1 h2 => ⟨hb4.block g h2, h1⟩)
        clear HS3 HB3 HT3 HX3 HN_3 hb4
        go_wp2_with fail
        generalize W3.alloc _ = W4 at *
        generalize W3.heap.size = Y at *
        have hl5 : ∀ q, (Instr.lookup 72 (.map (some κ.m6)) (.string (tAt ts j).x) false).run Tryz.prog (W4.drewN q) = .ok (.int .i64 0) (W4.drewN q) := fun q => (HS4.out.later (bl_drewN (Below.refl _ _) q)).look 6 (by decide) _ q0
        have hl0 := hl5 0
        obtain ⟨m0, m1, m2, m3, m4, m5, m6, m7⟩ := HS4.out.lev
        obtain ⟨y0, y1, y2, y3, y4, y5⟩ := HY4.out.cells
        go_quiet (fail)
        have hb6 : Below W4.heap.size W4 (W4.drewN nq) := bl_drewN (Below.refl _ _) nq
        have HS6 : Hid (PsAt κ ts P j (W4.drewN nq)) := HS4.out.later hb6
        have HB6 : Hid (But P w (W4.drewN nq)) := HB4.out.trans (But.of hb6)
        have HT6 := Lib.hid (HT4.out.below hb6)
        have HX6 := Lib.hid (HX4.out.below hb6)
        have HY6 := Lib.hid (HY4.out.later (hb6.block _ HY4.out.lt))
        have HN_6 := Lib.hid (HN_4.out.move (S' := fun g => T < g) (w' := (W4.drewN nq)) fun g h1 h2 => ⟨hb6.block g h2, h1⟩)
        clear HS4 HB4 HT4 HX4 HY4 HN_4 hb6 hl5 hl0 m0 m1 m2 m3 m4 m5 m6 m7 y0 y1 y2 y3 y4 y5
        generalize W4.drewN nq = W6 at *
        obtain ⟨x0, x1, x2, x3, x4⟩ := HX6.out.cells
        obtain ⟨u0, u1, u2, u3, u4⟩ := HT6.out.cells
        have z0 := HT6.out.frozen 0
        have z1 := HT6.out.frozen 1
        have z2 := HT6.out.frozen 2
        have z3 := HT6.out.frozen 3
        have z4 := HT6.out.frozen 4
        go_wp2
        have HR := HT6.out.put (.int .i64 op) (.string s) (.string t') (.int .i64 n) (.slice la ln lc)
        obtain ⟨r0, r1, r2, r3, r4⟩ := HR.cells
        change bodyPost _ _ _ _ _ (ndW W6 T (.int .i64 op) (.string s) (.string t') (.int .i64 n) (.slice la ln lc))
        refine bodyPost_ret (v := .agg #[.int .i64 op, .string s, .string t', .int .i64 n, .slice la ln lc]) ?_ rfl (fn_ret HTT.out HL.out HS6.out HB6.out HN_6.out (fun g h => h))
        generalize ndW W6 T (.int .i64 op) (.string s) (.string t') (.int .i64 n) (.slice la ln lc) = WZ at *
        simp [results, Tryz.results186, go_sem, r0, r1, r2, r3, r4]
set_option maxRecDepth 100000 in
set_option maxHeartbeats 8000000 in
theorem level5_any (κ : Pc) (ts : List Tt) (P k : Nat) (o : Oc) (hm : ∀ w, PsAt κ ts P k w → Calls Tryz.prog 186 #[.pointer (some ⟨P, 0, none⟩), .int .i64 6] w (OcP κ ts P o w)) (hq : o.at fun j => j ≤ 1000 ∧ findS (tAt ts j).x (lvM 5) = none) : ∀ w, PsAt κ ts P k w → Calls Tryz.prog 186 #[.pointer (some ⟨P, 0, none⟩), .int .i64 5] w (OcP κ ts P o w) := by
  intro w h
  have HL := Lib.hid h.all
  have HS0 : Hid (PsAt κ ts P k (w.alloc zN)) := h.later ((Below.refl _ _).alloc (Nat.le_refl _) _)
  have HB0 : Hid (But P w (w.alloc zN)) := But.alloc P w _
  have HT0 := Lib.hid (NkAt.zero w)
  unfold zN at HS0 HB0 HT0
  have HM := Lib.hid hm
  clear hm
  clear h
  go_enter Tryz.func186, Tryz.ntmps186
  go_wp2_with fail
  generalize w.alloc _ = W0 at *
  generalize hTT : w.heap.size = T at *
  have HTT : Hid (w.heap.size ≤ T) := Nat.le_of_eq hTT
  clear hTT
  refine (HM.out _ HS0.out).mono ?_
  intro e1 W1 h1
  cases o with
  | bad m =>
    obtain ⟨rfl, hb1⟩ := h1
    have HBZ : Hid (But P w W1) := HB0.out.trans hb1
    clear hb1
    go_wp2
    exact ⟨rfl, rfl, HBZ.out⟩
  | ok j t =>
    obtain ⟨v, rfl, hn, hs1, hb1⟩ := h1
    cases hn with
    | @mk op s t' n l L hn =>
      obtain ⟨la, ln, lc, rfl⟩ := hn.val
      have HN_1 : Hid (NdAt (fun g => T < g) W1 (.mk op s t' n l) (.agg #[.int .i64 op, .string s, .string t', .int .i64 n, .slice la ln lc])) := .mk (hn.move fun g h1 h2 => ⟨rfl, Nat.lt_of_lt_of_le HT0.out.lt h1⟩)
      have HS1 := Lib.hid hs1
      have HB1 : Hid (But P w W1) := HB0.out.trans hb1
      have HT1 := Lib.hid (HT0.out.but hb1 HL.out.p)
      clear HB0 HT0 HS0 hn hs1 hb1 HM
      obtain ⟨hj, q0⟩ := hq
      have HX2 := Lib.hid (NkAt.new W1 (.int .i64 op) (.string s) (.string t') (.int .i64 n) (.slice la ln lc))
      have HGX : Hid (T < W1.heap.size) := HT1.out.lt
      have hb2 : Below W1.heap.size W1 (W1.alloc (.cells #[.int .i64 op, .string s, .string t', .int .i64 n, .slice la ln lc] 28)) := (Below.refl _ _).alloc (Nat.le_refl _) _
      have HS2 : Hid (PsAt κ ts P j (W1.alloc (.cells #[.int .i64 op, .string s, .string t', .int .i64 n, .slice la ln lc] 28))) := HS1.out.later hb2
      have HB2 : Hid (But P w (W1.alloc (.cells #[.int .i64 op, .string s, .string t', .int .i64 n, .slice la ln lc] 28))) := HB1.out.trans (But.of hb2)
      have HT2 := Lib.hid (HT1.out.below hb2)
      have HN_2 := Lib.hid (HN_1.out.move (S' := fun g => T < g) (w' := (W1.alloc (.cells #[.int .i64 op, .string s, .string t', .int .i64 n, .slice la ln lc] 28))) fun g h1 h2 => ⟨hb2.block g h2, h1⟩)
      clear HS1 HB1 HT1 HN_1 hb2
      go_wp2_with fail
      generalize W1.alloc _ = W2 at *
      generalize W1.heap.size = X at *
      go_loopw [16] (fun _ wr => wr = W2) (fun _ _ => 0)
      case atStart => rfl
      case round =>
        subst hrel
        go_wp2_with fail
        refine (token_x κ ts P j _ HS2.out (by omega)).mono ?_
        rintro e1 W3 ⟨rfl, hb3⟩
        have HS3 : Hid (PsAt κ ts P j W3) := HS2.out.later hb3
        have HB3 : Hid (But P w W3) := HB2.out.trans (But.of hb3)
        have HT3 := Lib.hid (HT2.out.below hb3)
        have HX3 := Lib.hid (HX2.out.below hb3)
        have HN_3 := Lib.hid (HN_2.out.move (S' := fun g => T < g) (w' := W3) fun g h1 h2 => ⟨hb3.block g h2, h1⟩)
        clear HS2 HB2 HT2 HX2 HN_2 hb3
        have HY4 := Lib.hid (TkAt.new W3 (.int .i64 (tAt ts j).k) (.int .i64 (tAt ts j).a) (.string (tAt ts j).x) (.string ⟨#[]⟩) (.string ⟨#[]⟩) (.int .i64 (tAt ts j).o))
        have HGY : Hid (T < W3.heap.size) := HT3.out.lt
        have hb4 : Below W3.heap.size W3 (W3.alloc (.cells #[.int .i64 (tAt ts j).k, .int .i64 (tAt ts j).a, .string (tAt ts j).x, .string ⟨#[]⟩, .string ⟨#[]⟩, .int .i64 (tAt ts j).o] 101)) := (Below.refl _ _).alloc (Nat.le_refl _) _
        have HS4 : Hid (PsAt κ ts P j (W3.alloc (.cells #[.int .i64 (tAt ts j).k, .int .i64 (tAt ts j).a, .string (tAt ts j).x, .string ⟨#[]⟩, .string ⟨#[]⟩, .int .i64 (tAt ts j).o] 101))) := HS3.out.later hb4
        have HB4 : Hid (But P w (W3.alloc (.cells #[.int .i64 (tAt ts j).k, .int .i64 (tAt ts j).a, .string (tAt ts j).x, .string ⟨#[]⟩, .string ⟨#[]⟩, .int .i64 (tAt ts j).o] 101))) := HB3.out.trans (But.of hb4)
        have HT4 := Lib.hid (HT3.out.below hb4)
        have HX4 := Lib.hid (HX3.out.below hb4)
        have HN_4 := Lib.hid (HN_3.out.move (S' := fun g => T < g) (w' := (W3.alloc (.cells #[.int .i64 (tAt ts j).k, .int .i64 (tAt ts j).a, .string (tAt ts j).x, .string ⟨#[]⟩, .string ⟨#[]⟩, .int .i64 (tAt ts j).o] 101))) fun g h1 h2 => ⟨hb4.block g h2, h1⟩)
        clear HS3 HB3 HT3 HX3 HN_3 hb4
        go_wp2_with fail
        generalize W3.alloc _ = W4 at *
        generalize W3.heap.size = Y at *
        have hl5 : ∀ q, (Instr.lookup 72 (.map (some κ.m5)) (.string (tAt ts j).x) false).run Tryz.prog (W4.drewN q) = .ok (.int .i64 0) (W4.drewN q) := fun q => (HS4.out.later (bl_drewN (Below.refl _ _) q)).look 5 (by decide) _ q0
        have hl0 := hl5 0
        obtain ⟨m0, m1, m2, m3, m4, m5, m6, m7⟩ := HS4.out.lev
        obtain ⟨y0, y1, y2, y3, y4, y5⟩ := HY4.out.cells
        go_quiet (fail)
        have hb6 : Below W4.heap.size W4 (W4.drewN nq) := bl_drewN (Below.refl _ _) nq
        have HS6 : Hid (PsAt κ ts P j (W4.drewN nq)) := HS4.out.later hb6
        have HB6 : Hid (But P w (W4.drewN nq)) := HB4.out.trans (But.of hb6)
        have HT6 := Lib.hid (HT4.out.below hb6)
        have HX6 := Lib.hid (HX4.out.below hb6)
        have HY6 := Lib.hid (HY4.out.later (hb6.block _ HY4.out.lt))
        have HN_6 := Lib.hid (HN_4.out.move (S' := fun g => T < g) (w' := (W4.drewN nq)) fun g h1 h2 => ⟨hb6.block g h2, h1⟩)
        clear HS4 HB4 HT4 HX4 HY4 HN_4 hb6 hl5 hl0 m0 m1 m2 m3 m4 m5 m6 m7 y0 y1 y2 y3 y4 y5
        generalize W4.drewN nq = W6 at *
        obtain ⟨x0, x1, x2, x3, x4⟩ := HX6.out.cells
        obtain ⟨u0, u1, u2, u3, u4⟩ := HT6.out.cells
        have z0 := HT6.out.frozen 0
        have z1 := HT6.out.frozen 1
        have z2 := HT6.out.frozen 2
        have z3 := HT6.out.frozen 3
        have z4 := HT6.out.frozen 4
        go_wp2
        have HR := HT6.out.put (.int .i64 op) (.string s) (.string t') (.int .i64 n) (.slice la ln lc)
        obtain ⟨r0, r1, r2, r3, r4⟩ := HR.cells
        change bodyPost _ _ _ _ _ (ndW W6 T (.int .i64 op) (.string s) (.string t') (.int .i64 n) (.slice la ln lc))
        refine bodyPost_ret (v := .agg #[.int .i64 op, .string s, .string t', .int .i64 n, .slice la ln lc]) ?_ rfl (fn_ret HTT.out HL.out HS6.out HB6.out HN_6.out (fun g h => h))
        generalize ndW W6 T (.int .i64 op) (.string s) (.string t') (.int .i64 n) (.slice la ln lc) = WZ at *
        simp [results, Tryz.results186, go_sem, r0, r1, r2, r3, r4]
set_option maxRecDepth 100000 in
set_option maxHeartbeats 8000000 in
theorem level4_any (κ : Pc) (ts : List Tt) (P k : Nat) (o : Oc) (hm : ∀ w, PsAt κ ts P k w → Calls Tryz.prog 186 #[.pointer (some ⟨P, 0, none⟩), .int .i64 5] w (OcP κ ts P o w)) (hq : o.at fun j => j ≤ 1000 ∧ findS (tAt ts j).x (lvM 4) = none) : ∀ w, PsAt κ ts P k w → Calls Tryz.prog 186 #[.pointer (some ⟨P, 0, none⟩), .int .i64 4] w (OcP κ ts P o w) := by
  intro w h
  have HL := Lib.hid h.all
  have HS0 : Hid (PsAt κ ts P k (w.alloc zN)) := h.later ((Below.refl _ _).alloc (Nat.le_refl _) _)
  have HB0 : Hid (But P w (w.alloc zN)) := But.alloc P w _
  have HT0 := Lib.hid (NkAt.zero w)
  unfold zN at HS0 HB0 HT0
  have HM := Lib.hid hm
  clear hm
  clear h
  go_enter Tryz.func186, Tryz.ntmps186
  go_wp2_with fail
  generalize w.alloc _ = W0 at *
  generalize hTT : w.heap.size = T at *
  have HTT : Hid (w.heap.size ≤ T) := Nat.le_of_eq hTT
  clear hTT
  refine (HM.out _ HS0.out).mono ?_
  intro e1 W1 h1
  cases o with
  | bad m =>
    obtain ⟨rfl, hb1⟩ := h1
    have HBZ : Hid (But P w W1) := HB0.out.trans hb1
    clear hb1
    go_wp2
    exact ⟨rfl, rfl, HBZ.out⟩
  | ok j t =>
    obtain ⟨v, rfl, hn, hs1, hb1⟩ := h1
    cases hn with
    | @mk op s t' n l L hn =>
      obtain ⟨la, ln, lc, rfl⟩ := hn.val
      have HN_1 : Hid (NdAt (fun g => T < g) W1 (.mk op s t' n l) (.agg #[.int .i64 op, .string s, .string t', .int .i64 n, .slice la ln lc])) := .mk (hn.move fun g h1 h2 => ⟨rfl, Nat.lt_of_lt_of_le HT0.out.lt h1⟩)
      have HS1 := Lib.hid hs1
      have HB1 : Hid (But P w W1) := HB0.out.trans hb1
      have HT1 := Lib.hid (HT0.out.but hb1 HL.out.p)
      clear HB0 HT0 HS0 hn hs1 hb1 HM
      obtain ⟨hj, q0⟩ := hq
      have HX2 := Lib.hid (NkAt.new W1 (.int .i64 op) (.string s) (.string t') (.int .i64 n) (.slice la ln lc))
      have HGX : Hid (T < W1.heap.size) := HT1.out.lt
      have hb2 : Below W1.heap.size W1 (W1.alloc (.cells #[.int .i64 op, .string s, .string t', .int .i64 n, .slice la ln lc] 28)) := (Below.refl _ _).alloc (Nat.le_refl _) _
      have HS2 : Hid (PsAt κ ts P j (W1.alloc (.cells #[.int .i64 op, .string s, .string t', .int .i64 n, .slice la ln lc] 28))) := HS1.out.later hb2
      have HB2 : Hid (But P w (W1.alloc (.cells #[.int .i64 op, .string s, .string t', .int .i64 n, .slice la ln lc] 28))) := HB1.out.trans (But.of hb2)
      have HT2 := Lib.hid (HT1.out.below hb2)
      have HN_2 := Lib.hid (HN_1.out.move (S' := fun g => T < g) (w' := (W1.alloc (.cells #[.int .i64 op, .string s, .string t', .int .i64 n, .slice la ln lc] 28))) fun g h1 h2 => ⟨hb2.block g h2, h1⟩)
      clear HS1 HB1 HT1 HN_1 hb2
      go_wp2_with fail
      generalize W1.alloc _ = W2 at *
      generalize W1.heap.size = X at *
      go_loopw [16] (fun _ wr => wr = W2) (fun _ _ => 0)
      case atStart => rfl
      case round =>
        subst hrel
        go_wp2_with fail
        refine (token_x κ ts P j _ HS2.out (by omega)).mono ?_
        rintro e1 W3 ⟨rfl, hb3⟩
        have HS3 : Hid (PsAt κ ts P j W3) := HS2.out.later hb3
        have HB3 : Hid (But P w W3) := HB2.out.trans (But.of hb3)
        have HT3 := Lib.hid (HT2.out.below hb3)
        have HX3 := Lib.hid (HX2.out.below hb3)
        have HN_3 := Lib.hid (HN_2.out.move (S' := fun g => T < g) (w' := W3) fun g h1 h2 => ⟨hb3.block g h2, h1⟩)
        clear HS2 HB2 HT2 HX2 HN_2 hb3
        have HY4 := Lib.hid (TkAt.new W3 (.int .i64 (tAt ts j).k) (.int .i64 (tAt ts j).a) (.string (tAt ts j).x) (.string ⟨#[]⟩) (.string ⟨#[]⟩) (.int .i64 (tAt ts j).o))
        have HGY : Hid (T < W3.heap.size) := HT3.out.lt
        have hb4 : Below W3.heap.size W3 (W3.alloc (.cells #[.int .i64 (tAt ts j).k, .int .i64 (tAt ts j).a, .string (tAt ts j).x, .string ⟨#[]⟩, .string ⟨#[]⟩, .int .i64 (tAt ts j).o] 101)) := (Below.refl _ _).alloc (Nat.le_refl _) _
        have HS4 : Hid (PsAt κ ts P j (W3.alloc (.cells #[.int .i64 (tAt ts j).k, .int .i64 (tAt ts j).a, .string (tAt ts j).x, .string ⟨#[]⟩, .string ⟨#[]⟩, .int .i64 (tAt ts j).o] 101))) := HS3.out.later hb4
        have HB4 : Hid (But P w (W3.alloc (.cells #[.int .i64 (tAt ts j).k, .int .i64 (tAt ts j).a, .string (tAt ts j).x, .string ⟨#[]⟩, .string ⟨#[]⟩, .int .i64 (tAt ts j).o] 101))) := HB3.out.trans (But.of hb4)
        have HT4 := Lib.hid (HT3.out.below hb4)
        have HX4 := Lib.hid (HX3.out.below hb4)
        have HN_4 := Lib.hid (HN_3.out.move (S' := fun g => T < g) (w' := (W3.alloc (.cells #[.int .i64 (tAt ts j).k, .int .i64 (tAt ts j).a, .string (tAt ts j).x, .string ⟨#[]⟩, .string ⟨#[]⟩, .int .i64 (tAt ts j).o] 101))) fun g h1 h2 => ⟨hb4.block g h2, h1⟩)
        clear HS3 HB3 HT3 HX3 HN_3 hb4
        go_wp2_with fail
        generalize W3.alloc _ = W4 at *
        generalize W3.heap.size = Y at *
        have hl5 : ∀ q, (Instr.lookup 72 (.map (some κ.m4)) (.string (tAt ts j).x) false).run Tryz.prog (W4.drewN q) = .ok (.int .i64 0) (W4.drewN q) := fun q => (HS4.out.later (bl_drewN (Below.refl _ _) q)).look 4 (by decide) _ q0
        have hl0 := hl5 0
        obtain ⟨m0, m1, m2, m3, m4, m5, m6, m7⟩ := HS4.out.lev
        obtain ⟨y0, y1, y2, y3, y4, y5⟩ := HY4.out.cells
        go_quiet (fail)
        have hb6 : Below W4.heap.size W4 (W4.drewN nq) := bl_drewN (Below.refl _ _) nq
        have HS6 : Hid (PsAt κ ts P j (W4.drewN nq)) := HS4.out.later hb6
        have HB6 : Hid (But P w (W4.drewN nq)) := HB4.out.trans (But.of hb6)
        have HT6 := Lib.hid (HT4.out.below hb6)
        have HX6 := Lib.hid (HX4.out.below hb6)
        have HY6 := Lib.hid (HY4.out.later (hb6.block _ HY4.out.lt))
        have HN_6 := Lib.hid (HN_4.out.move (S' := fun g => T < g) (w' := (W4.drewN nq)) fun g h1 h2 => ⟨hb6.block g h2, h1⟩)
        clear HS4 HB4 HT4 HX4 HY4 HN_4 hb6 hl5 hl0 m0 m1 m2 m3 m4 m5 m6 m7 y0 y1 y2 y3 y4 y5
        generalize W4.drewN nq = W6 at *
        obtain ⟨x0, x1, x2, x3, x4⟩ := HX6.out.cells
        obtain ⟨u0, u1, u2, u3, u4⟩ := HT6.out.cells
        have z0 := HT6.out.frozen 0
        have z1 := HT6.out.frozen 1
        have z2 := HT6.out.frozen 2
        have z3 := HT6.out.frozen 3
        have z4 := HT6.out.frozen 4
        go_wp2
        have HR := HT6.out.put (.int .i64 op) (.string s) (.string t') (.int .i64 n) (.slice la ln lc)
        obtain ⟨r0, r1, r2, r3, r4⟩ := HR.cells
        change bodyPost _ _ _ _ _ (ndW W6 T (.int .i64 op) (.string s) (.string t') (.int .i64 n) (.slice la ln lc))
        refine bodyPost_ret (v := .agg #[.int .i64 op, .string s, .string t', .int .i64 n, .slice la ln lc]) ?_ rfl (fn_ret HTT.out HL.out HS6.out HB6.out HN_6.out (fun g h => h))
        generalize ndW W6 T (.int .i64 op) (.string s) (.string t') (.int .i64 n) (.slice la ln lc) = WZ at *
        simp [results, Tryz.results186, go_sem, r0, r1, r2, r3, r4]

end Go.Proofs.YtaocbhfehncdcaaGreatDoor

namespace Go.Proofs.YtaocbhfehncdcaaGreatDoor
open Go.RowKit

set_option maxRecDepth 100000 in
set_option maxHeartbeats 8000000 in
theorem level3_any (κ : Pc) (ts : List Tt) (P k : Nat) (o : Oc) (hm : ∀ w, PsAt κ ts P k w → Calls Tryz.prog 186 #[.pointer (some ⟨P, 0, none⟩), .int .i64 4] w (OcP κ ts P o w)) (hq : o.at fun j => j ≤ 1000 ∧ findS (tAt ts j).x (lvM 3) = none) : ∀ w, PsAt κ ts P k w → Calls Tryz.prog 186 #[.pointer (some ⟨P, 0, none⟩), .int .i64 3] w (OcP κ ts P o w) := by
  intro w h
  have HL := Lib.hid h.all
  have HS0 : Hid (PsAt κ ts P k (w.alloc zN)) := h.later ((Below.refl _ _).alloc (Nat.le_refl _) _)
  have HB0 : Hid (But P w (w.alloc zN)) := But.alloc P w _
  have HT0 := Lib.hid (NkAt.zero w)
  unfold zN at HS0 HB0 HT0
  have HM := Lib.hid hm
  clear hm
  clear h
  go_enter Tryz.func186, Tryz.ntmps186
  go_wp2_with fail
  generalize w.alloc _ = W0 at *
  generalize hTT : w.heap.size = T at *
  have HTT : Hid (w.heap.size ≤ T) := Nat.le_of_eq hTT
  clear hTT
  refine (HM.out _ HS0.out).mono ?_
  intro e1 W1 h1
  cases o with
  | bad m =>
    obtain ⟨rfl, hb1⟩ := h1
    have HBZ : Hid (But P w W1) := HB0.out.trans hb1
    clear hb1
    go_wp2
    exact ⟨rfl, rfl, HBZ.out⟩
  | ok j t =>
    obtain ⟨v, rfl, hn, hs1, hb1⟩ := h1
    cases hn with
    | @mk op s t' n l L hn =>
      obtain ⟨la, ln, lc, rfl⟩ := hn.val
      have HN_1 : Hid (NdAt (fun g => T < g) W1 (.mk op s t' n l) (.agg #[.int .i64 op, .string s, .string t', .int .i64 n, .slice la ln lc])) := .mk (hn.move fun g h1 h2 => ⟨rfl, Nat.lt_of_lt_of_le HT0.out.lt h1⟩)
      have HS1 := Lib.hid hs1
      have HB1 : Hid (But P w W1) := HB0.out.trans hb1
      have HT1 := Lib.hid (HT0.out.but hb1 HL.out.p)
      clear HB0 HT0 HS0 hn hs1 hb1 HM
      obtain ⟨hj, q0⟩ := hq
      have HX2 := Lib.hid (NkAt.new W1 (.int .i64 op) (.string s) (.string t') (.int .i64 n) (.slice la ln lc))
      have HGX : Hid (T < W1.heap.size) := HT1.out.lt
      have hb2 : Below W1.heap.size W1 (W1.alloc (.cells #[.int .i64 op, .string s, .string t', .int .i64 n, .slice la ln lc] 28)) := (Below.refl _ _).alloc (Nat.le_refl _) _
      have HS2 : Hid (PsAt κ ts P j (W1.alloc (.cells #[.int .i64 op, .string s, .string t', .int .i64 n, .slice la ln lc] 28))) := HS1.out.later hb2
      have HB2 : Hid (But P w (W1.alloc (.cells #[.int .i64 op, .string s, .string t', .int .i64 n, .slice la ln lc] 28))) := HB1.out.trans (But.of hb2)
      have HT2 := Lib.hid (HT1.out.below hb2)
      have HN_2 := Lib.hid (HN_1.out.move (S' := fun g => T < g) (w' := (W1.alloc (.cells #[.int .i64 op, .string s, .string t', .int .i64 n, .slice la ln lc] 28))) fun g h1 h2 => ⟨hb2.block g h2, h1⟩)
      clear HS1 HB1 HT1 HN_1 hb2
      go_wp2_with fail
      generalize W1.alloc _ = W2 at *
      generalize W1.heap.size = X at *
      go_loopw [16] (fun _ wr => wr = W2) (fun _ _ => 0)
      case atStart => rfl
      case round =>
        subst hrel
        go_wp2_with fail
        refine (token_x κ ts P j _ HS2.out (by omega)).mono ?_
        rintro e1 W3 ⟨rfl, hb3⟩
        have HS3 : Hid (PsAt κ ts P j W3) := HS2.out.later hb3
        have HB3 : Hid (But P w W3) := HB2.out.trans (But.of hb3)
        have HT3 := Lib.hid (HT2.out.below hb3)
        have HX3 := Lib.hid (HX2.out.below hb3)
        have HN_3 := Lib.hid (HN_2.out.move (S' := fun g => T < g) (w' := W3) fun g h1 h2 => ⟨hb3.block g h2, h1⟩)
        clear HS2 HB2 HT2 HX2 HN_2 hb3
        have HY4 := Lib.hid (TkAt.new W3 (.int .i64 (tAt ts j).k) (.int .i64 (tAt ts j).a) (.string (tAt ts j).x) (.string ⟨#[]⟩) (.string ⟨#[]⟩) (.int .i64 (tAt ts j).o))
        have HGY : Hid (T < W3.heap.size) := HT3.out.lt
        have hb4 : Below W3.heap.size W3 (W3.alloc (.cells #[.int .i64 (tAt ts j).k, .int .i64 (tAt ts j).a, .string (tAt ts j).x, .string ⟨#[]⟩, .string ⟨#[]⟩, .int .i64 (tAt ts j).o] 101)) := (Below.refl _ _).alloc (Nat.le_refl _) _
        have HS4 : Hid (PsAt κ ts P j (W3.alloc (.cells #[.int .i64 (tAt ts j).k, .int .i64 (tAt ts j).a, .string (tAt ts j).x, .string ⟨#[]⟩, .string ⟨#[]⟩, .int .i64 (tAt ts j).o] 101))) := HS3.out.later hb4
        have HB4 : Hid (But P w (W3.alloc (.cells #[.int .i64 (tAt ts j).k, .int .i64 (tAt ts j).a, .string (tAt ts j).x, .string ⟨#[]⟩, .string ⟨#[]⟩, .int .i64 (tAt ts j).o] 101))) := HB3.out.trans (But.of hb4)
        have HT4 := Lib.hid (HT3.out.below hb4)
        have HX4 := Lib.hid (HX3.out.below hb4)
        have HN_4 := Lib.hid (HN_3.out.move (S' := fun g => T < g) (w' := (W3.alloc (.cells #[.int .i64 (tAt ts j).k, .int .i64 (tAt ts j).a, .string (tAt ts j).x, .string ⟨#[]⟩, .string ⟨#[]⟩, .int .i64 (tAt ts j).o] 101))) fun g h1 h2 => ⟨hb4.block g h2, h1⟩)
        clear HS3 HB3 HT3 HX3 HN_3 hb4
        go_wp2_with fail
        generalize W3.alloc _ = W4 at *
        generalize W3.heap.size = Y at *
        have hl5 : ∀ q, (Instr.lookup 72 (.map (some κ.m3)) (.string (tAt ts j).x) false).run Tryz.prog (W4.drewN q) = .ok (.int .i64 0) (W4.drewN q) := fun q => (HS4.out.later (bl_drewN (Below.refl _ _) q)).look 3 (by decide) _ q0
        have hl0 := hl5 0
        obtain ⟨m0, m1, m2, m3, m4, m5, m6, m7⟩ := HS4.out.lev
        obtain ⟨y0, y1, y2, y3, y4, y5⟩ := HY4.out.cells
        go_quiet (fail)
        have hb6 : Below W4.heap.size W4 (W4.drewN nq) := bl_drewN (Below.refl _ _) nq
        have HS6 : Hid (PsAt κ ts P j (W4.drewN nq)) := HS4.out.later hb6
        have HB6 : Hid (But P w (W4.drewN nq)) := HB4.out.trans (But.of hb6)
        have HT6 := Lib.hid (HT4.out.below hb6)
        have HX6 := Lib.hid (HX4.out.below hb6)
        have HY6 := Lib.hid (HY4.out.later (hb6.block _ HY4.out.lt))
        have HN_6 := Lib.hid (HN_4.out.move (S' := fun g => T < g) (w' := (W4.drewN nq)) fun g h1 h2 => ⟨hb6.block g h2, h1⟩)
        clear HS4 HB4 HT4 HX4 HY4 HN_4 hb6 hl5 hl0 m0 m1 m2 m3 m4 m5 m6 m7 y0 y1 y2 y3 y4 y5
        generalize W4.drewN nq = W6 at *
        obtain ⟨x0, x1, x2, x3, x4⟩ := HX6.out.cells
        obtain ⟨u0, u1, u2, u3, u4⟩ := HT6.out.cells
        have z0 := HT6.out.frozen 0
        have z1 := HT6.out.frozen 1
        have z2 := HT6.out.frozen 2
        have z3 := HT6.out.frozen 3
        have z4 := HT6.out.frozen 4
        go_wp2
        have HR := HT6.out.put (.int .i64 op) (.string s) (.string t') (.int .i64 n) (.slice la ln lc)
        obtain ⟨r0, r1, r2, r3, r4⟩ := HR.cells
        change bodyPost _ _ _ _ _ (ndW W6 T (.int .i64 op) (.string s) (.string t') (.int .i64 n) (.slice la ln lc))
        refine bodyPost_ret (v := .agg #[.int .i64 op, .string s, .string t', .int .i64 n, .slice la ln lc]) ?_ rfl (fn_ret HTT.out HL.out HS6.out HB6.out HN_6.out (fun g h => h))
        generalize ndW W6 T (.int .i64 op) (.string s) (.string t') (.int .i64 n) (.slice la ln lc) = WZ at *
        simp [results, Tryz.results186, go_sem, r0, r1, r2, r3, r4]
set_option maxRecDepth 100000 in
set_option maxHeartbeats 8000000 in
theorem level2_any (κ : Pc) (ts : List Tt) (P k : Nat) (o : Oc) (hm : ∀ w, PsAt κ ts P k w → Calls Tryz.prog 186 #[.pointer (some ⟨P, 0, none⟩), .int .i64 3] w (OcP κ ts P o w)) (hq : o.at fun j => j ≤ 1000 ∧ findS (tAt ts j).x (lvM 2) = none) : ∀ w, PsAt κ ts P k w → Calls Tryz.prog 186 #[.pointer (some ⟨P, 0, none⟩), .int .i64 2] w (OcP κ ts P o w) := by
  intro w h
  have HL := Lib.hid h.all
  have HS0 : Hid (PsAt κ ts P k (w.alloc zN)) := h.later ((Below.refl _ _).alloc (Nat.le_refl _) _)
  have HB0 : Hid (But P w (w.alloc zN)) := But.alloc P w _
  have HT0 := Lib.hid (NkAt.zero w)
  unfold zN at HS0 HB0 HT0
  have HM := Lib.hid hm
  clear hm
  clear h
  go_enter Tryz.func186, Tryz.ntmps186
  go_wp2_with fail
  generalize w.alloc _ = W0 at *
  generalize hTT : w.heap.size = T at *
  have HTT : Hid (w.heap.size ≤ T) := Nat.le_of_eq hTT
  clear hTT
  refine (HM.out _ HS0.out).mono ?_
  intro e1 W1 h1
  cases o with
  | bad m =>
    obtain ⟨rfl, hb1⟩ := h1
    have HBZ : Hid (But P w W1) := HB0.out.trans hb1
    clear hb1
    go_wp2
    exact ⟨rfl, rfl, HBZ.out⟩
  | ok j t =>
    obtain ⟨v, rfl, hn, hs1, hb1⟩ := h1
    cases hn with
    | @mk op s t' n l L hn =>
      obtain ⟨la, ln, lc, rfl⟩ := hn.val
      have HN_1 : Hid (NdAt (fun g => T < g) W1 (.mk op s t' n l) (.agg #[.int .i64 op, .string s, .string t', .int .i64 n, .slice la ln lc])) := .mk (hn.move fun g h1 h2 => ⟨rfl, Nat.lt_of_lt_of_le HT0.out.lt h1⟩)
      have HS1 := Lib.hid hs1
      have HB1 : Hid (But P w W1) := HB0.out.trans hb1
      have HT1 := Lib.hid (HT0.out.but hb1 HL.out.p)
      clear HB0 HT0 HS0 hn hs1 hb1 HM
      obtain ⟨hj, q0⟩ := hq
      have HX2 := Lib.hid (NkAt.new W1 (.int .i64 op) (.string s) (.string t') (.int .i64 n) (.slice la ln lc))
      have HGX : Hid (T < W1.heap.size) := HT1.out.lt
      have hb2 : Below W1.heap.size W1 (W1.alloc (.cells #[.int .i64 op, .string s, .string t', .int .i64 n, .slice la ln lc] 28)) := (Below.refl _ _).alloc (Nat.le_refl _) _
      have HS2 : Hid (PsAt κ ts P j (W1.alloc (.cells #[.int .i64 op, .string s, .string t', .int .i64 n, .slice la ln lc] 28))) := HS1.out.later hb2
      have HB2 : Hid (But P w (W1.alloc (.cells #[.int .i64 op, .string s, .string t', .int .i64 n, .slice la ln lc] 28))) := HB1.out.trans (But.of hb2)
      have HT2 := Lib.hid (HT1.out.below hb2)
      have HN_2 := Lib.hid (HN_1.out.move (S' := fun g => T < g) (w' := (W1.alloc (.cells #[.int .i64 op, .string s, .string t', .int .i64 n, .slice la ln lc] 28))) fun g h1 h2 => ⟨hb2.block g h2, h1⟩)
      clear HS1 HB1 HT1 HN_1 hb2
      go_wp2_with fail
      generalize W1.alloc _ = W2 at *
      generalize W1.heap.size = X at *
      go_loopw [16] (fun _ wr => wr = W2) (fun _ _ => 0)
      case atStart => rfl
      case round =>
        subst hrel
        go_wp2_with fail
        refine (token_x κ ts P j _ HS2.out (by omega)).mono ?_
        rintro e1 W3 ⟨rfl, hb3⟩
        have HS3 : Hid (PsAt κ ts P j W3) := HS2.out.later hb3
        have HB3 : Hid (But P w W3) := HB2.out.trans (But.of hb3)
        have HT3 := Lib.hid (HT2.out.below hb3)
        have HX3 := Lib.hid (HX2.out.below hb3)
        have HN_3 := Lib.hid (HN_2.out.move (S' := fun g => T < g) (w' := W3) fun g h1 h2 => ⟨hb3.block g h2, h1⟩)
        clear HS2 HB2 HT2 HX2 HN_2 hb3
        have HY4 := Lib.hid (TkAt.new W3 (.int .i64 (tAt ts j).k) (.int .i64 (tAt ts j).a) (.string (tAt ts j).x) (.string ⟨#[]⟩) (.string ⟨#[]⟩) (.int .i64 (tAt ts j).o))
        have HGY : Hid (T < W3.heap.size) := HT3.out.lt
        have hb4 : Below W3.heap.size W3 (W3.alloc (.cells #[.int .i64 (tAt ts j).k, .int .i64 (tAt ts j).a, .string (tAt ts j).x, .string ⟨#[]⟩, .string ⟨#[]⟩, .int .i64 (tAt ts j).o] 101)) := (Below.refl _ _).alloc (Nat.le_refl _) _
        have HS4 : Hid (PsAt κ ts P j (W3.alloc (.cells #[.int .i64 (tAt ts j).k, .int .i64 (tAt ts j).a, .string (tAt ts j).x, .string ⟨#[]⟩, .string ⟨#[]⟩, .int .i64 (tAt ts j).o] 101))) := HS3.out.later hb4
        have HB4 : Hid (But P w (W3.alloc (.cells #[.int .i64 (tAt ts j).k, .int .i64 (tAt ts j).a, .string (tAt ts j).x, .string ⟨#[]⟩, .string ⟨#[]⟩, .int .i64 (tAt ts j).o] 101))) := HB3.out.trans (But.of hb4)
        have HT4 := Lib.hid (HT3.out.below hb4)
        have HX4 := Lib.hid (HX3.out.below hb4)
        have HN_4 := Lib.hid (HN_3.out.move (S' := fun g => T < g) (w' := (W3.alloc (.cells #[.int .i64 (tAt ts j).k, .int .i64 (tAt ts j).a, .string (tAt ts j).x, .string ⟨#[]⟩, .string ⟨#[]⟩, .int .i64 (tAt ts j).o] 101))) fun g h1 h2 => ⟨hb4.block g h2, h1⟩)
        clear HS3 HB3 HT3 HX3 HN_3 hb4
        go_wp2_with fail
        generalize W3.alloc _ = W4 at *
        generalize W3.heap.size = Y at *
        have hl5 : ∀ q, (Instr.lookup 72 (.map (some κ.m2)) (.string (tAt ts j).x) false).run Tryz.prog (W4.drewN q) = .ok (.int .i64 0) (W4.drewN q) := fun q => (HS4.out.later (bl_drewN (Below.refl _ _) q)).look 2 (by decide) _ q0
        have hl0 := hl5 0
        obtain ⟨m0, m1, m2, m3, m4, m5, m6, m7⟩ := HS4.out.lev
        obtain ⟨y0, y1, y2, y3, y4, y5⟩ := HY4.out.cells
        go_quiet (fail)
        have hb6 : Below W4.heap.size W4 (W4.drewN nq) := bl_drewN (Below.refl _ _) nq
        have HS6 : Hid (PsAt κ ts P j (W4.drewN nq)) := HS4.out.later hb6
        have HB6 : Hid (But P w (W4.drewN nq)) := HB4.out.trans (But.of hb6)
        have HT6 := Lib.hid (HT4.out.below hb6)
        have HX6 := Lib.hid (HX4.out.below hb6)
        have HY6 := Lib.hid (HY4.out.later (hb6.block _ HY4.out.lt))
        have HN_6 := Lib.hid (HN_4.out.move (S' := fun g => T < g) (w' := (W4.drewN nq)) fun g h1 h2 => ⟨hb6.block g h2, h1⟩)
        clear HS4 HB4 HT4 HX4 HY4 HN_4 hb6 hl5 hl0 m0 m1 m2 m3 m4 m5 m6 m7 y0 y1 y2 y3 y4 y5
        generalize W4.drewN nq = W6 at *
        obtain ⟨x0, x1, x2, x3, x4⟩ := HX6.out.cells
        obtain ⟨u0, u1, u2, u3, u4⟩ := HT6.out.cells
        have z0 := HT6.out.frozen 0
        have z1 := HT6.out.frozen 1
        have z2 := HT6.out.frozen 2
        have z3 := HT6.out.frozen 3
        have z4 := HT6.out.frozen 4
        go_wp2
        have HR := HT6.out.put (.int .i64 op) (.string s) (.string t') (.int .i64 n) (.slice la ln lc)
        obtain ⟨r0, r1, r2, r3, r4⟩ := HR.cells
        change bodyPost _ _ _ _ _ (ndW W6 T (.int .i64 op) (.string s) (.string t') (.int .i64 n) (.slice la ln lc))
        refine bodyPost_ret (v := .agg #[.int .i64 op, .string s, .string t', .int .i64 n, .slice la ln lc]) ?_ rfl (fn_ret HTT.out HL.out HS6.out HB6.out HN_6.out (fun g h => h))
        generalize ndW W6 T (.int .i64 op) (.string s) (.string t') (.int .i64 n) (.slice la ln lc) = WZ at *
        simp [results, Tryz.results186, go_sem, r0, r1, r2, r3, r4]
set_option maxRecDepth 100000 in
set_option maxHeartbeats 8000000 in
theorem level1_any (κ : Pc) (ts : List Tt) (P k : Nat) (o : Oc) (hm : ∀ w, PsAt κ ts P k w → Calls Tryz.prog 186 #[.pointer (some ⟨P, 0, none⟩), .int .i64 2] w (OcP κ ts P o w)) (hq : o.at fun j => j ≤ 1000 ∧ findS (tAt ts j).x (lvM 1) = none) : ∀ w, PsAt κ ts P k w → Calls Tryz.prog 186 #[.pointer (some ⟨P, 0, none⟩), .int .i64 1] w (OcP κ ts P o w) := by
  intro w h
  have HL := Lib.hid h.all
  have HS0 : Hid (PsAt κ ts P k (w.alloc zN)) := h.later ((Below.refl _ _).alloc (Nat.le_refl _) _)
  have HB0 : Hid (But P w (w.alloc zN)) := But.alloc P w _
  have HT0 := Lib.hid (NkAt.zero w)
  unfold zN at HS0 HB0 HT0
  have HM := Lib.hid hm
  clear hm
  clear h
  go_enter Tryz.func186, Tryz.ntmps186
  go_wp2_with fail
  generalize w.alloc _ = W0 at *
  generalize hTT : w.heap.size = T at *
  have HTT : Hid (w.heap.size ≤ T) := Nat.le_of_eq hTT
  clear hTT
  refine (HM.out _ HS0.out).mono ?_
  intro e1 W1 h1
  cases o with
  | bad m =>
    obtain ⟨rfl, hb1⟩ := h1
    have HBZ : Hid (But P w W1) := HB0.out.trans hb1
    clear hb1
    go_wp2
    exact ⟨rfl, rfl, HBZ.out⟩
  | ok j t =>
    obtain ⟨v, rfl, hn, hs1, hb1⟩ := h1
    cases hn with
    | @mk op s t' n l L hn =>
      obtain ⟨la, ln, lc, rfl⟩ := hn.val
      have HN_1 : Hid (NdAt (fun g => T < g) W1 (.mk op s t' n l) (.agg #[.int .i64 op, .string s, .string t', .int .i64 n, .slice la ln lc])) := .mk (hn.move fun g h1 h2 => ⟨rfl, Nat.lt_of_lt_of_le HT0.out.lt h1⟩)
      have HS1 := Lib.hid hs1
      have HB1 : Hid (But P w W1) := HB0.out.trans hb1
      have HT1 := Lib.hid (HT0.out.but hb1 HL.out.p)
      clear HB0 HT0 HS0 hn hs1 hb1 HM
      obtain ⟨hj, q0⟩ := hq
      have HX2 := Lib.hid (NkAt.new W1 (.int .i64 op) (.string s) (.string t') (.int .i64 n) (.slice la ln lc))
      have HGX : Hid (T < W1.heap.size) := HT1.out.lt
      have hb2 : Below W1.heap.size W1 (W1.alloc (.cells #[.int .i64 op, .string s, .string t', .int .i64 n, .slice la ln lc] 28)) := (Below.refl _ _).alloc (Nat.le_refl _) _
      have HS2 : Hid (PsAt κ ts P j (W1.alloc (.cells #[.int .i64 op, .string s, .string t', .int .i64 n, .slice la ln lc] 28))) := HS1.out.later hb2
      have HB2 : Hid (But P w (W1.alloc (.cells #[.int .i64 op, .string s, .string t', .int .i64 n, .slice la ln lc] 28))) := HB1.out.trans (But.of hb2)
      have HT2 := Lib.hid (HT1.out.below hb2)
      have HN_2 := Lib.hid (HN_1.out.move (S' := fun g => T < g) (w' := (W1.alloc (.cells #[.int .i64 op, .string s, .string t', .int .i64 n, .slice la ln lc] 28))) fun g h1 h2 => ⟨hb2.block g h2, h1⟩)
      clear HS1 HB1 HT1 HN_1 hb2
      go_wp2_with fail
      generalize W1.alloc _ = W2 at *
      generalize W1.heap.size = X at *
      go_loopw [16] (fun _ wr => wr = W2) (fun _ _ => 0)
      case atStart => rfl
      case round =>
        subst hrel
        go_wp2_with fail
        refine (token_x κ ts P j _ HS2.out (by omega)).mono ?_
        rintro e1 W3 ⟨rfl, hb3⟩
        have HS3 : Hid (PsAt κ ts P j W3) := HS2.out.later hb3
        have HB3 : Hid (But P w W3) := HB2.out.trans (But.of hb3)
        have HT3 := Lib.hid (HT2.out.below hb3)
        have HX3 := Lib.hid (HX2.out.below hb3)
        have HN_3 := Lib.hid (HN_2.out.move (S' := fun g => T < g) (w' := W3) fun g h1 h2 => ⟨hb3.block g h2, h1⟩)
        clear HS2 HB2 HT2 HX2 HN_2 hb3
        have HY4 := Lib.hid (TkAt.new W3 (.int .i64 (tAt ts j).k) (.int .i64 (tAt ts j).a) (.string (tAt ts j).x) (.string ⟨#[]⟩) (.string ⟨#[]⟩) (.int .i64 (tAt ts j).o))
        have HGY : Hid (T < W3.heap.size) := HT3.out.lt
        have hb4 : Below W3.heap.size W3 (W3.alloc (.cells #[.int .i64 (tAt ts j).k, .int .i64 (tAt ts j).a, .string (tAt ts j).x, .string ⟨#[]⟩, .string ⟨#[]⟩, .int .i64 (tAt ts j).o] 101)) := (Below.refl _ _).alloc (Nat.le_refl _) _
        have HS4 : Hid (PsAt κ ts P j (W3.alloc (.cells #[.int .i64 (tAt ts j).k, .int .i64 (tAt ts j).a, .string (tAt ts j).x, .string ⟨#[]⟩, .string ⟨#[]⟩, .int .i64 (tAt ts j).o] 101))) := HS3.out.later hb4
        have HB4 : Hid (But P w (W3.alloc (.cells #[.int .i64 (tAt ts j).k, .int .i64 (tAt ts j).a, .string (tAt ts j).x, .string ⟨#[]⟩, .string ⟨#[]⟩, .int .i64 (tAt ts j).o] 101))) := HB3.out.trans (But.of hb4)
        have HT4 := Lib.hid (HT3.out.below hb4)
        have HX4 := Lib.hid (HX3.out.below hb4)
        have HN_4 := Lib.hid (HN_3.out.move (S' := fun g => T < g) (w' := (W3.alloc (.cells #[.int .i64 (tAt ts j).k, .int .i64 (tAt ts j).a, .string (tAt ts j).x, .string ⟨#[]⟩, .string ⟨#[]⟩, .int .i64 (tAt ts j).o] 101))) fun g h1 h2 => ⟨hb4.block g h2, h1⟩)
        clear HS3 HB3 HT3 HX3 HN_3 hb4
        go_wp2_with fail
        generalize W3.alloc _ = W4 at *
        generalize W3.heap.size = Y at *
        have hl5 : ∀ q, (Instr.lookup 72 (.map (some κ.m1)) (.string (tAt ts j).x) false).run Tryz.prog (W4.drewN q) = .ok (.int .i64 0) (W4.drewN q) := fun q => (HS4.out.later (bl_drewN (Below.refl _ _) q)).look 1 (by decide) _ q0
        have hl0 := hl5 0
        obtain ⟨m0, m1, m2, m3, m4, m5, m6, m7⟩ := HS4.out.lev
        obtain ⟨y0, y1, y2, y3, y4, y5⟩ := HY4.out.cells
        go_quiet (fail)
        have hb6 : Below W4.heap.size W4 (W4.drewN nq) := bl_drewN (Below.refl _ _) nq
        have HS6 : Hid (PsAt κ ts P j (W4.drewN nq)) := HS4.out.later hb6
        have HB6 : Hid (But P w (W4.drewN nq)) := HB4.out.trans (But.of hb6)
        have HT6 := Lib.hid (HT4.out.below hb6)
        have HX6 := Lib.hid (HX4.out.below hb6)
        have HY6 := Lib.hid (HY4.out.later (hb6.block _ HY4.out.lt))
        have HN_6 := Lib.hid (HN_4.out.move (S' := fun g => T < g) (w' := (W4.drewN nq)) fun g h1 h2 => ⟨hb6.block g h2, h1⟩)
        clear HS4 HB4 HT4 HX4 HY4 HN_4 hb6 hl5 hl0 m0 m1 m2 m3 m4 m5 m6 m7 y0 y1 y2 y3 y4 y5
        generalize W4.drewN nq = W6 at *
        obtain ⟨x0, x1, x2, x3, x4⟩ := HX6.out.cells
        obtain ⟨u0, u1, u2, u3, u4⟩ := HT6.out.cells
        have z0 := HT6.out.frozen 0
        have z1 := HT6.out.frozen 1
        have z2 := HT6.out.frozen 2
        have z3 := HT6.out.frozen 3
        have z4 := HT6.out.frozen 4
        go_wp2
        have HR := HT6.out.put (.int .i64 op) (.string s) (.string t') (.int .i64 n) (.slice la ln lc)
        obtain ⟨r0, r1, r2, r3, r4⟩ := HR.cells
        change bodyPost _ _ _ _ _ (ndW W6 T (.int .i64 op) (.string s) (.string t') (.int .i64 n) (.slice la ln lc))
        refine bodyPost_ret (v := .agg #[.int .i64 op, .string s, .string t', .int .i64 n, .slice la ln lc]) ?_ rfl (fn_ret HTT.out HL.out HS6.out HB6.out HN_6.out (fun g h => h))
        generalize ndW W6 T (.int .i64 op) (.string s) (.string t') (.int .i64 n) (.slice la ln lc) = WZ at *
        simp [results, Tryz.results186, go_sem, r0, r1, r2, r3, r4]
set_option maxRecDepth 100000 in
set_option maxHeartbeats 8000000 in
theorem level0_any (κ : Pc) (ts : List Tt) (P k : Nat) (o : Oc) (hm : ∀ w, PsAt κ ts P k w → Calls Tryz.prog 186 #[.pointer (some ⟨P, 0, none⟩), .int .i64 1] w (OcP κ ts P o w)) (hq : o.at fun j => j ≤ 1000 ∧ findS (tAt ts j).x (lvM 0) = none) : ∀ w, PsAt κ ts P k w → Calls Tryz.prog 186 #[.pointer (some ⟨P, 0, none⟩), .int .i64 0] w (OcP κ ts P o w) := by
  intro w h
  have HL := Lib.hid h.all
  have HS0 : Hid (PsAt κ ts P k (w.alloc zN)) := h.later ((Below.refl _ _).alloc (Nat.le_refl _) _)
  have HB0 : Hid (But P w (w.alloc zN)) := But.alloc P w _
  have HT0 := Lib.hid (NkAt.zero w)
  unfold zN at HS0 HB0 HT0
  have HM := Lib.hid hm
  clear hm
  clear h
  go_enter Tryz.func186, Tryz.ntmps186
  go_wp2_with fail
  generalize w.alloc _ = W0 at *
  generalize hTT : w.heap.size = T at *
  have HTT : Hid (w.heap.size ≤ T) := Nat.le_of_eq hTT
  clear hTT
  refine (HM.out _ HS0.out).mono ?_
  intro e1 W1 h1
  cases o with
  | bad m =>
    obtain ⟨rfl, hb1⟩ := h1
    have HBZ : Hid (But P w W1) := HB0.out.trans hb1
    clear hb1
    go_wp2
    exact ⟨rfl, rfl, HBZ.out⟩
  | ok j t =>
    obtain ⟨v, rfl, hn, hs1, hb1⟩ := h1
    cases hn with
    | @mk op s t' n l L hn =>
      obtain ⟨la, ln, lc, rfl⟩ := hn.val
      have HN_1 : Hid (NdAt (fun g => T < g) W1 (.mk op s t' n l) (.agg #[.int .i64 op, .string s, .string t', .int .i64 n, .slice la ln lc])) := .mk (hn.move fun g h1 h2 => ⟨rfl, Nat.lt_of_lt_of_le HT0.out.lt h1⟩)
      have HS1 := Lib.hid hs1
      have HB1 : Hid (But P w W1) := HB0.out.trans hb1
      have HT1 := Lib.hid (HT0.out.but hb1 HL.out.p)
      clear HB0 HT0 HS0 hn hs1 hb1 HM
      obtain ⟨hj, q0⟩ := hq
      have HX2 := Lib.hid (NkAt.new W1 (.int .i64 op) (.string s) (.string t') (.int .i64 n) (.slice la ln lc))
      have HGX : Hid (T < W1.heap.size) := HT1.out.lt
      have hb2 : Below W1.heap.size W1 (W1.alloc (.cells #[.int .i64 op, .string s, .string t', .int .i64 n, .slice la ln lc] 28)) := (Below.refl _ _).alloc (Nat.le_refl _) _
      have HS2 : Hid (PsAt κ ts P j (W1.alloc (.cells #[.int .i64 op, .string s, .string t', .int .i64 n, .slice la ln lc] 28))) := HS1.out.later hb2
      have HB2 : Hid (But P w (W1.alloc (.cells #[.int .i64 op, .string s, .string t', .int .i64 n, .slice la ln lc] 28))) := HB1.out.trans (But.of hb2)
      have HT2 := Lib.hid (HT1.out.below hb2)
      have HN_2 := Lib.hid (HN_1.out.move (S' := fun g => T < g) (w' := (W1.alloc (.cells #[.int .i64 op, .string s, .string t', .int .i64 n, .slice la ln lc] 28))) fun g h1 h2 => ⟨hb2.block g h2, h1⟩)
      clear HS1 HB1 HT1 HN_1 hb2
      go_wp2_with fail
      generalize W1.alloc _ = W2 at *
      generalize W1.heap.size = X at *
      go_loopw [16] (fun _ wr => wr = W2) (fun _ _ => 0)
      case atStart => rfl
      case round =>
        subst hrel
        go_wp2_with fail
        refine (token_x κ ts P j _ HS2.out (by omega)).mono ?_
        rintro e1 W3 ⟨rfl, hb3⟩
        have HS3 : Hid (PsAt κ ts P j W3) := HS2.out.later hb3
        have HB3 : Hid (But P w W3) := HB2.out.trans (But.of hb3)
        have HT3 := Lib.hid (HT2.out.below hb3)
        have HX3 := Lib.hid (HX2.out.below hb3)
        have HN_3 := Lib.hid (HN_2.out.move (S' := fun g => T < g) (w' := W3) fun g h1 h2 => ⟨hb3.block g h2, h1⟩)
        clear HS2 HB2 HT2 HX2 HN_2 hb3
        have HY4 := Lib.hid (TkAt.new W3 (.int .i64 (tAt ts j).k) (.int .i64 (tAt ts j).a) (.string (tAt ts j).x) (.string ⟨#[]⟩) (.string ⟨#[]⟩) (.int .i64 (tAt ts j).o))
        have HGY : Hid (T < W3.heap.size) := HT3.out.lt
        have hb4 : Below W3.heap.size W3 (W3.alloc (.cells #[.int .i64 (tAt ts j).k, .int .i64 (tAt ts j).a, .string (tAt ts j).x, .string ⟨#[]⟩, .string ⟨#[]⟩, .int .i64 (tAt ts j).o] 101)) := (Below.refl _ _).alloc (Nat.le_refl _) _
        have HS4 : Hid (PsAt κ ts P j (W3.alloc (.cells #[.int .i64 (tAt ts j).k, .int .i64 (tAt ts j).a, .string (tAt ts j).x, .string ⟨#[]⟩, .string ⟨#[]⟩, .int .i64 (tAt ts j).o] 101))) := HS3.out.later hb4
        have HB4 : Hid (But P w (W3.alloc (.cells #[.int .i64 (tAt ts j).k, .int .i64 (tAt ts j).a, .string (tAt ts j).x, .string ⟨#[]⟩, .string ⟨#[]⟩, .int .i64 (tAt ts j).o] 101))) := HB3.out.trans (But.of hb4)
        have HT4 := Lib.hid (HT3.out.below hb4)
        have HX4 := Lib.hid (HX3.out.below hb4)
        have HN_4 := Lib.hid (HN_3.out.move (S' := fun g => T < g) (w' := (W3.alloc (.cells #[.int .i64 (tAt ts j).k, .int .i64 (tAt ts j).a, .string (tAt ts j).x, .string ⟨#[]⟩, .string ⟨#[]⟩, .int .i64 (tAt ts j).o] 101))) fun g h1 h2 => ⟨hb4.block g h2, h1⟩)
        clear HS3 HB3 HT3 HX3 HN_3 hb4
        go_wp2_with fail
        generalize W3.alloc _ = W4 at *
        generalize W3.heap.size = Y at *
        have hl5 : ∀ q, (Instr.lookup 72 (.map (some κ.m0)) (.string (tAt ts j).x) false).run Tryz.prog (W4.drewN q) = .ok (.int .i64 0) (W4.drewN q) := fun q => (HS4.out.later (bl_drewN (Below.refl _ _) q)).look 0 (by decide) _ q0
        have hl0 := hl5 0
        obtain ⟨m0, m1, m2, m3, m4, m5, m6, m7⟩ := HS4.out.lev
        obtain ⟨y0, y1, y2, y3, y4, y5⟩ := HY4.out.cells
        go_quiet (fail)
        have hb6 : Below W4.heap.size W4 (W4.drewN nq) := bl_drewN (Below.refl _ _) nq
        have HS6 : Hid (PsAt κ ts P j (W4.drewN nq)) := HS4.out.later hb6
        have HB6 : Hid (But P w (W4.drewN nq)) := HB4.out.trans (But.of hb6)
        have HT6 := Lib.hid (HT4.out.below hb6)
        have HX6 := Lib.hid (HX4.out.below hb6)
        have HY6 := Lib.hid (HY4.out.later (hb6.block _ HY4.out.lt))
        have HN_6 := Lib.hid (HN_4.out.move (S' := fun g => T < g) (w' := (W4.drewN nq)) fun g h1 h2 => ⟨hb6.block g h2, h1⟩)
        clear HS4 HB4 HT4 HX4 HY4 HN_4 hb6 hl5 hl0 m0 m1 m2 m3 m4 m5 m6 m7 y0 y1 y2 y3 y4 y5
        generalize W4.drewN nq = W6 at *
        obtain ⟨x0, x1, x2, x3, x4⟩ := HX6.out.cells
        obtain ⟨u0, u1, u2, u3, u4⟩ := HT6.out.cells
        have z0 := HT6.out.frozen 0
        have z1 := HT6.out.frozen 1
        have z2 := HT6.out.frozen 2
        have z3 := HT6.out.frozen 3
        have z4 := HT6.out.frozen 4
        go_wp2
        have HR := HT6.out.put (.int .i64 op) (.string s) (.string t') (.int .i64 n) (.slice la ln lc)
        obtain ⟨r0, r1, r2, r3, r4⟩ := HR.cells
        change bodyPost _ _ _ _ _ (ndW W6 T (.int .i64 op) (.string s) (.string t') (.int .i64 n) (.slice la ln lc))
        refine bodyPost_ret (v := .agg #[.int .i64 op, .string s, .string t', .int .i64 n, .slice la ln lc]) ?_ rfl (fn_ret HTT.out HL.out HS6.out HB6.out HN_6.out (fun g h => h))
        generalize ndW W6 T (.int .i64 op) (.string s) (.string t') (.int .i64 n) (.slice la ln lc) = WZ at *
        simp [results, Tryz.results186, go_sem, r0, r1, r2, r3, r4]
set_option maxRecDepth 100000 in
set_option maxHeartbeats 8000000 in
theorem cond_any (κ : Pc) (ts : List Tt) (P k : Nat) (o : Oc) (hm : ∀ w, PsAt κ ts P k w → Calls Tryz.prog 186 #[.pointer (some ⟨P, 0, none⟩), .int .i64 0] w (OcP κ ts P o w)) (hq : o.at fun j => j ≤ 1000 ∧ sgOf (tAt ts j) ⟨#[63]⟩ = false) : Mt κ ts P k 155 o := by
  intro w h
  have HL := Lib.hid h.all
  have HS0 : Hid (PsAt κ ts P k (w.alloc zN)) := h.later ((Below.refl _ _).alloc (Nat.le_refl _) _)
  have HB0 : Hid (But P w (w.alloc zN)) := But.alloc P w _
  have HT0 := Lib.hid (NkAt.zero w)
  unfold zN at HS0 HB0 HT0
  have HM := Lib.hid hm
  clear hm
  clear h
  go_enter Tryz.func155, Tryz.ntmps155
  go_wp2_with fail
  generalize w.alloc _ = W0 at *
  generalize hTT : w.heap.size = T at *
  have HTT : Hid (w.heap.size ≤ T) := Nat.le_of_eq hTT
  clear hTT
  refine (HM.out _ HS0.out).mono ?_
  intro e1 W1 h1
  cases o with
  | bad m =>
    obtain ⟨rfl, hb1⟩ := h1
    have HBZ : Hid (But P w W1) := HB0.out.trans hb1
    clear hb1
    go_wp2
    exact ⟨rfl, rfl, HBZ.out⟩
  | ok j t =>
    obtain ⟨v, rfl, hn, hs1, hb1⟩ := h1
    cases hn with
    | @mk op s t' n l L hn =>
      obtain ⟨la, ln, lc, rfl⟩ := hn.val
      have HN_1 : Hid (NdAt (fun g => T < g) W1 (.mk op s t' n l) (.agg #[.int .i64 op, .string s, .string t', .int .i64 n, .slice la ln lc])) := .mk (hn.move fun g h1 h2 => ⟨rfl, Nat.lt_of_lt_of_le HT0.out.lt h1⟩)
      have HS1 := Lib.hid hs1
      have HB1 : Hid (But P w W1) := HB0.out.trans hb1
      have HT1 := Lib.hid (HT0.out.but hb1 HL.out.p)
      clear HB0 HT0 HS0 hn hs1 hb1 HM
      obtain ⟨hj, q0⟩ := hq
      have HX2 := Lib.hid (NkAt.new W1 (.int .i64 op) (.string s) (.string t') (.int .i64 n) (.slice la ln lc))
      have HGX : Hid (T < W1.heap.size) := HT1.out.lt
      have hb2 : Below W1.heap.size W1 (W1.alloc (.cells #[.int .i64 op, .string s, .string t', .int .i64 n, .slice la ln lc] 28)) := (Below.refl _ _).alloc (Nat.le_refl _) _
      have HS2 : Hid (PsAt κ ts P j (W1.alloc (.cells #[.int .i64 op, .string s, .string t', .int .i64 n, .slice la ln lc] 28))) := HS1.out.later hb2
      have HB2 : Hid (But P w (W1.alloc (.cells #[.int .i64 op, .string s, .string t', .int .i64 n, .slice la ln lc] 28))) := HB1.out.trans (But.of hb2)
      have HT2 := Lib.hid (HT1.out.below hb2)
      have HN_2 := Lib.hid (HN_1.out.move (S' := fun g => T < g) (w' := (W1.alloc (.cells #[.int .i64 op, .string s, .string t', .int .i64 n, .slice la ln lc] 28))) fun g h1 h2 => ⟨hb2.block g h2, h1⟩)
      clear HS1 HB1 HT1 HN_1 hb2
      go_wp2_with fail
      generalize W1.alloc _ = W2 at *
      generalize W1.heap.size = X at *
      refine (sign_any κ ts P j _ HS2.out (by omega) _).mono ?_
      rintro e1 W3 ⟨rfl, hb3⟩
      have HS3 : Hid (PsAt κ ts P j W3) := HS2.out.later hb3
      have HB3 : Hid (But P w W3) := HB2.out.trans (But.of hb3)
      have HT3 := Lib.hid (HT2.out.below hb3)
      have HX3 := Lib.hid (HX2.out.below hb3)
      have HN_3 := Lib.hid (HN_2.out.move (S' := fun g => T < g) (w' := W3) fun g h1 h2 => ⟨hb3.block g h2, h1⟩)
      clear HS2 HB2 HT2 HX2 HN_2 hb3
      rw [q0]
      obtain ⟨x0, x1, x2, x3, x4⟩ := HX3.out.cells
      obtain ⟨u0, u1, u2, u3, u4⟩ := HT3.out.cells
      have z0 := HT3.out.frozen 0
      have z1 := HT3.out.frozen 1
      have z2 := HT3.out.frozen 2
      have z3 := HT3.out.frozen 3
      have z4 := HT3.out.frozen 4
      go_wp2
      have HR := HT3.out.put (.int .i64 op) (.string s) (.string t') (.int .i64 n) (.slice la ln lc)
      obtain ⟨r0, r1, r2, r3, r4⟩ := HR.cells
      change bodyPost _ _ _ _ _ (ndW W3 T (.int .i64 op) (.string s) (.string t') (.int .i64 n) (.slice la ln lc))
      refine bodyPost_ret (v := .agg #[.int .i64 op, .string s, .string t', .int .i64 n, .slice la ln lc]) ?_ rfl (fn_ret HTT.out HL.out HS3.out HB3.out HN_3.out (fun g h => h))
      generalize ndW W3 T (.int .i64 op) (.string s) (.string t') (.int .i64 n) (.slice la ln lc) = WZ at *
      simp [results, Tryz.results155, go_sem, r0, r1, r2, r3, r4]

end Go.Proofs.YtaocbhfehncdcaaGreatDoor
