/-
  Trees of nodes: what the heap holds of them, and what stays; nodes with one and with two others in them. Conditions: none. What the parser's methods leave; the walk of those that hand on what another one read. Conditions: none beside those stated.
-/
import Derived.Test.YtaocbhfehncdcaaGreatDoorXM19
namespace Go.Proofs.YtaocbhfehncdcaaGreatDoor
open Go.RowKit

inductive Nd where
  | mk (op : Int) (s t : ByteArray) (n : Int) (l : List Nd)
mutual
/-- A value reads as a tree, whose rows lie in blocks of which S holds. -/
inductive NdAt (S : Nat → Prop) (w : World) : Nd → Value → Prop
  | mk {op : Int} {s t : ByteArray} {n : Int} {l : List Nd} {L : Value} (h : NsAt S w l L) : NdAt S w (.mk op s t n l) (.agg #[.int .i64 op, .string s, .string t, .int .i64 n, L])
inductive NsAt (S : Nat → Prop) (w : World) : List Nd → Value → Prop
  | none : NsAt S w [] (.slice none 0 0)
  | some {g o n c : Nat} {es : Array Value} {ty : TypeId} {cur : Nat × Nat} {l : List Nd} (hS : S g) (hg : w.heap[g]? = Option.some (.cells es ty cur)) (hc : NcAt S w l (es.toList.drop o)) (hn : n = l.length) (hm : n ≤ maxLen) : NsAt S w l (.slice (Option.some ⟨g, o, Option.none⟩) n c)
inductive NcAt (S : Nat → Prop) (w : World) : List Nd → List Value → Prop
  | nil {cs : List Value} : NcAt S w [] cs
  | cons {op : Int} {s t : ByteArray} {n : Int} {l : List Nd} {L : Value} {ls : List Nd} {cs : List Value} (h : NsAt S w l L) (hr : NcAt S w ls cs) : NcAt S w (.mk op s t n l :: ls) (.int .i64 op :: .string s :: .string t :: .int .i64 n :: L :: cs)
end
mutual
theorem NdAt.move {S S' : Nat → Prop} {w w' : World} (hk : ∀ g, S g → g < w.heap.size → w'.heap[g]? = w.heap[g]? ∧ S' g) : ∀ {t : Nd} {v : Value}, NdAt S w t v → NdAt S' w' t v
  | _, _, .mk h => .mk (NsAt.move hk h)
theorem NsAt.move {S S' : Nat → Prop} {w w' : World} (hk : ∀ g, S g → g < w.heap.size → w'.heap[g]? = w.heap[g]? ∧ S' g) : ∀ {l : List Nd} {v : Value}, NsAt S w l v → NsAt S' w' l v
  | _, _, .none => .none
  | _, _, .some hS hg hc hn hm => .some (hk _ hS (Array.getElem?_eq_some_iff.1 hg).1).2 ((hk _ hS (Array.getElem?_eq_some_iff.1 hg).1).1.trans hg) (NcAt.move hk hc) hn hm
theorem NcAt.move {S S' : Nat → Prop} {w w' : World} (hk : ∀ g, S g → g < w.heap.size → w'.heap[g]? = w.heap[g]? ∧ S' g) : ∀ {l : List Nd} {cs : List Value}, NcAt S w l cs → NcAt S' w' l cs
  | _, _, .nil => .nil
  | _, _, .cons h hr => .cons (NsAt.move hk h) (NcAt.move hk hr)
end
/-- The rows that there are, or new ones. -/
def New (S : Nat → Prop) (E : Nat) : Nat → Prop := fun g => S g ∨ E ≤ g
def NdP (S : Nat → Prop) (t : Nd) (w : World) (e : Ending) (w' : World) : Prop := ∃ v, e = .returned v ∧ Below w.heap.size w w' ∧ NdAt (New S w.heap.size) w' t v
def sOf (l : List UInt8) : ByteArray := bs l

theorem last_at {w W : World} {o : Obj} {n : Nat} (hW : w = W.alloc o) (hn : W.heap.size = n) : w.heap[n]? = some o := by
  subst hW
  subst hn
  exact (Go.MapKept.heap_alloc W o).1
theorem below_move {S : Nat → Prop} {w w' : World} (h : Below w.heap.size w w') : ∀ g, S g → g < w.heap.size → w'.heap[g]? = w.heap[g]? ∧ New S w.heap.size g := fun g h1 h2 => ⟨h.block g h2, Or.inl h1⟩

set_option maxRecDepth 100000 in
set_option maxHeartbeats 4000000 in
theorem pair_any (S : Nat → Prop) (op : Int) (a b : Nd) (va vb : Value) (w : World) (ha : NdAt S w a va) (hb : NdAt S w b vb) :
    Calls Tryz.prog 93 #[.int .i64 op, va, vb] w (NdP S (.mk op ⟨#[]⟩ ⟨#[]⟩ 0 [a, b]) w) := by
  cases ha with
  | @mk o1 s1 t1 n1 l1 L1 ha =>
    cases hb with
    | @mk o2 s2 t2 n2 l2 L2 hb =>
      go_enter Tryz.func93, Tryz.ntmps93
      go_wp2
      refine bodyPost_ret (v := .agg #[.int .i64 op, .string ⟨#[]⟩, .string ⟨#[]⟩, .int .i64 0, .slice (some ⟨w.heap.size + 1 + 1 + 1, 0, none⟩) 2 2]) (by simp [results, Tryz.results93, go_sem]) rfl ?_
      generalize hW : World.alloc _ (Obj.cells #[.int .i64 o1, .string s1, .string t1, .int .i64 n1, L1, .int .i64 o2, .string s2, .string t2, .int .i64 n2, L2] 28) = W
      have hbl : Below w.heap.size w W := by
        rw [← hW]
        exact ((((Below.refl _ _).alloc (Nat.le_refl _) _).alloc (by simp) _).alloc (by simp; omega) _).alloc (by simp; omega) _
      exact ⟨_, rfl, hbl, .mk (.some (Or.inr (by omega)) (last_at hW.symm (by simp)) (.cons (ha.move (below_move hbl)) (.cons (hb.move (below_move hbl)) .nil)) rfl (by decide))⟩
set_option maxRecDepth 100000 in
set_option maxHeartbeats 4000000 in
theorem one_any (S : Nat → Prop) (op : Int) (a : Nd) (va : Value) (w : World) (ha : NdAt S w a va) :
    Calls Tryz.prog 121 #[.int .i64 op, va] w (NdP S (.mk op ⟨#[]⟩ ⟨#[]⟩ 0 [a]) w) := by
  cases ha with
  | @mk o1 s1 t1 n1 l1 L1 ha =>
    go_enter Tryz.func121, Tryz.ntmps121
    go_wp2
    refine bodyPost_ret (v := .agg #[.int .i64 op, .string ⟨#[]⟩, .string ⟨#[]⟩, .int .i64 0, .slice (some ⟨w.heap.size + 1 + 1, 0, none⟩) 1 1]) (by simp [results, Tryz.results121, go_sem]) rfl ?_
    generalize hW : World.alloc _ (Obj.cells #[.int .i64 o1, .string s1, .string t1, .int .i64 n1, L1] 28) = W
    have hbl : Below w.heap.size w W := by
      rw [← hW]
      exact (((Below.refl _ _).alloc (Nat.le_refl _) _).alloc (by simp) _).alloc (by simp; omega) _
    exact ⟨_, rfl, hbl, .mk (.some (Or.inr (by omega)) (last_at hW.symm (by simp)) (.cons (ha.move (below_move hbl)) .nil) rfl (by decide))⟩
set_option maxRecDepth 100000 in
set_option maxHeartbeats 4000000 in
theorem deref_any (S : Nat → Prop) (x : ByteArray) (a : Nd) (va : Value) (w : World) (ha : NdAt S w a va) :
    Calls Tryz.prog 242 #[.string x, va] w (NdP S (.mk 12 x ⟨#[]⟩ 0 [a]) w) := by
  cases ha with
  | @mk o1 s1 t1 n1 l1 L1 ha =>
    go_enter Tryz.func242, Tryz.ntmps242
    go_wp2
    refine bodyPost_ret (v := .agg #[.int .i64 12, .string x, .string ⟨#[]⟩, .int .i64 0, .slice (some ⟨w.heap.size + 1 + 1, 0, none⟩) 1 1]) (by simp [results, Tryz.results242, go_sem]) rfl ?_
    generalize hW : World.alloc _ (Obj.cells #[.int .i64 o1, .string s1, .string t1, .int .i64 n1, L1] 28) = W
    have hbl : Below w.heap.size w W := by
      rw [← hW]
      exact (((Below.refl _ _).alloc (Nat.le_refl _) _).alloc (by simp) _).alloc (by simp; omega) _
    exact ⟨_, rfl, hbl, .mk (.some (Or.inr (by omega)) (last_at hW.symm (by simp)) (.cons (ha.move (below_move hbl)) .nil) rfl (by decide))⟩

end Go.Proofs.YtaocbhfehncdcaaGreatDoor

namespace Go.Proofs.YtaocbhfehncdcaaGreatDoor
open Go.RowKit Go.MapKept Go.ChangeMaps

theorem NsAt.val {S : Nat → Prop} {w : World} {l : List Nd} {L : Value} (h : NsAt S w l L) : ∃ a n c, L = .slice a n c := by
  cases h with
  | none => exact ⟨_, _, _, rfl⟩
  | some => exact ⟨_, _, _, rfl⟩
/-- The block of a node. -/
def NkAt (T : Nat) (v0 v1 v2 v3 v4 : Value) (W : World) : Prop := W.heap[T]? = some (.cells #[v0, v1, v2, v3, v4] 28 (0, 0))
def ndW (W : World) (T : Nat) (v0 v1 v2 v3 v4 : Value) : World :=
  ((((W.setCell ⟨T, 0, none⟩ v0).setCell ⟨T, 1, none⟩ v1).setCell ⟨T, 2, none⟩ v2).setCell ⟨T, 3, none⟩ v3).setCell ⟨T, 4, none⟩ v4
def zN : Obj := .cells #[.int .i64 0, .string ⟨#[]⟩, .string ⟨#[]⟩, .int .i64 0, .slice none 0 0] 28
section
variable {T : Nat} {v0 v1 v2 v3 v4 : Value} {W : World}
theorem NkAt.cells (h : NkAt T v0 v1 v2 v3 v4 W) : W.cell? ⟨T, 0, none⟩ = some v0 ∧ W.cell? ⟨T, 1, none⟩ = some v1 ∧ W.cell? ⟨T, 2, none⟩ = some v2 ∧ W.cell? ⟨T, 3, none⟩ = some v3 ∧ W.cell? ⟨T, 4, none⟩ = some v4 := by
  unfold NkAt at h
  refine ⟨?_, ?_, ?_, ?_, ?_⟩ <;> (rw [Lib.cell_of_heap h]; rfl)
theorem NkAt.frozen (h : NkAt T v0 v1 v2 v3 v4 W) (i : Nat) : W.frozen? ⟨T, i, none⟩ = false := Lib.frozen_of_heap h i
theorem NkAt.lt (h : NkAt T v0 v1 v2 v3 v4 W) : T < W.heap.size := (Array.getElem?_eq_some_iff.1 h).1
theorem NkAt.but {P : Nat} {W' : World} (h : NkAt T v0 v1 v2 v3 v4 W) (hb : But P W W') (hT : P < T) : NkAt T v0 v1 v2 v3 v4 W' := (hb.block T h.lt (by omega)).trans h
theorem NkAt.below {W' : World} (h : NkAt T v0 v1 v2 v3 v4 W) (hb : Below W.heap.size W W') : NkAt T v0 v1 v2 v3 v4 W' := (hb.block T h.lt).trans h
theorem NkAt.put (h : NkAt T v0 v1 v2 v3 v4 W) (u0 u1 u2 u3 u4 : Value) : NkAt T u0 u1 u2 u3 u4 (ndW W T u0 u1 u2 u3 u4) :=
  heap_setCell_same _ T 4 _ _ u4 (heap_setCell_same _ T 3 _ _ u3 (heap_setCell_same _ T 2 _ _ u2 (heap_setCell_same _ T 1 _ _ u1 (heap_setCell_same W T 0 _ _ u0 h))))
end
theorem ndW_below (W : World) (T : Nat) (v0 v1 v2 v3 v4 : Value) : Below T W (ndW W T v0 v1 v2 v3 v4) :=
  (((((Below.refl T W).setCell (p := ⟨T, 0, none⟩) (Nat.le_refl _) v0).setCell (p := ⟨T, 1, none⟩) (Nat.le_refl _) v1).setCell (p := ⟨T, 2, none⟩) (Nat.le_refl _) v2).setCell (p := ⟨T, 3, none⟩) (Nat.le_refl _) v3).setCell (p := ⟨T, 4, none⟩) (Nat.le_refl _) v4
theorem ndW_size (W : World) (T : Nat) (v0 v1 v2 v3 v4 : Value) : (ndW W T v0 v1 v2 v3 v4).heap.size = W.heap.size := by
  unfold ndW
  simp [World.size_setCell]
theorem ndW_block (W : World) (T : Nat) (v0 v1 v2 v3 v4 : Value) (k : Nat) (hk : k ≠ T) : (ndW W T v0 v1 v2 v3 v4).heap[k]? = W.heap[k]? := by
  unfold ndW
  exact (Below.heap_setCell _ ⟨T, 4, none⟩ _ k hk).trans ((Below.heap_setCell _ ⟨T, 3, none⟩ _ k hk).trans ((Below.heap_setCell _ ⟨T, 2, none⟩ _ k hk).trans ((Below.heap_setCell _ ⟨T, 1, none⟩ _ k hk).trans (Below.heap_setCell _ ⟨T, 0, none⟩ _ k hk))))
theorem NkAt.zero (w : World) : NkAt w.heap.size (.int .i64 0) (.string ⟨#[]⟩) (.string ⟨#[]⟩) (.int .i64 0) (.slice none 0 0) (w.alloc zN) := (Go.MapKept.heap_alloc w _).1
theorem NkAt.new (w : World) (v0 v1 v2 v3 v4 : Value) : NkAt w.heap.size v0 v1 v2 v3 v4 (w.alloc (.cells #[v0, v1, v2, v3, v4] 28)) := (Go.MapKept.heap_alloc w _).1

/-- The parser's parts lie ahead of block E. -/
structure PcLt (κ : Pc) (P E : Nat) : Prop where
  p : P < E
  g : κ.g < E
  m : ∀ n, n < 8 → κ.m n < E
theorem PsAt.all {κ : Pc} {ts : List Tt} {P k : Nat} {w : World} (h : PsAt κ ts P k w) : PcLt κ P w.heap.size := ⟨h.lt, h.glt, fun n hn => (h.map n hn).lt⟩
theorem PsAt.part {κ : Pc} {ts : List Tt} {P k E : Nat} {w w' : World} (h : PsAt κ ts P k w) (hL : PcLt κ P E) (hb : ∀ T, T < E → w'.heap[T]? = w.heap[T]?) (hs : w.heap.size ≤ w'.heap.size) : PsAt κ ts P k w' :=
  ⟨(hb P hL.p).trans h.blk, fun i hi => (h.row i hi).later (hb _ hL.g), Nat.lt_of_lt_of_le h.glt hs, h.gne, h.cap, fun n hn => (h.map n hn).block (hb _ (hL.m n hn)), h.mne, h.few⟩
/-- What a method ends with: a tree, the parser being further on; or it gives up at a token. -/
inductive Oc where
  | ok (j : Nat) (t : Nd)
  | bad (m : Nat)
def OcP (κ : Pc) (ts : List Tt) (P : Nat) : Oc → World → Ending → World → Prop
  | .ok j t, w, e, w' => ∃ v, e = .returned v ∧ NdAt (fun g => w.heap.size ≤ g) w' t v ∧ PsAt κ ts P j w' ∧ But P w w'
  | .bad m, w, e, w' => BadP P m w e w'
/-- A method of the parser, from token k on. -/
def Mt (κ : Pc) (ts : List Tt) (P k : Nat) (f : Nat) (o : Oc) : Prop := ∀ w, PsAt κ ts P k w → Calls Tryz.prog f #[.pointer (some ⟨P, 0, none⟩)] w (OcP κ ts P o w)
/-- A condition on where a method has gone on to. -/
def Oc.at (o : Oc) (f : Nat → Prop) : Prop := match o with | .ok j _ => f j | .bad _ => True
theorem fn_ret {κ : Pc} {ts : List Tt} {P j T : Nat} {w W : World} {t : Nd} {v0 v1 v2 v3 v4 : Value} {S : Nat → Prop} (hT : w.heap.size ≤ T) (hL : PcLt κ P T) (hP : PsAt κ ts P j W) (hB : But P w W) (hN : NdAt S W t (.agg #[v0, v1, v2, v3, v4])) (hS : ∀ g, S g → T < g) :
    OcP κ ts P (.ok j t) w (.returned (.agg #[v0, v1, v2, v3, v4])) (ndW W T v0 v1 v2 v3 v4) := by
  have hb := ndW_below W T v0 v1 v2 v3 v4
  refine ⟨_, rfl, hN.move fun g h1 h2 => ⟨ndW_block _ _ _ _ _ _ _ _ (by have := hS g h1; omega), by have := hS g h1; omega⟩, hP.part hL (fun k hk => hb.block k hk) (by rw [ndW_size]; exact Nat.le_refl _), ?_⟩
  exact ⟨hb.os.trans hB.os, hb.tape.trans hB.tape, hb.output.trans hB.output, by rw [ndW_size]; exact hB.size, fun k hk hP => (hb.block k (by omega)).trans (hB.block k hk hP)⟩

theorem token_x (κ : Pc) (ts : List Tt) (P k : Nat) (w : World) (h : PsAt κ ts P k w) (hk : k ≤ 100000) :
    Calls Tryz.prog 84 #[.pointer (some ⟨P, 0, none⟩)] w (LkP (.agg #[.int .i64 (tAt ts k).k, .int .i64 (tAt ts k).a, .string (tAt ts k).x, .string ⟨#[]⟩, .string ⟨#[]⟩, .int .i64 (tAt ts k).o]) w) := token_any κ ts P k w h hk
theorem TkAt.new (w : World) (v0 v1 v2 v3 v4 v5 : Value) : TkAt w.heap.size v0 v1 v2 v3 v4 v5 (w.alloc (.cells #[v0, v1, v2, v3, v4, v5] 101)) := (Go.MapKept.heap_alloc w _).1
theorem SMap.none {P : Program} {w : World} {B : Nat} {l : List (ByteArray × Value)} (h : SMap w B l) {t k e : TypeId} (ht : P.underlying t = some (.map k e)) (hk : P.underlying k = some .string) {z : Value} (hz : (zeroValue e).run P w = .ok z w) {key : ByteArray} (hn : findS key l = Option.none) :
    (Instr.lookup t (.map (some B)) (.string key) false).run P w = .ok z w := by
  obtain ⟨es, h1, h2⟩ := h
  have hfind : Instr.findNow .string (.string key) es.toList 0 = some Option.none := findNow_none key es.toList l 0 h2 hn
  have hkey : MapKept.IsKey .string (.string key) := trivial
  simp [Instr.lookup, run_underlying ht, MapKept.run_getObj_map h1, MapKept.run_checkKey hk hkey, MapKept.run_findKey hk hfind, hz]
theorem PsAt.look {κ : Pc} {ts : List Tt} {P k : Nat} {w : World} (h : PsAt κ ts P k w) (n : Nat) (hn : n < 8) (x : ByteArray) (hx : findS x (lvM n) = Option.none) :
    (Instr.lookup 72 (.map (some (κ.m n))) (.string x) false).run Tryz.prog w = .ok (.int .i64 0) w :=
  (h.map n hn).none (P := Tryz.prog) Tryz.underlying72 Tryz.underlying9 (Tryz.zeroValue3 _) hx
theorem PsAt.lev {κ : Pc} {ts : List Tt} {P k : Nat} {w : World} (h : PsAt κ ts P k w) : w.cell? ⟨P, 2, none⟩ = some (.map (some κ.m0)) ∧ w.cell? ⟨P, 3, none⟩ = some (.map (some κ.m1)) ∧ w.cell? ⟨P, 4, none⟩ = some (.map (some κ.m2)) ∧ w.cell? ⟨P, 5, none⟩ = some (.map (some κ.m3)) ∧ w.cell? ⟨P, 6, none⟩ = some (.map (some κ.m4)) ∧ w.cell? ⟨P, 7, none⟩ = some (.map (some κ.m5)) ∧ w.cell? ⟨P, 8, none⟩ = some (.map (some κ.m6)) ∧ w.cell? ⟨P, 9, none⟩ = some (.map (some κ.m7)) := by
  refine ⟨?_, ?_, ?_, ?_, ?_, ?_, ?_, ?_⟩ <;> (rw [Lib.cell_of_heap h.blk]; rfl)

end Go.Proofs.YtaocbhfehncdcaaGreatDoor
