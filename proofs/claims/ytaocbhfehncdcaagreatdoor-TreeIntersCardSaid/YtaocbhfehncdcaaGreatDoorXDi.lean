/-
  The document's reader of a text with interpolation: its block, the text and the parts that it has so far; flush. Conditions: rows of at most 1000000 parts, texts of at most 1000000 bytes.
-/
import Derived.Test.YtaocbhfehncdcaaGreatDoorXM26
import Derived.Test.YtaocbhfehncdcaaGreatDoorXM27
import Derived.Deep.RegionLaw
import Derived.Deep.AppendLies
import Derived.BigRegion
namespace Go.Proofs.YtaocbhfehncdcaaGreatDoor
open Go.RowKit

theorem Bytes.stay {B : Nat} {v : Value} {l : List UInt8} {w w' : World} (h : Bytes B v l w) (hk : Keep isBy w w') : Bytes B v l w' := by
  refine ⟨h.1, ?_⟩
  rcases h.2 with h0 | ⟨g, cap, cur, h0, h3, hg, h4⟩
  · exact .inl h0
  · exact .inr ⟨g, cap, cur, h0, h3, hk g _ _ _ rfl hg, h4⟩
theorem Bytes.typed {B : Nat} {v : Value} {l : List UInt8} {w : World} (h : Bytes B v l w) {g : Nat} (hg : v.ownBlock = some g) : ∃ es, w.heap[g]? = some (.cells es 5 (0, 0)) := by
  rcases h.2 with ⟨rfl, h0⟩ | ⟨g', cap, cur, rfl, _, hg', _⟩
  · simp [Value.ownBlock] at hg
  · simp only [Value.ownBlock, Option.some.injEq] at hg
    subst hg
    exact ⟨_, hg'⟩
def noIt (t : TypeId) : Prop := t ≠ 67
theorem Keep.imp {p q : TypeId → Prop} {w w' : World} (h : Keep q w w') (hi : ∀ t, p t → q t) : Keep p w w' := fun g es ty cur hp hg => h g es ty cur (hi ty hp) hg
theorem nd_it : ∀ t, isNd t → noIt t := fun t h => by
  cases h
  unfold noIt
  decide
theorem by_it : ∀ t, isBy t → noIt t := fun t h => by
  cases h
  unfold noIt
  decide
theorem nd_by : ∀ t, isNd t → noBy t := fun t h => by
  cases h
  unfold noBy
  decide
theorem by_nd : ∀ t, isBy t → noNd t := fun t h => by
  cases h
  unfold noNd
  decide
theorem keep_text {B : Nat} {v : Value} {l : List UInt8} {w w4 : World} (h : Bytes B v l w) (hg : ∀ g, g < w.heap.size → some g ≠ v.ownBlock → w4.heap[g]? = w.heap[g]?) : Keep noBy w w4 := fun g es ty cur hp hgg => by
  refine (hg g (Array.getElem?_eq_some_iff.1 hgg).1 fun e => ?_).trans hgg
  obtain ⟨es', h1⟩ := h.typed e.symm
  rw [hgg] at h1
  simp only [Option.some.injEq, Obj.cells.injEq] at h1
  exact hp h1.2.1
theorem keep_set {R : Nat} {cs : Array Value} {w : World} (h : w.heap[R]? = some (.cells cs 67 (0, 0))) (i : Nat) (v : Value) : Keep noIt w (w.setCell ⟨R, i, none⟩ v) := fun g es ty cur hp hg => by
  refine (Below.heap_setCell w ⟨R, i, none⟩ v g fun e => ?_).trans hg
  have e : g = R := e
  subst e
  rw [hg] at h
  simp only [Option.some.injEq, Obj.cells.injEq] at h
  exact hp h.2.1
/-- The reader in block R: what it reads, how far it is, the text and the parts so far. -/
structure DiAt (B R : Nat) (src : List UInt8) (a : Nat) (tx : List UInt8) (ps : List Nd) (tv lv : Value) (w : World) : Prop where
  lo : B ≤ R
  blk : w.heap[R]? = some (.cells #[.string (bs src), .int .i64 a, tv, lv] 67 (0, 0))
  btx : Bytes B tv tx w
  bps : Rws B lv ps w
section
variable {B R : Nat} {src : List UInt8} {a : Nat} {tx : List UInt8} {ps : List Nd} {tv lv : Value} {w w' : World}
theorem DiAt.cells (h : DiAt B R src a tx ps tv lv w) : w.cell? ⟨R, 0, none⟩ = some (.string (bs src)) ∧ w.cell? ⟨R, 1, none⟩ = some (.int .i64 a) ∧ w.cell? ⟨R, 2, none⟩ = some tv ∧ w.cell? ⟨R, 3, none⟩ = some lv := by
  have hb := h.blk
  refine ⟨?_, ?_, ?_, ?_⟩ <;> rw [Lib.cell_of_heap hb] <;> rfl
theorem DiAt.frozen (h : DiAt B R src a tx ps tv lv w) (i : Nat) : w.frozen? ⟨R, i, none⟩ = false := Lib.frozen_of_heap h.blk i
theorem DiAt.lt (h : DiAt B R src a tx ps tv lv w) : R < w.heap.size := (Array.getElem?_eq_some_iff.1 h.blk).1
theorem DiAt.stay (h : DiAt B R src a tx ps tv lv w) (hk : ∀ g, g < w.heap.size → w'.heap[g]? = w.heap[g]?) : DiAt B R src a tx ps tv lv w' :=
  ⟨h.lo, (hk R h.lt).trans h.blk, h.btx.stay (keep_all _ hk), h.bps.stay (keep_all _ hk)⟩
theorem DiAt.below (h : DiAt B R src a tx ps tv lv w) (hk : Below w.heap.size w w') : DiAt B R src a tx ps tv lv w' := h.stay hk.block
theorem DiAt.alloc (h : DiAt B R src a tx ps tv lv w) (o : Obj) : DiAt B R src a tx ps tv lv (w.alloc o) := h.below ((Below.refl _ _).alloc (Nat.le_refl _) o)
theorem DiAt.setAt (h : DiAt B R src a tx ps tv lv w) (b : Nat) : DiAt B R src b tx ps tv lv (w.setCell ⟨R, 1, none⟩ (.int .i64 b)) :=
  ⟨h.lo, heap_setCell_same w R 1 _ _ _ h.blk, h.btx.stay ((keep_set h.blk 1 _).imp by_it), h.bps.stay ((keep_set h.blk 1 _).imp nd_it)⟩
/-- The text has been told anew. -/
theorem DiAt.setTx (h : DiAt B R src a tx ps tv lv w) {t2 : List UInt8} {v2 : Value} {w2 : World} (ho : Bytes B v2 t2 w2) (hg : ∀ g, g < w.heap.size → some g ≠ tv.ownBlock → w2.heap[g]? = w.heap[g]?) : DiAt B R src a t2 ps v2 lv (w2.setCell ⟨R, 2, none⟩ v2) := by
  have hk := keep_text h.btx hg
  have hb : w2.heap[R]? = some (.cells #[.string (bs src), .int .i64 a, tv, lv] 67 (0, 0)) := hk R _ _ _ (by unfold noBy; decide) h.blk
  exact ⟨h.lo, heap_setCell_same w2 R 2 _ _ _ hb, ho.stay ((keep_set hb 2 _).imp by_it), (h.bps.stay (hk.imp nd_by)).stay ((keep_set hb 2 _).imp nd_it)⟩
/-- The parts have been told anew. -/
theorem DiAt.setPs (h : DiAt B R src a tx ps tv lv w) {l2 : List Nd} {v2 : Value} {w2 : World} (ho : Rws B v2 l2 w2) (hg : ∀ g, g < w.heap.size → some g ≠ lv.ownBlock → w2.heap[g]? = w.heap[g]?) : DiAt B R src a tx l2 tv v2 (w2.setCell ⟨R, 3, none⟩ v2) := by
  have hk := keep_grown h.bps hg
  have hb : w2.heap[R]? = some (.cells #[.string (bs src), .int .i64 a, tv, lv] 67 (0, 0)) := hk R _ _ _ (by unfold noNd; decide) h.blk
  exact ⟨h.lo, heap_setCell_same w2 R 3 _ _ _ hb, (h.btx.stay (hk.imp by_nd)).stay ((keep_set hb 3 _).imp by_it), ho.stay ((keep_set hb 3 _).imp nd_it)⟩
theorem DiAt.psFar (h : DiAt B R src a tx ps tv lv w) : some R ≠ lv.ownBlock := fun e => by
  obtain ⟨es, h1⟩ := h.bps.typed e.symm
  rw [h.blk] at h1
  simp only [Option.some.injEq, Obj.cells.injEq] at h1
  exact absurd h1.2.1 (by decide)
theorem DiAt.txFar (h : DiAt B R src a tx ps tv lv w) : some R ≠ tv.ownBlock := fun e => by
  obtain ⟨es, h1⟩ := h.btx.typed e.symm
  rw [h.blk] at h1
  simp only [Option.some.injEq, Obj.cells.injEq] at h1
  exact absurd h1.2.1 (by decide)
end
/-- A node put into an element of a row. -/
def rwW (W : World) (g p : Nat) (v0 v1 v2 v3 v4 : Value) : World := ((((W.setCell ⟨g, p, none⟩ v0).setCell ⟨g, p + 1, none⟩ v1).setCell ⟨g, p + 2, none⟩ v2).setCell ⟨g, p + 3, none⟩ v3).setCell ⟨g, p + 4, none⟩ v4
theorem set_five (xs : List Value) (z0 z1 z2 z3 z4 v0 v1 v2 v3 v4 : Value) : (((((xs ++ [z0, z1, z2, z3, z4]).set xs.length v0).set (xs.length + 1) v1).set (xs.length + 2) v2).set (xs.length + 3) v3).set (xs.length + 4) v4 = xs ++ [v0, v1, v2, v3, v4] := by
  induction xs with
  | nil => rfl
  | cons x xs ih =>
    simp only [List.cons_append, List.length_cons, List.set_cons_succ, Nat.succ_add]
    rw [ih]
theorem row_five {B n cap g : Nat} {w : World} {xs : List Value} {z0 z1 z2 z3 z4 : Value} (h : w.ownsRow B 28 5 (.slice (some ⟨g, 0, none⟩) (n + 1) cap) (n + 1) (xs ++ [z0, z1, z2, z3, z4])) (hl : xs.length = n * 5) (v0 v1 v2 v3 v4 : Value) :
    (rwW w g (n * 5) v0 v1 v2 v3 v4).ownsRow B 28 5 (.slice (some ⟨g, 0, none⟩) (n + 1) cap) (n + 1) (xs ++ [v0, v1, v2, v3, v4]) ∧ w.grownBy (rwW w g (n * 5) v0 v1 v2 v3 v4) (some g) := by
  rw [← hl]
  obtain ⟨h0, g0⟩ := h.stored xs.length v0
  obtain ⟨h1, g1⟩ := h0.stored (xs.length + 1) v1
  obtain ⟨h2, g2⟩ := h1.stored (xs.length + 2) v2
  obtain ⟨h3, g3⟩ := h2.stored (xs.length + 3) v3
  obtain ⟨h4, g4⟩ := h3.stored (xs.length + 4) v4
  rw [set_five] at h4
  exact ⟨h4, (((g0.trans g1).trans g2).trans g3).trans g4⟩

end Go.Proofs.YtaocbhfehncdcaaGreatDoor
