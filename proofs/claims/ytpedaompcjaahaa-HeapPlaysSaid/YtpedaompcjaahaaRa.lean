/-
  The document's heap in memory: its cells, their fields, what a store leaves. Conditions: none.
-/
import Derived.Test.YtpedaompcjaahaaIg
namespace Go.Proofs.Ytpedaompcjaahaa
open Go.RowKit

/-- The j-th of the 5 places of the i-th cell; fv: where the fields lie. -/
def rcv (cs : List Cl) (fv : Nat → Value) (i j : Nat) : Value :=
  if j = 0 then fv i else if j = 1 then .bool (cl cs i).wt else if j = 2 then .bool (cl cs i).td else if j = 3 then .bool (cl cs i).en else .int .i64 ((cl cs i).rt : Nat)
/-- A row of fields. -/
def Rf (S : Nat → Prop) (v : Value) (fs : List (Nat × Nat)) (w : World) : Prop :=
  ∃ ys, w.ownsRow 0 91 3 v fs.length ys ∧ (∀ k (h : k < fs.length), ys[k * 3]? = some (.int .i64 (fs[k].2 : Nat)) ∧ ys[k * 3 + 1]? = some (.bool (fs[k].1 != 0)) ∧ ys[k * 3 + 2]? = some (.bool (fs[k].1 == 2))) ∧ ∀ g, v.ownBlock = some g → S g
def Rrc (S : Nat → Prop) (v : Value) (cs : List Cl) (fv : Nat → Value) (w : World) : Prop :=
  ∃ xs, w.ownsRow 0 78 5 v cs.length xs ∧ (∀ i j, i < cs.length → j < 5 → xs[i * 5 + j]? = some (rcv cs fv i j)) ∧ ∀ g, v.ownBlock = some g → S g
/-- The heap in block r. -/
structure RI (S : Nat → Prop) (r : Nat) (cs : List Cl) (ns : List Nat) (vc vn : Value) (fv : Nat → Value) (w : World) : Prop where
  base : S r
  block : w.heap[r]? = some (.cells #[vc, vn] 30 (0, 0))
  cells : Rrc S vc cs fv w
  fields : ∀ i, i < cs.length → Rf S (fv i) (cl cs i).fs w
  apart : ∀ i j g, i < cs.length → j < cs.length → (fv i).ownBlock = some g → (fv j).ownBlock = some g → i = j
  notes : Rn S vn ns w
def RS (S : Nat → Prop) (r : Nat) (cs : List Cl) (ns : List Nat) (w : World) : Prop := ∃ vc vn fv, RI S r cs ns vc vn fv w
abbrev RH (S : Nat → Prop) (r : Nat) (h : Hp) (w : World) : Prop := RS S r h.cs h.ns w

theorem Rf.type {S : Nat → Prop} {v : Value} {fs : List (Nat × Nat)} {w : World} (h : Rf S v fs w) {g : Nat} (hv : v.ownBlock = some g) : S g ∧ ∃ cur, w.heap[g]? = some (.cells cur 91 (0, 0)) := by
  obtain ⟨ys, h1, _, h3⟩ := h
  exact ⟨h3 g hv, row_type h1 hv⟩
theorem Rrc.type {S : Nat → Prop} {v : Value} {cs : List Cl} {fv : Nat → Value} {w : World} (h : Rrc S v cs fv w) {g : Nat} (hv : v.ownBlock = some g) : S g ∧ ∃ cur, w.heap[g]? = some (.cells cur 78 (0, 0)) := by
  obtain ⟨ys, h1, _, h3⟩ := h
  exact ⟨h3 g hv, row_type h1 hv⟩
theorem Rf.move {S S' : Nat → Prop} {v : Value} {fs : List (Nat × Nat)} {w w' : World} (h : Rf S v fs w) (hk : ∀ g, S g → g < w.heap.size → v.ownBlock = some g → w'.heap[g]? = w.heap[g]? ∧ S' g) : Rf S' v fs w' := by
  have ht := fun g hg => h.type (g := g) hg
  have hlt : ∀ g, v.ownBlock = some g → g < w.heap.size := fun g hg => by
    obtain ⟨_, cur, hc⟩ := ht g hg
    exact (Array.getElem?_eq_some_iff.1 hc).1
  obtain ⟨ys, h1, h2, h3⟩ := h
  exact ⟨ys, row_keep h1 fun g hg => (hk g (h3 g hg) (hlt g hg) hg).1, h2, fun g hg => (hk g (h3 g hg) (hlt g hg) hg).2⟩
theorem Rrc.move {S S' : Nat → Prop} {v : Value} {cs : List Cl} {fv : Nat → Value} {w w' : World} (h : Rrc S v cs fv w) (hk : ∀ g, S g → g < w.heap.size → v.ownBlock = some g → w'.heap[g]? = w.heap[g]? ∧ S' g) : Rrc S' v cs fv w' := by
  have ht := fun g hg => h.type (g := g) hg
  have hlt : ∀ g, v.ownBlock = some g → g < w.heap.size := fun g hg => by
    obtain ⟨_, cur, hc⟩ := ht g hg
    exact (Array.getElem?_eq_some_iff.1 hc).1
  obtain ⟨ys, h1, h2, h3⟩ := h
  exact ⟨ys, row_keep h1 fun g hg => (hk g (h3 g hg) (hlt g hg) hg).1, h2, fun g hg => (hk g (h3 g hg) (hlt g hg) hg).2⟩
theorem RI.move {S S' : Nat → Prop} {r : Nat} {cs : List Cl} {ns : List Nat} {vc vn : Value} {fv : Nat → Value} {w w' : World} (h : RI S r cs ns vc vn fv w) (hk : ∀ g, S g → g < w.heap.size → w'.heap[g]? = w.heap[g]? ∧ S' g) : RI S' r cs ns vc vn fv w' := by
  have := hk r h.base (Array.getElem?_eq_some_iff.1 h.block).1
  exact ⟨this.2, this.1.trans h.block, h.cells.move fun g a c _ => hk g a c, fun i hi => (h.fields i hi).move fun g a c _ => hk g a c, h.apart, h.notes.move fun g a c _ => hk g a c⟩
theorem RS.move {S S' : Nat → Prop} {r : Nat} {cs : List Cl} {ns : List Nat} {w w' : World} (h : RS S r cs ns w) (hk : ∀ g, S g → g < w.heap.size → w'.heap[g]? = w.heap[g]? ∧ S' g) : RS S' r cs ns w' := by
  obtain ⟨vc, vn, fv, h⟩ := h
  exact ⟨vc, vn, fv, h.move hk⟩
theorem RS.wide {S S' : Nat → Prop} {r : Nat} {cs : List Cl} {ns : List Nat} {w : World} (h : RS S r cs ns w) (hS : ∀ g, S g → g < w.heap.size → S' g) : RS S' r cs ns w := h.move fun g a c => ⟨rfl, hS g a c⟩
theorem RS.tight {S : Nat → Prop} {r : Nat} {cs : List Cl} {ns : List Nat} {w : World} (h : RS S r cs ns w) : RS (fun g => S g ∧ g < w.heap.size) r cs ns w := h.move fun _ a c => ⟨rfl, a, c⟩
theorem RS.low {S : Nat → Prop} {r : Nat} {cs : List Cl} {ns : List Nat} {w w' : World} (h : RS S r cs ns w) (hb : Below w.heap.size w w') : RS S r cs ns w' := h.move fun g a c => ⟨hb.block g c, a⟩
/-- What a walk wants of the heap. -/
theorem RI.open {S : Nat → Prop} {r : Nat} {cs : List Cl} {ns : List Nat} {vc vn : Value} {fv : Nat → Value} {w : World} (h : RI S r cs ns vc vn fv w) : w.cell? ⟨r, 0, none⟩ = some vc ∧ w.cell? ⟨r, 1, none⟩ = some vn ∧ (∀ k, w.frozen? ⟨r, k, none⟩ = false) ∧ r < w.heap.size ∧ ∃ ao cap, vc = .slice ao cs.length cap := by
  refine ⟨by simp [World.cell?, h.block], by simp [World.cell?, h.block], fun k => by simp [World.frozen?, h.block], (Array.getElem?_eq_some_iff.1 h.block).1, ?_⟩
  obtain ⟨xs, h1, _⟩ := h.cells
  rcases h1.2 with ⟨h2, h3⟩ | ⟨g, cap, cur, h2, _⟩
  · exact ⟨none, 0, by rw [h2, h3]⟩
  · exact ⟨_, _, h2⟩
/-- What a walk wants of a cell. -/
theorem RI.cell {S : Nat → Prop} {r : Nat} {cs : List Cl} {ns : List Nat} {vc vn : Value} {fv : Nat → Value} {w : World} (h : RI S r cs ns vc vn fv w) {n : Nat} (hn : n < cs.length) : ∃ g cap, vc = .slice (some ⟨g, 0, none⟩) cs.length cap ∧ S g ∧ g ≠ r ∧ g < w.heap.size ∧ (∀ i j, i < cs.length → j < 5 → w.cell? ⟨g, i * 5 + j, none⟩ = some (rcv cs fv i j)) ∧ ∀ k, w.frozen? ⟨g, k, none⟩ = false := by
  have hty := fun g hg => h.cells.type (g := g) hg
  obtain ⟨xs, r1, r2, r3⟩ := h.cells
  have r0 := r1
  rcases r1.2 with ⟨_, h0⟩ | ⟨g, cap, cur, e1, _, e3, _⟩
  · omega
  · subst e1
    obtain ⟨_, cur', hc⟩ := hty g rfl
    refine ⟨g, cap, rfl, r3 g rfl, blocks_ne hc h.block (by decide), (Array.getElem?_eq_some_iff.1 e3).1, fun i j hi hj => ?_, fun k => r0.frozenAt k⟩
    rw [r0.cellAt _ (by omega)]
    exact r2 i j hi hj
/-- What a walk wants of a field. -/
theorem RI.field {S : Nat → Prop} {r : Nat} {cs : List Cl} {ns : List Nat} {vc vn : Value} {fv : Nat → Value} {w : World} (h : RI S r cs ns vc vn fv w) {n : Nat} (hn : n < cs.length) : ∃ ao cap, fv n = .slice ao (cl cs n).fs.length cap ∧ (0 < (cl cs n).fs.length → ∃ g, ao = some ⟨g, 0, none⟩ ∧ S g ∧ g ≠ r ∧ g < w.heap.size ∧ (fv n).ownBlock = some g ∧ (∀ k, k < (cl cs n).fs.length → w.cell? ⟨g, k * 3, none⟩ = some (.int .i64 ((fd cs n k).2 : Nat)) ∧ w.cell? ⟨g, k * 3 + 1, none⟩ = some (.bool ((fd cs n k).1 != 0)) ∧ w.cell? ⟨g, k * 3 + 2, none⟩ = some (.bool ((fd cs n k).1 == 2))) ∧ (∀ k, w.frozen? ⟨g, k, none⟩ = false) ∧ ∃ cur, w.heap[g]? = some (.cells cur 91 (0, 0))) := by
  have hty := fun g hg => (h.fields n hn).type (g := g) hg
  obtain ⟨ys, r1, r2, r3⟩ := h.fields n hn
  have r0 := r1
  rcases r1.2 with ⟨e0, h0⟩ | ⟨g, cap, cur, e1, _, e3, _⟩
  · exact ⟨none, 0, by rw [e0, h0], fun hp => by omega⟩
  · rw [e1] at r0 r3 hty
    obtain ⟨_, cur', hc⟩ := hty g rfl
    refine ⟨_, cap, e1, fun _ => ⟨g, rfl, r3 g rfl, blocks_ne hc h.block (by decide), (Array.getElem?_eq_some_iff.1 e3).1, by rw [e1]; rfl, fun k hk => ?_, fun k => r0.frozenAt k, cur', hc⟩⟩
    have hfd : fd cs n k = (cl cs n).fs[k] := by
      unfold fd
      rw [List.getElem?_eq_getElem hk]
      rfl
    rw [hfd, r0.cellAt _ (by omega), r0.cellAt _ (by omega), r0.cellAt _ (by omega)]
    exact r2 k hk
theorem RI.fieldNe {S : Nat → Prop} {r : Nat} {cs : List Cl} {ns : List Nat} {vc vn : Value} {fv : Nat → Value} {w : World} (h : RI S r cs ns vc vn fv w) {g g' i : Nat} (hi : i < cs.length) (hv : vc.ownBlock = some g) (hf : (fv i).ownBlock = some g') : g ≠ g' := by
  obtain ⟨_, c1, h1⟩ := h.cells.type hv
  obtain ⟨_, c2, h2⟩ := (h.fields i hi).type hf
  exact blocks_ne h1 h2 (by decide)
/-- A store into a cell. -/
theorem RI.store {S : Nat → Prop} {r : Nat} {cs : List Cl} {ns : List Nat} {vn : Value} {g cap : Nat} {fv : Nat → Value} {w : World} (h : RI S r cs ns (.slice (some ⟨g, 0, none⟩) cs.length cap) vn fv w) {n k : Nat} {c : Cl} {u : Value} (hn : n < cs.length) (hk : k < 5) (hf : c.fs = (cl cs n).fs)
    (hp : ∀ i j, i < cs.length → j < 5 → rcv (cs.set n c) fv i j = if i = n ∧ j = k then u else rcv cs fv i j) : RI S r (cs.set n c) ns (.slice (some ⟨g, 0, none⟩) cs.length cap) vn fv (w.setCell ⟨g, n * 5 + k, none⟩ u) := by
  have hl : (cs.set n c).length = cs.length := List.length_set ..
  have hgr : g ≠ r := by
    obtain ⟨_, cur, hc⟩ := h.cells.type (g := g) rfl
    exact blocks_ne hc h.block (by decide)
  have hnt : ∀ g', vn.ownBlock = some g' → g' ≠ g := fun g' e => by
    obtain ⟨_, cur, hc⟩ := h.cells.type (g := g) rfl
    obtain ⟨_, cur', hc'⟩ := h.notes.type e
    exact blocks_ne hc' hc (by decide)
  have hfn : ∀ i g', i < cs.length → (fv i).ownBlock = some g' → g' ≠ g := fun i g' hi e => (h.fieldNe hi (g := g) rfl e).symm
  obtain ⟨xs, r1, r2, r3⟩ := h.cells
  obtain ⟨q1, q2⟩ := r1.stored (n * 5 + k) u
  have hfs : ∀ i, (cl (cs.set n c) i).fs = (cl cs i).fs := fun i => by
    rw [cl_set _ _ _ _ hn]
    split
    · rename_i e
      rw [e, hf]
    · rfl
  refine ⟨h.base, (Below.heap_setCell w ⟨g, n * 5 + k, none⟩ u r hgr.symm).trans h.block, ⟨xs.set (n * 5 + k) u, by rw [hl]; exact q1, fun i j hi hj => ?_, r3⟩, fun i hi => ?_, fun i j g' hi hj => h.apart i j g' (by rw [hl] at hi; exact hi) (by rw [hl] at hj; exact hj), h.notes.move fun g' a _ e => ⟨Below.heap_setCell w ⟨g, n * 5 + k, none⟩ u g' (hnt g' e), a⟩⟩
  · rw [hl] at hi
    rw [hp i j hi hj, List.getElem?_set]
    have hlen : i * 5 + j < xs.length := by
      rw [r1.1]
      omega
    by_cases hc : i = n ∧ j = k
    · obtain ⟨rfl, rfl⟩ := hc
      simp [hlen]
    · by_cases he : n * 5 + k = i * 5 + j
      · exact absurd ⟨by omega, by omega⟩ hc
      · rw [if_neg hc, if_neg he]
        exact r2 i j hi hj
  · rw [hl] at hi
    rw [hfs i]
    exact (h.fields i hi).move fun g' a _ e => ⟨Below.heap_setCell w ⟨g, n * 5 + k, none⟩ u g' (hfn i g' hi e), a⟩
/-- A field is written. -/
theorem RI.storeF {S : Nat → Prop} {r : Nat} {cs : List Cl} {ns : List Nat} {vc vn : Value} {fv : Nat → Value} {w : World} (h : RI S r cs ns vc vn fv w) {g n k : Nat} (hn : n < cs.length) (hk : k < (cl cs n).fs.length) (hv : (fv n).ownBlock = some g) (v : Nat × Nat) :
    RI S r (setF cs n k v) ns vc vn fv (((w.setCell ⟨g, k * 3, none⟩ (.int .i64 (v.2 : Nat))).setCell ⟨g, k * 3 + 1, none⟩ (.bool (v.1 != 0))).setCell ⟨g, k * 3 + 2, none⟩ (.bool (v.1 == 2))) := by
  have hl : (setF cs n k v).length = cs.length := setF_length _ _ _ _
  have hkeep : ∀ g', g' ≠ g → (((w.setCell ⟨g, k * 3, none⟩ (.int .i64 (v.2 : Nat))).setCell ⟨g, k * 3 + 1, none⟩ (.bool (v.1 != 0))).setCell ⟨g, k * 3 + 2, none⟩ (.bool (v.1 == 2))).heap[g']? = w.heap[g']? := fun g' e => by
    rw [Below.heap_setCell _ _ _ _ e, Below.heap_setCell _ _ _ _ e, Below.heap_setCell _ _ _ _ e]
  obtain ⟨_, cur, hcur⟩ := (h.fields n hn).type hv
  have hr : r ≠ g := (blocks_ne hcur h.block (by decide)).symm
  have hnt : ∀ g', vn.ownBlock = some g' → g' ≠ g := fun g' e => by
    obtain ⟨_, cur', hc'⟩ := h.notes.type e
    exact blocks_ne hc' hcur (by decide)
  have hvc : ∀ g', vc.ownBlock = some g' → g' ≠ g := fun g' e => h.fieldNe hn e hv
  have hrcv : ∀ i j, rcv (setF cs n k v) fv i j = rcv cs fv i j := fun i j => by
    have := setF_keeps cs n k i v hn
    unfold rcv
    rw [this.1, this.2.1, this.2.2.1, this.2.2.2.1]
  have hcells := h.cells.move (S' := S) (w' := ((w.setCell ⟨g, k * 3, none⟩ (.int .i64 (v.2 : Nat))).setCell ⟨g, k * 3 + 1, none⟩ (.bool (v.1 != 0))).setCell ⟨g, k * 3 + 2, none⟩ (.bool (v.1 == 2))) fun g' a _ e => ⟨hkeep g' (hvc g' e), a⟩
  refine ⟨h.base, (hkeep r hr).trans h.block, ?_, fun i hi => ?_, fun i j g' hi hj => h.apart i j g' (by rw [hl] at hi; exact hi) (by rw [hl] at hj; exact hj), h.notes.move fun g' a _ e => ⟨hkeep g' (hnt g' e), a⟩⟩
  · obtain ⟨xs, x1, x2, x3⟩ := hcells
    exact ⟨xs, by rw [hl]; exact x1, fun i j hi hj => by rw [hrcv]; exact x2 i j (by rw [hl] at hi; exact hi) hj, x3⟩
  · rw [hl] at hi
    rw [cl_setF cs n k i v hn]
    by_cases hin : i = n
    · subst hin
      rw [if_pos rfl]
      obtain ⟨ys, y1, y2, y3⟩ := h.fields i hi
      rcases y1.2 with ⟨e0, h0⟩ | ⟨g1, cap, cur1, e1, _⟩
      · rw [e0] at hv
        simp [Value.ownBlock] at hv
      · have e2 : g1 = g := by
          rw [e1] at hv
          simpa [Value.ownBlock] using hv
        subst e2
        rw [e1] at y1 y3 ⊢
        have s1 := (y1.stored (k * 3) (.int .i64 (v.2 : Nat))).1
        have s2 := (s1.stored (k * 3 + 1) (.bool (v.1 != 0))).1
        have s3 := (s2.stored (k * 3 + 2) (.bool (v.1 == 2))).1
        have hyl := y1.1
        refine ⟨_, by rw [List.length_set]; exact s3, fun m hm => ?_, y3⟩
        dsimp only at hm ⊢
        rw [List.length_set] at hm
        have hy := y2 m hm
        rw [List.getElem_set]
        simp only [List.getElem?_set, List.length_set]
        by_cases hmk : k = m
        · subst hmk
          have l1 : k * 3 < ys.length := by omega
          have l2 : k * 3 + 1 < ys.length := by omega
          have l3 : k * 3 + 2 < ys.length := by omega
          simp [l1, l2, l3]
        · rw [if_neg hmk]
          rw [if_neg (by omega), if_neg (by omega), if_neg (by omega), if_neg (by omega), if_neg (by omega), if_neg (by omega), if_neg (by omega), if_neg (by omega), if_neg (by omega)]
          exact hy
    · rw [if_neg hin]
      exact (h.fields i hi).move fun g' a _ e => ⟨hkeep g' (fun e' => hin (h.apart i n g hi hn (by rw [← e']; exact e) hv)), a⟩
/-- The notes are other ones. -/
theorem RI.renote {S : Nat → Prop} {r : Nat} {cs : List Cl} {ns l : List Nat} {vc vn : Value} {fv : Nat → Value} {w : World} (h : RI S r cs ns vc vn fv w) {v : Value} (hv : Rn S v l w) : RI S r cs l vc v fv (w.setCell ⟨r, 1, none⟩ v) := by
  have hkeep : ∀ g', g' ≠ r → (w.setCell ⟨r, 1, none⟩ v).heap[g']? = w.heap[g']? := fun g' e => Below.heap_setCell _ _ _ _ e
  refine ⟨h.base, heap_setCell_same w r 1 _ _ _ h.block, h.cells.move fun g' a _ e => ⟨hkeep g' ?_, a⟩, fun i hi => (h.fields i hi).move fun g' a _ e => ⟨hkeep g' ?_, a⟩, h.apart, hv.move fun g' a _ e => ⟨hkeep g' ?_, a⟩⟩
  · obtain ⟨_, cur, hc⟩ := h.cells.type e
    exact blocks_ne hc h.block (by decide)
  · obtain ⟨_, cur, hc⟩ := (h.fields i hi).type e
    exact blocks_ne hc h.block (by decide)
  · obtain ⟨_, cur, hc⟩ := hv.type e
    exact blocks_ne hc h.block (by decide)
/-- A row of numbers has grown. -/
theorem RI.grown {S : Nat → Prop} {r : Nat} {cs : List Cl} {ns : List Nat} {vc vn : Value} {fv : Nat → Value} {w w1 : World} (h : RI S r cs ns vc vn fv w) (hg : w.grownBy w1 vn.ownBlock) {v : Value} {l : List Nat} (hv : Rn (New S w.heap.size) v l w1) : RI (New S w.heap.size) r cs l vc v fv (w1.setCell ⟨r, 1, none⟩ v) := by
  have hb := fun g (hl : g < w.heap.size) (hne : some g ≠ vn.ownBlock) => hg.block g hl hne
  have hty : ∀ g', vn.ownBlock = some g' → ∃ cur, w.heap[g']? = some (.cells cur 3 (0, 0)) := fun g' e => (h.notes.type e).2
  have hne : ∀ {g : Nat} {c : Array Value} {T : TypeId} {f : Nat × Nat}, w.heap[g]? = some (.cells c T f) → T ≠ 3 → some g ≠ vn.ownBlock := fun hc hT e => by
    obtain ⟨cur, hc'⟩ := hty _ e.symm
    exact blocks_ne hc hc' hT rfl
  have hrl := (Array.getElem?_eq_some_iff.1 h.block).1
  have h1 : RI (New S w.heap.size) r cs l vc v fv (w1.setCell ⟨r, 1, none⟩ v) := by
    have hblk : w1.heap[r]? = w.heap[r]? := hb r hrl (hne h.block (by decide))
    have hkeep : ∀ g', g' ≠ r → (w1.setCell ⟨r, 1, none⟩ v).heap[g']? = w1.heap[g']? := fun g' e => Below.heap_setCell _ _ _ _ e
    refine ⟨Or.inl h.base, heap_setCell_same w1 r 1 _ _ _ (hblk.trans h.block), h.cells.move fun g' a c e => ⟨?_, Or.inl a⟩, fun i hi => (h.fields i hi).move fun g' a c e => ⟨?_, Or.inl a⟩, h.apart, hv.move fun g' a _ e => ⟨hkeep g' ?_, a⟩⟩
    · obtain ⟨_, cur, hc⟩ := h.cells.type e
      exact (hkeep g' (blocks_ne hc h.block (by decide))).trans (hb g' c (hne hc (by decide)))
    · obtain ⟨_, cur, hc⟩ := (h.fields i hi).type e
      exact (hkeep g' (blocks_ne hc h.block (by decide))).trans (hb g' c (hne hc (by decide)))
    · obtain ⟨_, cur, hc⟩ := hv.type e
      exact blocks_ne hc (hblk.trans h.block) (by decide)
  exact h1
/-- A note more. -/
theorem at_rnote {S : Nat → Prop} {r : Nat} {cs : List Cl} {ns : List Nat} {vc vn : Value} {fv : Nat → Value} {w : World} (h : RI S r cs ns vc vn fv w) (x : Nat) (hl : ns.length ≤ 1000000) (H : Nat) (hH : w.heap.size = H) :
    ∃ ao m c w', (Builtin.append_ #[28, 28] 28 #[vn, .slice (some ⟨H, 0, none⟩) 1 1]).run Try.prog (w.alloc (.cells #[.int .i64 (x : Nat)] 3)) = .ok (.slice ao m c) w' ∧ w'.cell? ⟨r, 1, none⟩ = some vn ∧ w'.frozen? ⟨r, 1, none⟩ = false ∧
      RS (New S w.heap.size) r cs (ns ++ [x]) (w'.setCell ⟨r, 1, none⟩ (.slice ao m c)) ∧ Kp S w (w'.setCell ⟨r, 1, none⟩ (.slice ao m c)) := by
  subst hH
  have ha : RI S r cs ns vc vn fv (w.alloc (.cells #[.int .i64 (x : Nat)] 3)) := h.move fun g a c => ⟨Below.heap_alloc w _ g c, a⟩
  obtain ⟨v', w', hr, hn, hg⟩ := rn_append S vn ns x _ ha.notes ⟨w.heap.size, 0, none⟩ 1 (by simp [World.cell?_alloc_new]) hl
  obtain ⟨ao, c, rfl⟩ := hn.form
  have hne : some r ≠ vn.ownBlock := fun e => ha.notes.ne ha.block (by decide) e.symm rfl
  have hlt := (Array.getElem?_eq_some_iff.1 ha.block).1
  have hb1 := hg.block r hlt hne
  have q1 := ha.grown hg hn
  refine ⟨ao, _, c, w', hr, (World.cell?_of_block (a := ⟨r, 1, none⟩) hb1).trans (by simp [World.cell?, ha.block]), (World.frozen?_of_block (a := ⟨r, 1, none⟩) hb1).trans (by simp [World.frozen?, ha.block]), ⟨vc, _, fv, q1.move fun g a c => ⟨rfl, a.elim Or.inl fun a => Or.inr (by simp at a; omega)⟩⟩, ?_⟩
  exact (((Kp.refl S w).alloc _).grown hg fun k e _ => (ha.notes.type e).1).set (Or.inl h.base) _

end Go.Proofs.Ytpedaompcjaahaa
