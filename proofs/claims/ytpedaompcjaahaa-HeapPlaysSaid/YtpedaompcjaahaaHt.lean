/-
  The program's heap in memory: its cells, its state, what a store leaves. Conditions: none.
-/
import Derived.Test.YtpedaompcjaahaaHs
namespace Go.Proofs.Ytpedaompcjaahaa
open Go.RowKit

/-- The j-th of the 22 places of the i-th cell. -/
def pcv (cs : List Cl) (ct : Nat → Int) (i j : Nat) : Value :=
  if j < 16 then (if j % 2 = 0 then .int .i64 ((fd cs i (j / 2)).1 : Nat) else .int .i64 ((fd cs i (j / 2)).2 : Nat))
  else if j = 16 then .int .i64 ((cl cs i).fs.length : Nat) else if j = 17 then .bool (cl cs i).wt else if j = 18 then .bool (cl cs i).td else if j = 19 then .bool (cl cs i).en
  else if j = 20 then .int .i64 ((cl cs i).rt : Nat) else .int .i64 (ct i)
theorem pcv_kind (cs : List Cl) (ct : Nat → Int) (i k : Nat) (h : k < 8) : pcv cs ct i (k * 2) = .int .i64 ((fd cs i k).1 : Nat) := by
  unfold pcv
  rw [if_pos (by omega), if_pos (by omega), show k * 2 / 2 = k by omega]
theorem pcv_to (cs : List Cl) (ct : Nat → Int) (i k : Nat) (h : k < 8) : pcv cs ct i (k * 2 + 1) = .int .i64 ((fd cs i k).2 : Nat) := by
  unfold pcv
  rw [if_pos (by omega), if_neg (by omega), show (k * 2 + 1) / 2 = k by omega]
theorem pcv_other {cs cs' : List Cl} {ct ct' : Nat → Int} {i j : Nat} (hf : ∀ k, fd cs' i k = fd cs i k) (h1 : (cl cs' i).fs.length = (cl cs i).fs.length) (h2 : (cl cs' i).wt = (cl cs i).wt) (h3 : (cl cs' i).td = (cl cs i).td) (h4 : (cl cs' i).en = (cl cs i).en) (h5 : (cl cs' i).rt = (cl cs i).rt) (h6 : ct' i = ct i) : pcv cs' ct' i j = pcv cs ct i j := by
  unfold pcv
  rw [hf, h1, h2, h3, h4, h5, h6]

def Rc (S : Nat → Prop) (v : Value) (cs : List Cl) (ct : Nat → Int) (w : World) : Prop :=
  ∃ xs, w.ownsRow 0 85 22 v cs.length xs ∧ (∀ i j, i < cs.length → j < 22 → xs[i * 22 + j]? = some (pcv cs ct i j)) ∧ ∀ g, v.ownBlock = some g → S g
/-- The heap in block b: its locks' words, cells, what they count, notes. -/
def St (S : Nat → Prop) (b : Nat) (s1 s2 : Int) (cs : List Cl) (ct : Nat → Int) (ns : List Nat) (w : World) : Prop :=
  S b ∧ ∃ vc vn, w.heap[b]? = some (.cells #[.int .i32 s1, .int .u32 0, .int .i32 s2, .int .u32 0, vc, vn] 72 (0, 0)) ∧ Rc S vc cs ct w ∧ Rn S vn ns w

theorem Rc.form {S : Nat → Prop} {v : Value} {cs : List Cl} {ct : Nat → Int} {w : World} (h : Rc S v cs ct w) : ∃ ao cap, v = .slice ao cs.length cap := by
  obtain ⟨xs, h1, _⟩ := h
  rcases h1.2 with ⟨h2, h3⟩ | ⟨g, cap, cur, h2, _⟩
  · exact ⟨none, 0, by rw [h2, h3]⟩
  · exact ⟨_, _, h2⟩
theorem row_keep {w w' : World} {W0 : Nat} {E : TypeId} {size n : Nat} {v : Value} {xs : List Value} (h : w.ownsRow W0 E size v n xs) (hb : ∀ g, v.ownBlock = some g → w'.heap[g]? = w.heap[g]?) : w'.ownsRow W0 E size v n xs := by
  refine ⟨h.1, ?_⟩
  rcases h.2 with h0 | ⟨g, cap, cur, h0, h1, hg, h2⟩
  · exact .inl h0
  · exact .inr ⟨g, cap, cur, h0, h1, (hb g (by rw [h0]; rfl)).trans hg, h2⟩
theorem row_type {w : World} {W0 : Nat} {E : TypeId} {size n : Nat} {v : Value} {xs : List Value} (h : w.ownsRow W0 E size v n xs) {g : Nat} (hv : v.ownBlock = some g) : ∃ cur, w.heap[g]? = some (.cells cur E (0, 0)) := by
  rcases h.2 with ⟨h0, _⟩ | ⟨g', cap, cur, h0, _, hg, _⟩
  · rw [h0] at hv
    simp [Value.ownBlock] at hv
  · rw [h0] at hv
    simp only [Value.ownBlock, Option.some.injEq] at hv
    subst hv
    exact ⟨cur, hg⟩
theorem Rc.move {S S' : Nat → Prop} {v : Value} {cs : List Cl} {ct : Nat → Int} {w w' : World} (h : Rc S v cs ct w) (hk : ∀ g, S g → g < w.heap.size → v.ownBlock = some g → w'.heap[g]? = w.heap[g]? ∧ S' g) : Rc S' v cs ct w' := by
  obtain ⟨xs, h1, h2, h3⟩ := h
  have hlt : ∀ g, v.ownBlock = some g → g < w.heap.size := fun g hg => by
    obtain ⟨cur, hc⟩ := row_type h1 hg
    exact (Array.getElem?_eq_some_iff.1 hc).1
  exact ⟨xs, row_keep h1 fun g hg => (hk g (h3 g hg) (hlt g hg) hg).1, h2, fun g hg => (hk g (h3 g hg) (hlt g hg) hg).2⟩
/-- The cells again, counted or called otherwise. -/
theorem Rc.re {S : Nat → Prop} {v : Value} {cs cs' : List Cl} {ct ct' : Nat → Int} {w : World} (h : Rc S v cs ct w) (hl : cs'.length = cs.length) (hp : ∀ i j, i < cs.length → j < 22 → pcv cs' ct' i j = pcv cs ct i j) : Rc S v cs' ct' w := by
  obtain ⟨xs, h1, h2, h3⟩ := h
  exact ⟨xs, by rw [hl]; exact h1, fun i j hi hj => by rw [h2 i j (by omega) hj, hp i j (by omega) hj], h3⟩
theorem blocks_ne {w : World} {g b : Nat} {c c' : Array Value} {T T' : TypeId} {f f' : Nat × Nat} (h : w.heap[g]? = some (.cells c T f)) (h' : w.heap[b]? = some (.cells c' T' f')) (hT : T ≠ T') : g ≠ b := by
  rintro rfl
  rw [h] at h'
  simp only [Option.some.injEq, Obj.cells.injEq] at h'
  exact hT h'.2.1
theorem Rc.ne {S : Nat → Prop} {v : Value} {cs : List Cl} {ct : Nat → Int} {w : World} (h : Rc S v cs ct w) {b : Nat} {c' : Array Value} {T' : TypeId} {f' : Nat × Nat} (h' : w.heap[b]? = some (.cells c' T' f')) (hT : 85 ≠ T') {g : Nat} (hv : v.ownBlock = some g) : g ≠ b := by
  obtain ⟨xs, h1, _⟩ := h
  obtain ⟨cur, hc⟩ := row_type h1 hv
  exact blocks_ne hc h' hT
theorem Rn.ne {S : Nat → Prop} {v : Value} {l : List Nat} {w : World} (h : Rn S v l w) {b : Nat} {c' : Array Value} {T' : TypeId} {f' : Nat × Nat} (h' : w.heap[b]? = some (.cells c' T' f')) (hT : 3 ≠ T') {g : Nat} (hv : v.ownBlock = some g) : g ≠ b := by
  obtain ⟨_, cur, hc⟩ := h.type hv
  exact blocks_ne hc h' hT
theorem Rc.nr {S S' : Nat → Prop} {v u : Value} {cs : List Cl} {ct : Nat → Int} {l : List Nat} {w : World} (h : Rc S v cs ct w) (k : Rn S' u l w) {g g' : Nat} (hv : v.ownBlock = some g) (hu : u.ownBlock = some g') : g ≠ g' := by
  obtain ⟨xs, h1, _⟩ := h
  obtain ⟨cur, hc⟩ := row_type h1 hv
  obtain ⟨_, cur', hc'⟩ := k.type hu
  exact blocks_ne hc hc' (by decide)
theorem St.move {S S' : Nat → Prop} {b : Nat} {s1 s2 : Int} {cs : List Cl} {ct : Nat → Int} {ns : List Nat} {w w' : World} (h : St S b s1 s2 cs ct ns w) (hk : ∀ g, S g → g < w.heap.size → w'.heap[g]? = w.heap[g]? ∧ S' g) : St S' b s1 s2 cs ct ns w' := by
  obtain ⟨hb, vc, vn, h1, h2, h3⟩ := h
  have := hk b hb (Array.getElem?_eq_some_iff.1 h1).1
  exact ⟨this.2, vc, vn, this.1.trans h1, h2.move fun g a c _ => hk g a c, h3.move fun g a c _ => hk g a c⟩
theorem St.wide {S S' : Nat → Prop} {b : Nat} {s1 s2 : Int} {cs : List Cl} {ct : Nat → Int} {ns : List Nat} {w : World} (h : St S b s1 s2 cs ct ns w) (hS : ∀ g, S g → g < w.heap.size → S' g) : St S' b s1 s2 cs ct ns w := h.move fun g a c => ⟨rfl, hS g a c⟩
theorem St.later {S S' : Nat → Prop} {b : Nat} {s1 s2 : Int} {cs : List Cl} {ct : Nat → Int} {ns : List Nat} {w w' : World} (h : St S b s1 s2 cs ct ns w) (hk : Kp S' w w') (hS : ∀ g, S g → ¬ S' g) : St S b s1 s2 cs ct ns w' := h.move fun g a c => ⟨hk.block g c (hS g a), a⟩
theorem St.re {S : Nat → Prop} {b : Nat} {s1 s2 : Int} {cs cs' : List Cl} {ct ct' : Nat → Int} {ns : List Nat} {w : World} (h : St S b s1 s2 cs ct ns w) (hl : cs'.length = cs.length) (hp : ∀ i j, i < cs.length → j < 22 → pcv cs' ct' i j = pcv cs ct i j) : St S b s1 s2 cs' ct' ns w := by
  obtain ⟨hb, vc, vn, h1, h2, h3⟩ := h
  exact ⟨hb, vc, vn, h1, h2.re hl hp, h3⟩
/-- What a walk wants of the state. -/
theorem St.open {S : Nat → Prop} {b : Nat} {s1 s2 : Int} {cs : List Cl} {ct : Nat → Int} {ns : List Nat} {w : World} (h : St S b s1 s2 cs ct ns w) : ∃ vc vn, w.cell? ⟨b, 0, none⟩ = some (.int .i32 s1) ∧ w.cell? ⟨b, 2, none⟩ = some (.int .i32 s2) ∧ w.cell? ⟨b, 4, none⟩ = some vc ∧ w.cell? ⟨b, 5, none⟩ = some vn ∧ (∀ k, w.frozen? ⟨b, k, none⟩ = false) ∧ b < w.heap.size ∧ S b ∧ Rc S vc cs ct w ∧ Rn S vn ns w := by
  obtain ⟨hb, vc, vn, h1, h2, h3⟩ := h
  exact ⟨vc, vn, by simp [World.cell?, h1], by simp [World.cell?, h1], by simp [World.cell?, h1], by simp [World.cell?, h1], fun k => by simp [World.frozen?, h1], (Array.getElem?_eq_some_iff.1 h1).1, hb, h2, h3⟩
/-- What a walk wants of the cells, where there is one. -/
theorem St.cell {S : Nat → Prop} {b : Nat} {s1 s2 : Int} {cs : List Cl} {ct : Nat → Int} {ns : List Nat} {w : World} (h : St S b s1 s2 cs ct ns w) {n : Nat} (hn : n < cs.length) : ∃ g cap, w.cell? ⟨b, 4, none⟩ = some (.slice (some ⟨g, 0, none⟩) cs.length cap) ∧ S g ∧ g ≠ b ∧ g < w.heap.size ∧ (∀ i j, i < cs.length → j < 22 → w.cell? ⟨g, i * 22 + j, none⟩ = some (pcv cs ct i j)) ∧ ∀ k, w.frozen? ⟨g, k, none⟩ = false := by
  obtain ⟨hb, vc, vn, h1, h2, h3⟩ := h
  have hne := fun g hg => h2.ne h1 (by decide) (g := g) hg
  obtain ⟨xs, r1, r2, r3⟩ := h2
  have r0 := r1
  rcases r1.2 with ⟨_, h0⟩ | ⟨g, cap, cur, e1, _, e3, _⟩
  · omega
  · subst e1
    refine ⟨g, cap, by simp [World.cell?, h1], r3 g rfl, hne g rfl, (Array.getElem?_eq_some_iff.1 e3).1, fun i j hi hj => ?_, fun k => r0.frozenAt k⟩
    rw [r0.cellAt _ (by have : i * 22 + 22 ≤ cs.length * 22 := by omega
                        omega)]
    exact r2 i j hi hj
/-- A store into a cell. -/
theorem St.store {S : Nat → Prop} {b : Nat} {s1 s2 : Int} {cs cs' : List Cl} {ct ct' : Nat → Int} {ns : List Nat} {w : World} (h : St S b s1 s2 cs ct ns w) {g cap : Nat} (hg : w.cell? ⟨b, 4, none⟩ = some (.slice (some ⟨g, 0, none⟩) cs.length cap)) {n k : Nat} {u : Value} (hk : k < 22)
    (hl : cs'.length = cs.length) (hp : ∀ i j, i < cs.length → j < 22 → pcv cs' ct' i j = if i = n ∧ j = k then u else pcv cs ct i j) : St S b s1 s2 cs' ct' ns (w.setCell ⟨g, n * 22 + k, none⟩ u) := by
  obtain ⟨hb, vc, vn, h1, h2, h3⟩ := h
  have e : vc = .slice (some ⟨g, 0, none⟩) cs.length cap := by
    have : w.cell? ⟨b, 4, none⟩ = some vc := by simp [World.cell?, h1]
    rw [this] at hg
    exact Option.some.inj hg
  subst e
  have hne := h2.ne h1 (by decide) (g := g) rfl
  have hnr : ∀ g', vn.ownBlock = some g' → g' ≠ g := fun g' e => (h2.nr h3 (g := g) rfl e).symm
  obtain ⟨xs, r1, r2, r3⟩ := h2
  obtain ⟨q1, q2⟩ := r1.stored (n * 22 + k) u
  refine ⟨hb, _, vn, (Below.heap_setCell w ⟨g, n * 22 + k, none⟩ u b hne.symm).trans h1, ⟨xs.set (n * 22 + k) u, by rw [hl]; exact q1, fun i j hi hj => ?_, r3⟩, h3.move fun g' a c e => ⟨Below.heap_setCell w ⟨g, n * 22 + k, none⟩ u g' (hnr g' e), a⟩⟩
  rw [hl] at hi
  rw [hp i j hi hj, List.getElem?_set]
  have hlen : i * 22 + j < xs.length := by
    rw [r1.1]
    omega
  by_cases hc : i = n ∧ j = k
  · obtain ⟨rfl, rfl⟩ := hc
    simp [hlen]
  · rw [if_neg hc, if_neg (by omega)]
    exact r2 i j hi hj
/-- A word of a lock is written. -/
theorem St.lock1 {S : Nat → Prop} {b : Nat} {s1 s2 : Int} {cs : List Cl} {ct : Nat → Int} {ns : List Nat} {w : World} (h : St S b s1 s2 cs ct ns w) (s : Int) : St S b s s2 cs ct ns (w.setCell ⟨b, 0, none⟩ (.int .i32 s)) := by
  obtain ⟨hb, vc, vn, h1, h2, h3⟩ := h
  refine ⟨hb, vc, vn, heap_setCell_same w b 0 _ _ _ h1, h2.move fun g a _ e => ⟨Below.heap_setCell w ⟨b, 0, none⟩ _ g (h2.ne h1 (by decide) e), a⟩, h3.move fun g a _ e => ⟨Below.heap_setCell w ⟨b, 0, none⟩ _ g (h3.ne h1 (by decide) e), a⟩⟩
theorem St.lock2 {S : Nat → Prop} {b : Nat} {s1 s2 : Int} {cs : List Cl} {ct : Nat → Int} {ns : List Nat} {w : World} (h : St S b s1 s2 cs ct ns w) (s : Int) : St S b s1 s cs ct ns (w.setCell ⟨b, 2, none⟩ (.int .i32 s)) := by
  obtain ⟨hb, vc, vn, h1, h2, h3⟩ := h
  refine ⟨hb, vc, vn, heap_setCell_same w b 2 _ _ _ h1, h2.move fun g a _ e => ⟨Below.heap_setCell w ⟨b, 2, none⟩ _ g (h2.ne h1 (by decide) e), a⟩, h3.move fun g a _ e => ⟨Below.heap_setCell w ⟨b, 2, none⟩ _ g (h3.ne h1 (by decide) e), a⟩⟩
/-- The notes are other ones. -/
theorem St.notes {S : Nat → Prop} {b : Nat} {s1 s2 : Int} {cs : List Cl} {ct : Nat → Int} {ns l : List Nat} {w : World} (h : St S b s1 s2 cs ct ns w) {v : Value} (hv : Rn S v l w) : St S b s1 s2 cs ct l (w.setCell ⟨b, 5, none⟩ v) := by
  obtain ⟨hb, vc, vn, h1, h2, h3⟩ := h
  refine ⟨hb, vc, v, heap_setCell_same w b 5 _ _ _ h1, h2.move fun g a _ e => ⟨Below.heap_setCell w ⟨b, 5, none⟩ _ g (h2.ne h1 (by decide) e), a⟩, hv.move fun g a _ e => ⟨Below.heap_setCell w ⟨b, 5, none⟩ _ g (hv.ne h1 (by decide) e), a⟩⟩
/-- A number more has been noted: the row has grown, and the state has been told. -/
theorem St.noted {S : Nat → Prop} {b : Nat} {s1 s2 : Int} {cs : List Cl} {ct : Nat → Int} {ns l : List Nat} {w w1 : World} (h : St S b s1 s2 cs ct ns w) {vn v : Value} (hc : w.cell? ⟨b, 5, none⟩ = some vn) (hg : w.grownBy w1 vn.ownBlock) (hv : Rn (New S w.heap.size) v l w1) : St (New S w.heap.size) b s1 s2 cs ct l (w1.setCell ⟨b, 5, none⟩ v) ∧ Kp S w (w1.setCell ⟨b, 5, none⟩ v) := by
  obtain ⟨hb, vc, vn', h1, h2, h3⟩ := h
  have e : vn' = vn := by
    have : w.cell? ⟨b, 5, none⟩ = some vn' := by simp [World.cell?, h1]
    rw [this] at hc
    exact Option.some.inj hc
  subst e
  have hb1 : w1.heap[b]? = w.heap[b]? := hg.block b (Array.getElem?_eq_some_iff.1 h1).1 (fun e => h3.ne h1 (by decide) e.symm rfl)
  have h0 : St (New S w.heap.size) b s1 s2 cs ct l (w1.setCell ⟨b, 5, none⟩ v) := by
    refine ⟨Or.inl hb, vc, v, heap_setCell_same w1 b 5 _ _ _ (hb1.trans h1), ?_, ?_⟩
    · exact h2.move fun g a c e => ⟨(Below.heap_setCell w1 ⟨b, 5, none⟩ _ g (h2.ne h1 (by decide) e)).trans (hg.block g c (fun e' => h2.nr h3 e e'.symm rfl)), Or.inl a⟩
    · exact hv.move fun g a _ e => ⟨Below.heap_setCell w1 ⟨b, 5, none⟩ _ g (hv.ne (hb1.trans h1) (by decide) e), a⟩
  exact ⟨h0, ((Kp.refl S w).grown hg fun k e _ => (h3.type e).1).set (Or.inl hb) v⟩

end Go.Proofs.Ytpedaompcjaahaa
