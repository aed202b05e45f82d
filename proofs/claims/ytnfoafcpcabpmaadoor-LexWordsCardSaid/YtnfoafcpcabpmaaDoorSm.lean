/-
  A scanner of the call's own: what its block holds; a map of numbers. Conditions: none beside those stated.
-/
import Derived.Test.YtnfoafcpcabpmaaDoorLc
import Derived.Maps.Own
namespace Go.Proofs.YtnfoafcpcabpmaaDoor
open Go.RowKit Go.MapKept Go.ChangeMaps

/-- A map of numbers in block M: its pairs, in their order. -/
def IMap (M : Nat) (l : List (Nat × Nat)) (w : World) : Prop :=
  ∃ es clock, w.heap[M]? = some (.map es clock) ∧ es.toList.map (fun e => (e.key, e.val)) = l.map (fun p => (Value.int .i64 (p.1 : Int), Value.int .i64 (p.2 : Int)))
def resL (l : List (Nat × Nat)) (n : Nat) : Option Nat := (l.find? (fun p => p.1 == n)).map (·.2)
theorem IMap.block {M : Nat} {l : List (Nat × Nat)} {w w' : World} (h : IMap M l w) (hb : w'.heap[M]? = w.heap[M]?) : IMap M l w' := by
  obtain ⟨es, cl, h1, h2⟩ := h
  exact ⟨es, cl, hb.trans h1, h2⟩
theorem IMap.lt {M : Nat} {l : List (Nat × Nat)} {w : World} (h : IMap M l w) : M < w.heap.size := by
  obtain ⟨es, cl, h1, _⟩ := h
  exact (Array.getElem?_eq_some_iff.1 h1).1
theorem IMap.made (w : World) : IMap w.heap.size [] (w.alloc (.map #[] 0)) := ⟨#[], 0, (heap_alloc w _).1, rfl⟩
theorem findI (n : Nat) : ∀ (es : List MapEntry) (l : List (Nat × Nat)) (j : Nat), es.map (fun e => (e.key, e.val)) = l.map (fun p => (Value.int .i64 (p.1 : Int), Value.int .i64 (p.2 : Int))) →
    (resL l n = none ∧ Instr.findNow (.int .i64) (.int .i64 (n : Int)) es j = some none) ∨ (∃ v i, resL l n = some v ∧ Instr.findNow (.int .i64) (.int .i64 (n : Int)) es j = some (some (i, .int .i64 (v : Int))))
  | [], [], j, _ => .inl ⟨rfl, rfl⟩
  | [], p :: l, j, h => by cases h
  | e :: es, [], j, h => by cases h
  | e :: es, p :: l, j, h => by
    simp only [List.map_cons, List.cons.injEq, Prod.mk.injEq] at h
    obtain ⟨⟨h1, h2⟩, h3⟩ := h
    unfold Instr.findNow
    rw [h1]
    by_cases hp : p.1 = n
    · refine .inr ⟨p.2, j, ?_, ?_⟩
      · unfold resL
        simp [hp]
      · simp [Instr.sameNow, hp, h2]
    · have hne : (p.1 == n) = false := by rw [beq_eq_false_iff_ne]; exact hp
      have hne2 : ((n : Int) == (p.1 : Int)) = false := by rw [beq_eq_false_iff_ne]; omega
      rcases findI n es l (j + 1) h3 with ⟨g1, g2⟩ | ⟨v, i, g1, g2⟩
      · refine .inl ⟨?_, ?_⟩
        · unfold resL at g1 ⊢
          simpa [hne] using g1
        · simp only [Instr.sameNow, if_true, hne2]
          exact g2
      · refine .inr ⟨v, i, ?_, ?_⟩
        · unfold resL at g1 ⊢
          simpa [hne] using g1
        · simp only [Instr.sameNow, if_true, hne2]
          exact g2
theorem IMap.look {P : Program} {w : World} {M : Nat} {l : List (Nat × Nat)} (h : IMap M l w) {t k e : TypeId} (ht : P.underlying t = some (.map k e)) (hk : P.underlying k = some (.int .i64)) {n v : Nat} (hn : resL l n = some v) :
    (Instr.lookup t (.map (some M)) (.int .i64 (n : Int)) true).run P w = .ok (.tuple #[.int .i64 (v : Int), .bool true]) w := by
  obtain ⟨es, cl, h1, h2⟩ := h
  have hkey : IsKey (.int .i64) (.int .i64 (n : Int)) := rfl
  rcases findI n es.toList l 0 h2 with ⟨g1, g2⟩ | ⟨v', i, g1, g2⟩
  · rw [g1] at hn
    cases hn
  · rw [g1] at hn
    cases hn
    simp [Instr.lookup, run_underlying ht, MapKept.run_getObj_map h1, MapKept.run_checkKey hk hkey, MapKept.run_findKey hk g2]
theorem IMap.miss {P : Program} {w : World} {M : Nat} {l : List (Nat × Nat)} (h : IMap M l w) {t k e : TypeId} (ht : P.underlying t = some (.map k e)) (hk : P.underlying k = some (.int .i64)) (hz : (zeroValue e).run P w = .ok (.int .i64 0) w) {n : Nat} (hn : resL l n = none) :
    (Instr.lookup t (.map (some M)) (.int .i64 (n : Int)) true).run P w = .ok (.tuple #[.int .i64 0, .bool false]) w := by
  obtain ⟨es, cl, h1, h2⟩ := h
  have hkey : IsKey (.int .i64) (.int .i64 (n : Int)) := rfl
  rcases findI n es.toList l 0 h2 with ⟨g1, g2⟩ | ⟨v', i, g1, g2⟩
  · simp [Instr.lookup, run_underlying ht, MapKept.run_getObj_map h1, MapKept.run_checkKey hk hkey, MapKept.run_findKey hk g2, hz]
  · rw [g1] at hn
    cases hn

theorem owns_below2 {w w' : World} {base : Nat} {e : TypeId} {size : Nat} {v : Value} {n : Nat} {xs : List Value} (h : w.ownsRow base e size v n xs) (hb : Below w.heap.size w w') : w'.ownsRow base e size v n xs := by
  refine ⟨h.1, ?_⟩
  rcases h.2 with hv | ⟨g, cap, cur, hv, h1, hg, h2⟩
  · exact .inl hv
  · exact .inr ⟨g, cap, cur, hv, h1, (hb.block g (Array.getElem?_eq_some_iff.1 hg).1).trans hg, h2⟩

/-- What a scanner's block holds. -/
structure Sf where
  s : ByteArray
  a : Nat
  b : Nat
  e : Nat
  t : Bool
  tk : Value
  tm : Value
  op : Value
  M : Nat
def Sf.cells (σ : Sf) : Array Value := #[.string σ.s, .int .i64 σ.a, .int .i64 σ.b, .int .i64 σ.e, .bool σ.t, σ.tk, σ.tm, σ.op, .map (some σ.M)]
def Sc (B : Nat) (σ : Sf) (w : World) : Prop := w.heap[B]? = some (.cells σ.cells 41 (0, 0))
theorem Sc.lt {B : Nat} {σ : Sf} {w : World} (h : Sc B σ w) : B < w.heap.size := (Array.getElem?_eq_some_iff.1 h).1
theorem Sc.fields {B : Nat} {σ : Sf} {w : World} (h : Sc B σ w) : w.cell? ⟨B, 0, none⟩ = some (.string σ.s) ∧ w.cell? ⟨B, 1, none⟩ = some (.int .i64 σ.a) ∧ w.cell? ⟨B, 2, none⟩ = some (.int .i64 σ.b) ∧ w.cell? ⟨B, 3, none⟩ = some (.int .i64 σ.e) ∧
    w.cell? ⟨B, 4, none⟩ = some (.bool σ.t) ∧ w.cell? ⟨B, 5, none⟩ = some σ.tk ∧ w.cell? ⟨B, 6, none⟩ = some σ.tm ∧ w.cell? ⟨B, 7, none⟩ = some σ.op ∧ w.cell? ⟨B, 8, none⟩ = some (.map (some σ.M)) := by
  unfold Sc at h
  refine ⟨?_, ?_, ?_, ?_, ?_, ?_, ?_, ?_, ?_⟩ <;> (rw [Lib.cell_of_heap h]; rfl)
theorem Sc.frozen {B : Nat} {σ : Sf} {w : World} (h : Sc B σ w) (i : Nat) : w.frozen? ⟨B, i, none⟩ = false := Lib.frozen_of_heap h i
theorem Sc.later {B : Nat} {σ : Sf} {w w' : World} (h : Sc B σ w) (hb : Below w.heap.size w w') : Sc B σ w' := (hb.block B h.lt).trans h
theorem Sc.drew {B : Nat} {σ : Sf} {w : World} (h : Sc B σ w) (q : Nat) : Sc B σ (w.drewN q) := by
  exact h
theorem Sc.setA {B : Nat} {σ : Sf} {w : World} (h : Sc B σ w) (x : Nat) : Sc B { σ with a := x } (w.setCell ⟨B, 1, none⟩ (.int .i64 (x : Int))) := by
  refine (heap_setCell_same w B _ _ _ _ h).trans ?_
  rfl
theorem Sc.setB {B : Nat} {σ : Sf} {w : World} (h : Sc B σ w) (x : Nat) : Sc B { σ with b := x } (w.setCell ⟨B, 2, none⟩ (.int .i64 (x : Int))) := by
  refine (heap_setCell_same w B _ _ _ _ h).trans ?_
  rfl
theorem Sc.setE {B : Nat} {σ : Sf} {w : World} (h : Sc B σ w) (x : Nat) : Sc B { σ with e := x } (w.setCell ⟨B, 3, none⟩ (.int .i64 (x : Int))) := by
  refine (heap_setCell_same w B _ _ _ _ h).trans ?_
  rfl
theorem Sc.setT {B : Nat} {σ : Sf} {w : World} (h : Sc B σ w) (x : Bool) : Sc B { σ with t := x } (w.setCell ⟨B, 4, none⟩ (.bool x)) := by
  refine (heap_setCell_same w B _ _ _ _ h).trans ?_
  rfl
theorem Sc.setTk {B : Nat} {σ : Sf} {w : World} (h : Sc B σ w) (x : Value) : Sc B { σ with tk := x } (w.setCell ⟨B, 5, none⟩ x) := by
  refine (heap_setCell_same w B _ _ _ _ h).trans ?_
  rfl
theorem Sc.setTm {B : Nat} {σ : Sf} {w : World} (h : Sc B σ w) (x : Value) : Sc B { σ with tm := x } (w.setCell ⟨B, 6, none⟩ x) := by
  refine (heap_setCell_same w B _ _ _ _ h).trans ?_
  rfl
theorem Sc.setOp {B : Nat} {σ : Sf} {w : World} (h : Sc B σ w) (x : Value) : Sc B { σ with op := x } (w.setCell ⟨B, 7, none⟩ x) := by
  refine (heap_setCell_same w B _ _ _ _ h).trans ?_
  rfl

/-- The rows and the map of a scanner: tokens (as cells), what was expected, open braces, where the source goes on. -/
structure Sr where
  tc : List Value
  n : Nat
  tl : List Bool
  ol : List Int
  ml : List (Nat × Nat)
def boolCells (l : List Bool) : List Value := l.map Value.bool
def intCells (l : List Int) : List Value := l.map (Value.int .i64)
/-- A row's block is not block B. -/
theorem row_ne {w : World} {W0 B : Nat} {E : TypeId} {size n : Nat} {v : Value} {xs : List Value} {σ : Sf} (h : w.ownsRow W0 E size v n xs) (hs : Sc B σ w) (hE : E ≠ 41) : some B ≠ v.ownBlock := by
  rcases h.2 with ⟨hv, _⟩ | ⟨g, cap, cur, hv, _, hg, _⟩
  · rw [hv]
    simp [Value.ownBlock]
  · rw [hv]
    simp only [Value.ownBlock, ne_eq, Option.some.injEq]
    rintro rfl
    unfold Sc at hs
    rw [hg] at hs
    simp only [Option.some.injEq, Obj.cells.injEq] at hs
    exact hE hs.2.1
theorem row_set {w : World} {W0 B : Nat} {E : TypeId} {size n : Nat} {v : Value} {xs : List Value} (h : w.ownsRow W0 E size v n xs) (hB : some B ≠ v.ownBlock) (i : Nat) (u : Value) : (w.setCell ⟨B, i, none⟩ u).ownsRow W0 E size v n xs := by
  refine ⟨h.1, ?_⟩
  rcases h.2 with hv | ⟨g, cap, cur, hv, h1, hg, h2⟩
  · exact .inl hv
  · refine .inr ⟨g, cap, cur, hv, h1, ?_, h2⟩
    rw [Below.heap_setCell w ⟨B, i, none⟩ u g ?_]
    · exact hg
    · rintro rfl
      exact hB (by rw [hv]; rfl)
/-- A scanner in block B with all that belongs to it; below W0 nothing is its own. -/
structure IsSc (W0 B : Nat) (σ : Sf) (ρ : Sr) (w : World) : Prop where
  base : W0 ≤ B
  sc : Sc B σ w
  tk : w.ownsRow W0 33 6 σ.tk ρ.n ρ.tc
  tm : w.ownsRow W0 4 1 σ.tm ρ.tl.length (boolCells ρ.tl)
  op : w.ownsRow W0 3 1 σ.op ρ.ol.length (intCells ρ.ol)
  mp : IMap σ.M ρ.ml w
  mb : W0 ≤ σ.M
theorem IsSc.mapNe {W0 B : Nat} {σ : Sf} {ρ : Sr} {w : World} (h : IsSc W0 B σ ρ w) : σ.M ≠ B := by
  intro e
  obtain ⟨es, cl, h1, _⟩ := h.mp
  have h2 := h.sc
  unfold Sc at h2
  rw [e, h2] at h1
  cases h1
theorem IsSc.later {W0 B : Nat} {σ : Sf} {ρ : Sr} {w w' : World} (h : IsSc W0 B σ ρ w) (hb : Below w.heap.size w w') : IsSc W0 B σ ρ w' :=
  ⟨h.base, h.sc.later hb, owns_below2 h.tk hb, owns_below2 h.tm hb, owns_below2 h.op hb, h.mp.block (hb.block _ h.mp.lt), h.mb⟩
theorem IsSc.drew {W0 B : Nat} {σ : Sf} {ρ : Sr} {w : World} (h : IsSc W0 B σ ρ w) (q : Nat) : IsSc W0 B σ ρ (w.drewN q) := h.later (bl_drewN (Below.refl _ _) q)
/-- A cell of the scanner's own block is set, and its rows and map stay. -/
theorem IsSc.set {W0 B : Nat} {σ σ' : Sf} {ρ : Sr} {w : World} (h : IsSc W0 B σ ρ w) (i : Nat) (u : Value) (hs : Sc B σ' (w.setCell ⟨B, i, none⟩ u)) (h1 : σ'.tk = σ.tk) (h2 : σ'.tm = σ.tm) (h3 : σ'.op = σ.op) (h4 : σ'.M = σ.M) : IsSc W0 B σ' ρ (w.setCell ⟨B, i, none⟩ u) := by
  refine ⟨h.base, hs, ?_, ?_, ?_, ?_, by rw [h4]; exact h.mb⟩
  · rw [h1]
    exact row_set h.tk (row_ne h.tk h.sc (by decide)) i u
  · rw [h2]
    exact row_set h.tm (row_ne h.tm h.sc (by decide)) i u
  · rw [h3]
    exact row_set h.op (row_ne h.op h.sc (by decide)) i u
  · rw [h4]
    exact h.mp.block (Below.heap_setCell w ⟨B, i, none⟩ u σ.M h.mapNe)
theorem IsSc.setA {W0 B : Nat} {σ : Sf} {ρ : Sr} {w : World} (h : IsSc W0 B σ ρ w) (x : Nat) : IsSc W0 B { σ with a := x } ρ (w.setCell ⟨B, 1, none⟩ (.int .i64 (x : Int))) := h.set 1 _ (h.sc.setA x) rfl rfl rfl rfl
theorem IsSc.setB {W0 B : Nat} {σ : Sf} {ρ : Sr} {w : World} (h : IsSc W0 B σ ρ w) (x : Nat) : IsSc W0 B { σ with b := x } ρ (w.setCell ⟨B, 2, none⟩ (.int .i64 (x : Int))) := h.set 2 _ (h.sc.setB x) rfl rfl rfl rfl
theorem IsSc.setE {W0 B : Nat} {σ : Sf} {ρ : Sr} {w : World} (h : IsSc W0 B σ ρ w) (x : Nat) : IsSc W0 B { σ with e := x } ρ (w.setCell ⟨B, 3, none⟩ (.int .i64 (x : Int))) := h.set 3 _ (h.sc.setE x) rfl rfl rfl rfl
theorem IsSc.setT {W0 B : Nat} {σ : Sf} {ρ : Sr} {w : World} (h : IsSc W0 B σ ρ w) (x : Bool) : IsSc W0 B { σ with t := x } ρ (w.setCell ⟨B, 4, none⟩ (.bool x)) := h.set 4 _ (h.sc.setT x) rfl rfl rfl rfl

/-- All blocks but B are as they were; new ones may have come. -/
structure But (B : Nat) (w w' : World) : Prop where
  os : w'.os = w.os
  tape : w'.tape = w.tape
  output : w'.output = w.output
  size : w.heap.size ≤ w'.heap.size
  block : ∀ k, k < w.heap.size → k ≠ B → w'.heap[k]? = w.heap[k]?
theorem But.refl (B : Nat) (w : World) : But B w w := ⟨rfl, rfl, rfl, Nat.le_refl _, fun _ _ _ => rfl⟩
theorem But.trans {B : Nat} {a b c : World} (h : But B a b) (k : But B b c) : But B a c :=
  ⟨k.os.trans h.os, k.tape.trans h.tape, k.output.trans h.output, Nat.le_trans h.size k.size, fun i hi hB => (k.block i (Nat.lt_of_lt_of_le hi h.size) hB).trans (h.block i hi hB)⟩
theorem But.drewN {B : Nat} {a w : World} (h : But B a w) (q : Nat) : But B a (w.drewN q) := ⟨h.os, h.tape, h.output, h.size, h.block⟩
theorem But.set {B : Nat} {a w : World} (h : But B a w) (i : Nat) (u : Value) : But B a (w.setCell ⟨B, i, none⟩ u) :=
  ⟨h.os, h.tape, h.output, by rw [World.size_setCell]; exact h.size, fun k hk hB => (Below.heap_setCell w ⟨B, i, none⟩ u k hB).trans (h.block k hk hB)⟩
theorem But.of {B : Nat} {w w' : World} (h : Below w.heap.size w w') : But B w w' := ⟨h.os, h.tape, h.output, h.size, fun k hk _ => h.block k hk⟩
theorem But.below {W0 B : Nat} {w w' : World} (h : But B w w') (hB : W0 ≤ B) (hW : W0 ≤ w.heap.size) : Below W0 w w' := ⟨h.os, h.tape, h.output, h.size, fun k hk => h.block k (Nat.lt_of_lt_of_le hk hW) (by omega)⟩
theorem IsSc.le {W0 B : Nat} {σ : Sf} {ρ : Sr} {w : World} (h : IsSc W0 B σ ρ w) : W0 ≤ w.heap.size := Nat.le_trans h.base (Nat.le_of_lt h.sc.lt)

/-- What a method of a scanner leaves: the scanner with another content, and all other blocks as they were. -/
def ScP (W0 B : Nat) (v : Value) (σ : Sf) (ρ : Sr) (w : World) (e : Ending) (w' : World) : Prop := e = .returned v ∧ IsSc W0 B σ ρ w' ∧ But B w w'

/-- Where a scanner is one byte on. -/
def stp (ml : List (Nat × Nat)) (a : Nat) : Nat := match resL ml (a + 1) with | some x => x | none => a + 1
/-- The lines that are left out lie ahead, in a text of n bytes. -/
def Gd (n : Nat) (ml : List (Nat × Nat)) : Prop := ∀ k x, resL ml k = some x → k ≤ x ∧ x ≤ n
theorem stp_gt {n : Nat} {ml : List (Nat × Nat)} (h : Gd n ml) (a : Nat) : a < stp ml a ∧ (a < n → stp ml a ≤ n) := by
  unfold stp
  cases hr : resL ml (a + 1) with
  | none => exact ⟨by show a < a + 1; omega, fun h => by show a + 1 ≤ n; omega⟩
  | some x =>
    have := h _ _ hr
    exact ⟨by show a < x; omega, fun _ => this.2⟩
set_option maxRecDepth 100000 in
set_option maxHeartbeats 2000000 in
theorem step_any (W0 B : Nat) (σ : Sf) (ρ : Sr) (w : World) (h : IsSc W0 B σ ρ w) (ha2 : σ.a ≤ 1000000) :
    Calls Tryd.prog 50 #[.pointer (some ⟨B, 0, none⟩)] w (ScP W0 B (.tuple #[]) { σ with a := stp ρ.ml σ.a } ρ w) := by
  obtain ⟨s, a, b, e, t, tk, tm, op, M⟩ := σ
  dsimp only at ha2
  obtain ⟨c0, c1, c2, c3, c4, c5, c6, c7, c8⟩ := h.sc.fields
  have fz := h.sc.frozen 1
  have h1 := h.setA (a + 1)
  obtain ⟨d0, d1, d2, d3, d4, d5, d6, d7, d8⟩ := h1.sc.fields
  have fz1 := h1.sc.frozen 1
  have HB : Hid (But B w (w.setCell ⟨B, 1, none⟩ (.int .i64 ((a + 1 : Nat) : Int)))) := (But.refl B w).set 1 _
  have H1 := Lib.hid h1
  dsimp only at *
  rw [show ((a + 1 : Nat) : Int) = (a : Int) + 1 from rfl] at *
  cases hr : resL ρ.ml (a + 1) with
  | none =>
    have HP : Hid (∀ q, ScP W0 B (.tuple #[]) ⟨s, stp ρ.ml a, b, e, t, tk, tm, op, M⟩ ρ w (.returned (.tuple #[])) ((w.setCell ⟨B, 1, none⟩ (.int .i64 ((a : Int) + 1))).drewN q)) := fun q => by
      have : stp ρ.ml a = a + 1 := by unfold stp; rw [hr]
      rw [this]
      exact ⟨rfl, H1.out.drew q, HB.out.drewN q⟩
    have hl : ∀ q, (Instr.lookup 39 (.map (some M)) (.int .i64 ((a : Int) + 1)) true).run Tryd.prog ((w.setCell ⟨B, 1, none⟩ (.int .i64 ((a : Int) + 1))).drewN q) = .ok (.tuple #[.int .i64 0, .bool false]) ((w.setCell ⟨B, 1, none⟩ (.int .i64 ((a : Int) + 1))).drewN q) := fun q =>
      (H1.out.drew q).mp.miss (P := Tryd.prog) Tryd.underlying39 Tryd.underlying3 (Tryd.zeroValue3 _) hr
    have hl0 := hl 0
    clear hr h h1
    go_enter Tryd.func50, Tryd.ntmps50
    go_wp2
    go_quiet (fail)
    go_wp2
    go_end0
    exact HP.out _
  | some x =>
    have HP : Hid (∀ q, ScP W0 B (.tuple #[]) ⟨s, stp ρ.ml a, b, e, t, tk, tm, op, M⟩ ρ w (.returned (.tuple #[])) (((w.setCell ⟨B, 1, none⟩ (.int .i64 ((a : Int) + 1))).drewN q).setCell ⟨B, 1, none⟩ (.int .i64 (x : Int)))) := fun q => by
      have : stp ρ.ml a = x := by unfold stp; rw [hr]
      rw [this]
      exact ⟨rfl, (H1.out.drew q).setA x, (HB.out.drewN q).set 1 _⟩
    have hl : ∀ q, (Instr.lookup 39 (.map (some M)) (.int .i64 ((a : Int) + 1)) true).run Tryd.prog ((w.setCell ⟨B, 1, none⟩ (.int .i64 ((a : Int) + 1))).drewN q) = .ok (.tuple #[.int .i64 (x : Int), .bool true]) ((w.setCell ⟨B, 1, none⟩ (.int .i64 ((a : Int) + 1))).drewN q) := fun q =>
      (H1.out.drew q).mp.look (P := Tryd.prog) Tryd.underlying39 Tryd.underlying3 hr
    have hl0 := hl 0
    clear hr h h1
    go_enter Tryd.func50, Tryd.ntmps50
    go_wp2
    go_quiet (fail)
    go_wp2
    go_end0
    exact HP.out _

end Go.Proofs.YtnfoafcpcabpmaaDoor
