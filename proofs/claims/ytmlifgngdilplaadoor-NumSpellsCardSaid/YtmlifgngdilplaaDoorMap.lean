/-
  A map of closures that the call itself makes, keyed 0, 1, 2 ..: what its block holds, an insertion, a look-up. Conditions: none beside those stated.
-/
import Derived.Test.YtmlifgngdilplaaDoorBase
import Derived.Maps.Own
namespace Go.Proofs.YtmlifgngdilplaaDoor
open Go.RowKit Go.MapKept Go.ChangeMaps

/-- The closure that num.checked hands back: three captured cells in blocks c, c+1, c+2. -/
def clo (c : Nat) : Value := .func (.func 113) #[] #[.pointer (some ⟨c, 0, none⟩), .pointer (some ⟨c + 1, 0, none⟩), .pointer (some ⟨c + 2, 0, none⟩)]
def fv (f : Nat) : Value := .func (.func f) #[] #[]

def IsCk (w : World) (B : Nat) (v : Value) (x : Nat × Int × Nat) : Prop :=
  ∃ c, B < c ∧ c + 2 < w.heap.size ∧ v = clo c ∧ w.cell? ⟨c, 0, none⟩ = some (fv x.1) ∧ w.cell? ⟨c + 1, 0, none⟩ = some (.int .i64 x.2.1) ∧ w.cell? ⟨c + 2, 0, none⟩ = some (fv x.2.2)

theorem IsCk.later {w w' : World} {B : Nat} {v : Value} {x : Nat × Int × Nat} (h : IsCk w B v x) (hs : w.heap.size ≤ w'.heap.size) (hc : ∀ k, k ≠ B → k < w.heap.size → w'.heap[k]? = w.heap[k]?) : IsCk w' B v x := by
  obtain ⟨c, h1, h2, h3, h4, h5, h6⟩ := h
  refine ⟨c, h1, by omega, h3, ?_, ?_, ?_⟩
  · rw [World.cell?_of_block (w := w) (hc c (by omega) (by omega))]; exact h4
  · rw [World.cell?_of_block (w := w) (hc (c + 1) (by omega) (by omega))]; exact h5
  · rw [World.cell?_of_block (w := w) (hc (c + 2) (by omega) (by omega))]; exact h6

def OpsIn (w : World) (B : Nat) (l : List (Nat × Int × Nat)) : Prop :=
  ∃ es : Array MapEntry, w.heap[B]? = some (.map es l.length) ∧ es.size = l.length ∧ ∀ (i : Nat) (e : MapEntry) (x : Nat × Int × Nat), es[i]? = some e → l[i]? = some x → e.key = .int .i64 (i : Int) ∧ IsCk w B e.val x

theorem OpsIn.later {w w' : World} {B : Nat} {l : List (Nat × Int × Nat)} (h : OpsIn w B l) (hb : Below w.heap.size w w') : OpsIn w' B l := by
  obtain ⟨es, h1, h2, h3⟩ := h
  have hlt : B < w.heap.size := (Array.getElem?_eq_some_iff.1 h1).1
  exact ⟨es, (hb.block B hlt).trans h1, h2, fun i e x he hx => ⟨(h3 i e x he hx).1, (h3 i e x he hx).2.later hb.size (fun k _ hk => hb.block k hk)⟩⟩

theorem OpsIn.made (w : World) : OpsIn (w.alloc (.map #[] 0)) w.heap.size [] :=
  ⟨#[], (heap_alloc w _).1, rfl, fun i e x he => by simp at he⟩

theorem find_at (n : Nat) : ∀ (es : List MapEntry) (j m : Nat) (e0 : MapEntry), (∀ (i : Nat) (e : MapEntry), es[i]? = some e → e.key = .int .i64 ((j + i : Nat) : Int)) → es[m]? = some e0 → n = j + m →
    Instr.findNow (.int .i64) (.int .i64 (n : Int)) es j = some (some (n, e0.val))
  | [], _, _, _, _, h, _ => by simp at h
  | e :: es, j, m, e0, hk, h, hn => by
    have h0 := hk 0 e rfl
    unfold Instr.findNow
    rw [h0]
    cases m with
    | zero =>
      simp at h
      subst h
      have : (n : Int) = ((j + 0 : Nat) : Int) := by omega
      simp [Instr.sameNow, this]
      omega
    | succ m =>
      have hne : ((n : Int) == ((j + 0 : Nat) : Int)) = false := by simp; omega
      simp only [Instr.sameNow, if_true, hne]
      exact find_at n es (j + 1) m e0 (fun i e he => by rw [hk (i + 1) e (by simpa using he)]; congr 2; omega) (by simpa using h) (by omega)

theorem find_no (n : Int) : ∀ (es : List MapEntry) (j : Nat), (∀ (i : Nat) (e : MapEntry), es[i]? = some e → e.key = .int .i64 ((j + i : Nat) : Int)) → (n < j ∨ j + es.length ≤ n) →
    Instr.findNow (.int .i64) (.int .i64 n) es j = some none
  | [], _, _, _ => rfl
  | e :: es, j, hk, hn => by
    have h0 := hk 0 e rfl
    simp only [List.length_cons] at hn
    have hne : (n == ((j + 0 : Nat) : Int)) = false := by simp; omega
    unfold Instr.findNow
    rw [h0]
    simp only [Instr.sameNow, if_true, hne]
    exact find_no n es (j + 1) (fun i e he => by rw [hk (i + 1) e (by simpa using he)]; congr 2; omega) (by omega)

theorem OpsIn.keys {w : World} {B : Nat} {l : List (Nat × Int × Nat)} {es : Array MapEntry} (h2 : es.size = l.length)
    (h3 : ∀ (i : Nat) (e : MapEntry) (x : Nat × Int × Nat), es[i]? = some e → l[i]? = some x → e.key = .int .i64 (i : Int) ∧ IsCk w B e.val x) :
    ∀ (i : Nat) (e : MapEntry), es.toList[i]? = some e → e.key = .int .i64 ((0 + i : Nat) : Int) := by
  intro i e he
  have he' : es[i]? = some e := by simpa using he
  have hi : i < es.size := (Array.getElem?_eq_some_iff.1 he').1
  rw [(h3 i e (l[i]'(by omega)) he' (by simp)).1]
  simp

/-- The insertion at the key that comes next. -/
theorem OpsIn.insert {P : Program} {w : World} {B : Nat} {l : List (Nat × Int × Nat)} (h : OpsIn w B l) {t k e : TypeId} (ht : P.underlying t = some (.map k e)) (hk : P.underlying k = some (.int .i64)) {n : Int} (hn : n = l.length) {v : Value} {y : Nat × Int × Nat} (hv : IsCk w B v y) :
    ∃ w', (Instr.mapUpdate t (.map (some B)) (.int .i64 n) v).run P w = .ok () w' ∧ OpsIn w' B (l ++ [y]) ∧ Below B w w' := by
  obtain ⟨es, h1, h2, h3⟩ := h
  have hlt : B < w.heap.size := (Array.getElem?_eq_some_iff.1 h1).1
  have hfind : Instr.findNow (.int .i64) (.int .i64 n) es.toList 0 = some none := find_no n es.toList 0 (OpsIn.keys h2 h3) (by right; simp; omega)
  have hkey : IsKey (.int .i64) (.int .i64 n) := rfl
  refine ⟨setBlock w B (.map (es.push { key := .int .i64 n, val := v, born := l.length }) (l.length + 1)), ?_, ?_, ?_⟩
  · simp [Instr.mapUpdate, run_underlying ht, MapKept.run_getObj_map h1, MapKept.run_checkKey hk hkey, MapKept.run_findKey hk hfind, MapKept.run_setObj_map _ h1, Result.andThen, setBlock]
  · have hother : ∀ j, j ≠ B → j < w.heap.size → (setBlock w B (.map (es.push { key := .int .i64 n, val := v, born := l.length }) (l.length + 1))).heap[j]? = w.heap[j]? := fun j hj _ => heap_setBlock_other h1 _ hj
    refine ⟨es.push { key := .int .i64 n, val := v, born := l.length }, by rw [heap_setBlock_same h1]; simp, by simp [h2], ?_⟩
    intro i e x he hx
    by_cases hi : i < es.size
    · rw [Array.getElem?_push, if_neg (by omega)] at he
      rw [List.getElem?_append_left (by omega)] at hx
      exact ⟨(h3 i e x he hx).1, (h3 i e x he hx).2.later (by simp [setBlock]) hother⟩
    · have hi' : i = es.size := by
        have := (Array.getElem?_eq_some_iff.1 he).1
        simp at this
        omega
      subst hi'
      rw [Array.getElem?_push, if_pos rfl] at he
      rw [h2] at hx
      simp at he hx
      subst he hx
      exact ⟨by rw [hn, h2], hv.later (by simp [setBlock]) hother⟩
  · exact ⟨rfl, rfl, rfl, by simp [setBlock], fun j hj => heap_setBlock_other h1 _ (by omega)⟩

theorem wpList_insert_ops {P : Program} (w : World) {ops : Array Oper} {rest : List Oper} {o : Oper} {a : Act} {Q : Exit → Act → World → Prop}
    (hg : o.guard = none) (m x v : Operand) (t : TypeId) (hop : o.op = Op.insert t m x v)
    (k e : TypeId) (ht : P.underlying t = some (.map k e)) (hk : P.underlying k = some (.int .i64)) (B : Nat) (l : List (Nat × Int × Nat)) (y : Nat × Int × Nat)
    (hm : a.eval m = .map (some B)) (n : Int) (hx : a.eval x = .int .i64 n) (val : Value) (hv : a.eval v = val) (hown : OpsIn w B l) (hn : n = l.length) (hck : IsCk w B val y)
    (hK : ∀ w', OpsIn w' B (l ++ [y]) → Below B w w' → wpList P ops Q rest (a.put o.dst undef) w') :
    wpList P ops Q (o :: rest) a w := by
  refine wpList_plain hg fun K' hK' => ?_
  obtain ⟨w', hrun, r1, r2⟩ := hown.insert ht hk hn hck
  unfold Oper.wp
  simp [execOp, hop, hm, hx, hv, hrun, Result.andThen]
  exact hK' _ _ (hK w' r1 r2)

/-- The look-up of a key that is there. -/
theorem OpsIn.look {P : Program} {w : World} {B : Nat} {l : List (Nat × Int × Nat)} (h : OpsIn w B l) {t k e : TypeId} (ht : P.underlying t = some (.map k e)) (hk : P.underlying k = some (.int .i64)) {n : Nat} {y : Nat × Int × Nat} (hn : l[n]? = some y) :
    ∃ v, (Instr.lookup t (.map (some B)) (.int .i64 (n : Int)) true).run P w = .ok (.tuple #[v, .bool true]) w ∧ IsCk w B v y := by
  obtain ⟨es, h1, h2, h3⟩ := h
  have hl : n < l.length := (List.getElem?_eq_some_iff.1 hn).1
  obtain ⟨e0, he0⟩ : ∃ e0, es[n]? = some e0 := ⟨es[n]'(by omega), by simp [h2, hl]⟩
  have hfind : Instr.findNow (.int .i64) (.int .i64 (n : Int)) es.toList 0 = some (some (n, e0.val)) := find_at n es.toList 0 n e0 (OpsIn.keys h2 h3) (by simpa using he0) (by omega)
  have hkey : IsKey (.int .i64) (.int .i64 (n : Int)) := rfl
  refine ⟨e0.val, ?_, (h3 n e0 y he0 hn).2⟩
  simp [Instr.lookup, run_underlying ht, MapKept.run_getObj_map h1, MapKept.run_checkKey hk hkey, MapKept.run_findKey hk hfind]

/-- The look-up of a key that is not there. -/
theorem OpsIn.miss {P : Program} {w : World} {B : Nat} {l : List (Nat × Int × Nat)} (h : OpsIn w B l) {t k e : TypeId} (ht : P.underlying t = some (.map k e)) (hk : P.underlying k = some (.int .i64)) {z : Value} (hz : (zeroValue e).run P w = .ok z w) {n : Int} (hn : n < 0 ∨ l.length ≤ n) :
    (Instr.lookup t (.map (some B)) (.int .i64 n) true).run P w = .ok (.tuple #[z, .bool false]) w := by
  obtain ⟨es, h1, h2, h3⟩ := h
  have hfind : Instr.findNow (.int .i64) (.int .i64 n) es.toList 0 = some none := find_no n es.toList 0 (OpsIn.keys h2 h3) (by simp; omega)
  have hkey : IsKey (.int .i64) (.int .i64 n) := rfl
  simp [Instr.lookup, run_underlying ht, MapKept.run_getObj_map h1, MapKept.run_checkKey hk hkey, MapKept.run_findKey hk hfind, hz]

end Go.Proofs.YtmlifgngdilplaaDoor
