/-
  A map that the call itself makes, keyed by texts: what its block holds, an insertion, a look-up. No condition.
-/
import Derived.Test.YtdjpjknbbedamaaKn
import Derived.Maps.Own
namespace Go.Proofs.Ytdjpjknbbedamaa
open Go.RowKit Go.MapKept Go.ChangeMaps

def SMap (w : World) (B : Nat) (l : List (ByteArray × Value)) : Prop :=
  ∃ es : Array MapEntry, w.heap[B]? = some (.map es l.length) ∧ es.toList.map (fun e => (e.key, e.val)) = l.map (fun x => (Value.string x.1, x.2))

def findS (k : ByteArray) : List (ByteArray × Value) → Option Value
  | [] => none
  | x :: l => if k == x.1 then some x.2 else findS k l

theorem findNow_some (k : ByteArray) : ∀ (es : List MapEntry) (l : List (ByteArray × Value)) (j : Nat), es.map (fun e => (e.key, e.val)) = l.map (fun x => (Value.string x.1, x.2)) → ∀ v, findS k l = some v → ∃ i, Instr.findNow .string (.string k) es j = some (some (i, v))
  | [], l, j, h, v, hv => by
    have : l = [] := by simpa using h.symm
    subst this
    cases hv
  | e :: es, [], j, h, v, hv => by cases hv
  | e :: es, x :: l, j, h, v, hv => by
    simp only [List.map_cons, List.cons.injEq, Prod.mk.injEq] at h
    obtain ⟨⟨h1, h2⟩, h3⟩ := h
    unfold Instr.findNow
    rw [h1]
    unfold findS at hv
    cases hb : (k == x.1) with
    | true =>
      rw [hb, if_pos rfl] at hv
      injection hv with hv
      exact ⟨j, by simp only [Instr.sameNow, hb, h2, hv]⟩
    | false =>
      rw [hb, if_neg (by decide)] at hv
      obtain ⟨i, hi⟩ := findNow_some k es l (j + 1) h3 v hv
      exact ⟨i, by simp only [Instr.sameNow, hb, hi]⟩
theorem findNow_none (k : ByteArray) : ∀ (es : List MapEntry) (l : List (ByteArray × Value)) (j : Nat), es.map (fun e => (e.key, e.val)) = l.map (fun x => (Value.string x.1, x.2)) → findS k l = none → Instr.findNow .string (.string k) es j = some none
  | [], l, j, h, hv => rfl
  | e :: es, [], j, h, hv => by simp at h
  | e :: es, x :: l, j, h, hv => by
    simp only [List.map_cons, List.cons.injEq, Prod.mk.injEq] at h
    obtain ⟨⟨h1, h2⟩, h3⟩ := h
    unfold Instr.findNow
    rw [h1]
    unfold findS at hv
    cases hb : (k == x.1) with
    | true =>
      rw [hb, if_pos rfl] at hv
      cases hv
    | false =>
      rw [hb, if_neg (by decide)] at hv
      simp only [Instr.sameNow, hb, findNow_none k es l (j + 1) h3 hv]

theorem SMap.made (w : World) : SMap (w.alloc (.map #[] 0)) w.heap.size [] := ⟨#[], (heap_alloc w _).1, rfl⟩
theorem SMap.insert {P : Program} {w : World} {B : Nat} {l : List (ByteArray × Value)} (h : SMap w B l) {t k e : TypeId} (ht : P.underlying t = some (.map k e)) (hk : P.underlying k = some .string) {key : ByteArray} (hn : findS key l = none) (v : Value) :
    ∃ w', (Instr.mapUpdate t (.map (some B)) (.string key) v).run P w = .ok () w' ∧ SMap w' B (l ++ [(key, v)]) ∧ Below B w w' := by
  obtain ⟨es, h1, h2⟩ := h
  have hfind : Instr.findNow .string (.string key) es.toList 0 = some none := findNow_none key es.toList l 0 h2 hn
  have hkey : IsKey .string (.string key) := trivial
  refine ⟨setBlock w B (.map (es.push { key := .string key, val := v, born := l.length }) (l.length + 1)), ?_, ?_, ?_⟩
  · simp [Instr.mapUpdate, run_underlying ht, MapKept.run_getObj_map h1, MapKept.run_checkKey hk hkey, MapKept.run_findKey hk hfind, MapKept.run_setObj_map _ h1, Result.andThen, setBlock]
  · refine ⟨es.push { key := .string key, val := v, born := l.length }, by rw [heap_setBlock_same h1]; simp, ?_⟩
    rw [Array.toList_push, List.map_append, List.map_append, h2]
    rfl
  · exact ⟨rfl, rfl, rfl, by simp [setBlock], fun j hj => heap_setBlock_other h1 _ (by omega)⟩

theorem upon_insert {P : Program} {w : World} {B : Nat} {l : List (ByteArray × Value)} (h : SMap w B l) {t k e : TypeId} (ht : P.underlying t = some (.map k e)) (hk : P.underlying k = some .string) {key : ByteArray} (hn : findS key l = none) {v : Value}
    {f : Unit → World → Result Next} {o : Oper} {a : Act} {K : Act → World → Prop} {Q : Exit → Act → World → Prop} (hK : ∀ w', SMap w' B (l ++ [(key, v)]) → Below B w w' → Oper.upon P o a K Q (f () w')) :
    Oper.upon P o a K Q (((Instr.mapUpdate t (.map (some B)) (.string key) v).run P w).andThen f) := by
  obtain ⟨w', hrun, r1, r2⟩ := h.insert ht hk hn v
  rw [hrun]
  exact hK w' r1 r2

theorem SMap.look {P : Program} {w : World} {B : Nat} {l : List (ByteArray × Value)} (h : SMap w B l) {t k e : TypeId} (ht : P.underlying t = some (.map k e)) (hk : P.underlying k = some .string) {key : ByteArray} {v : Value} (hn : findS key l = some v) :
    (Instr.lookup t (.map (some B)) (.string key) true).run P w = .ok (.tuple #[v, .bool true]) w := by
  obtain ⟨es, h1, h2⟩ := h
  obtain ⟨i, hfind⟩ := findNow_some key es.toList l 0 h2 v hn
  have hkey : IsKey .string (.string key) := trivial
  simp [Instr.lookup, run_underlying ht, MapKept.run_getObj_map h1, MapKept.run_checkKey hk hkey, MapKept.run_findKey hk hfind]
theorem SMap.miss {P : Program} {w : World} {B : Nat} {l : List (ByteArray × Value)} (h : SMap w B l) {t k e : TypeId} (ht : P.underlying t = some (.map k e)) (hk : P.underlying k = some .string) {z : Value} (hz : (zeroValue e).run P w = .ok z w) {key : ByteArray} (hn : findS key l = none) :
    (Instr.lookup t (.map (some B)) (.string key) true).run P w = .ok (.tuple #[z, .bool false]) w := by
  obtain ⟨es, h1, h2⟩ := h
  have hfind : Instr.findNow .string (.string key) es.toList 0 = some none := findNow_none key es.toList l 0 h2 hn
  have hkey : IsKey .string (.string key) := trivial
  simp [Instr.lookup, run_underlying ht, MapKept.run_getObj_map h1, MapKept.run_checkKey hk hkey, MapKept.run_findKey hk hfind, hz]

end Go.Proofs.Ytdjpjknbbedamaa
