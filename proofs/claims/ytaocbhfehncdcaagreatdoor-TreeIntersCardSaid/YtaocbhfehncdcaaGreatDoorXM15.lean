/-
  A map that the call itself makes, keyed by texts: what its block holds, an insertion, a look-up. No condition. A parser of the call's own: what its block holds, and what it says of its tokens. Conditions: at most 1000 tokens. Trees of nodes: what the heap holds of them, and what stays; nodes with one and with two others in them. Conditions: none.
-/
import Derived.Test.YtaocbhfehncdcaaGreatDoorXM14
import Derived.Maps.Own
import Derived.Test.YtaocbhfehncdcaaGreatDoorXTp
import Derived.BigRegion
import Derived.RegionTactic
namespace Go.Proofs.YtaocbhfehncdcaaGreatDoor
open Go.RowKit Go.MapKept Go.ChangeMaps

def SMap (w : World) (B : Nat) (l : List (ByteArray × Value)) : Prop :=
  ∃ es : Array MapEntry, w.heap[B]? = some (.map es l.length) ∧ es.toList.map (fun e => (e.key, e.val)) = l.map (fun x => (Value.string x.1, x.2))

def findS (k : ByteArray) : List (ByteArray × Value) → Option Value
  | [] => none
  | x :: l => if k == x.1 then some x.2 else findS k l

theorem findNow_some (k : ByteArray) : ∀ (es : List MapEntry) (l : List (ByteArray × Value)) (j : Nat), es.map (fun e => (e.key, e.val)) = l.map (fun x => (Value.string x.1, x.2)) → ∀ v, findS k l = some v → ∃ i, Instr.findNow .string (.string k) es j = some (some (i, v))
  | [], l, j, h, v, hv => by
    have : l = [] := by simpa using h.symm
    subst this
    cases hv
  | e :: es, [], j, h, v, hv => by cases hv
  | e :: es, x :: l, j, h, v, hv => by
    simp only [List.map_cons, List.cons.injEq, Prod.mk.injEq] at h
    obtain ⟨⟨h1, h2⟩, h3⟩ := h
    unfold Instr.findNow
    rw [h1]
    unfold findS at hv
    cases hb : (k == x.1) with
    | true =>
      rw [hb, if_pos rfl] at hv
      injection hv with hv
      exact ⟨j, by simp only [Instr.sameNow, hb, h2, hv]⟩
    | false =>
      rw [hb, if_neg (by decide)] at hv
      obtain ⟨i, hi⟩ := findNow_some k es l (j + 1) h3 v hv
      exact ⟨i, by simp only [Instr.sameNow, hb, hi]⟩
theorem findNow_none (k : ByteArray) : ∀ (es : List MapEntry) (l : List (ByteArray × Value)) (j : Nat), es.map (fun e => (e.key, e.val)) = l.map (fun x => (Value.string x.1, x.2)) → findS k l = none → Instr.findNow .string (.string k) es j = some none
  | [], l, j, h, hv => rfl
  | e :: es, [], j, h, hv => by simp at h
  | e :: es, x :: l, j, h, hv => by
    simp only [List.map_cons, List.cons.injEq, Prod.mk.injEq] at h
    obtain ⟨⟨h1, h2⟩, h3⟩ := h
    unfold Instr.findNow
    rw [h1]
    unfold findS at hv
    cases hb : (k == x.1) with
    | true =>
      rw [hb, if_pos rfl] at hv
      cases hv
    | false =>
      rw [hb, if_neg (by decide)] at hv
      simp only [Instr.sameNow, hb, findNow_none k es l (j + 1) h3 hv]

theorem SMap.made (w : World) : SMap (w.alloc (.map #[] 0)) w.heap.size [] := ⟨#[], (heap_alloc w _).1, rfl⟩
theorem SMap.insert {P : Program} {w : World} {B : Nat} {l : List (ByteArray × Value)} (h : SMap w B l) {t k e : TypeId} (ht : P.underlying t = some (.map k e)) (hk : P.underlying k = some .string) {key : ByteArray} (hn : findS key l = none) (v : Value) :
    ∃ w', (Instr.mapUpdate t (.map (some B)) (.string key) v).run P w = .ok () w' ∧ SMap w' B (l ++ [(key, v)]) ∧ Below B w w' := by
  obtain ⟨es, h1, h2⟩ := h
  have hfind : Instr.findNow .string (.string key) es.toList 0 = some none := findNow_none key es.toList l 0 h2 hn
  have hkey : IsKey .string (.string key) := trivial
  refine ⟨setBlock w B (.map (es.push { key := .string key, val := v, born := l.length }) (l.length + 1)), ?_, ?_, ?_⟩
  · simp [Instr.mapUpdate, run_underlying ht, MapKept.run_getObj_map h1, MapKept.run_checkKey hk hkey, MapKept.run_findKey hk hfind, MapKept.run_setObj_map _ h1, Result.andThen, setBlock]
  · refine ⟨es.push { key := .string key, val := v, born := l.length }, by rw [heap_setBlock_same h1]; simp, ?_⟩
    rw [Array.toList_push, List.map_append, List.map_append, h2]
    rfl
  · exact ⟨rfl, rfl, rfl, by simp [setBlock], fun j hj => heap_setBlock_other h1 _ (by omega)⟩

theorem upon_insert {P : Program} {w : World} {B : Nat} {l : List (ByteArray × Value)} (h : SMap w B l) {t k e : TypeId} (ht : P.underlying t = some (.map k e)) (hk : P.underlying k = some .string) {key : ByteArray} (hn : findS key l = none) {v : Value}
    {f : Unit → World → Result Next} {o : Oper} {a : Act} {K : Act → World → Prop} {Q : Exit → Act → World → Prop} (hK : ∀ w', SMap w' B (l ++ [(key, v)]) → Below B w w' → Oper.upon P o a K Q (f () w')) :
    Oper.upon P o a K Q (((Instr.mapUpdate t (.map (some B)) (.string key) v).run P w).andThen f) := by
  obtain ⟨w', hrun, r1, r2⟩ := h.insert ht hk hn v
  rw [hrun]
  exact hK w' r1 r2

theorem SMap.look {P : Program} {w : World} {B : Nat} {l : List (ByteArray × Value)} (h : SMap w B l) {t k e : TypeId} (ht : P.underlying t = some (.map k e)) (hk : P.underlying k = some .string) {key : ByteArray} {v : Value} (hn : findS key l = some v) :
    (Instr.lookup t (.map (some B)) (.string key) true).run P w = .ok (.tuple #[v, .bool true]) w := by
  obtain ⟨es, h1, h2⟩ := h
  obtain ⟨i, hfind⟩ := findNow_some key es.toList l 0 h2 v hn
  have hkey : IsKey .string (.string key) := trivial
  simp [Instr.lookup, run_underlying ht, MapKept.run_getObj_map h1, MapKept.run_checkKey hk hkey, MapKept.run_findKey hk hfind]
theorem SMap.miss {P : Program} {w : World} {B : Nat} {l : List (ByteArray × Value)} (h : SMap w B l) {t k e : TypeId} (ht : P.underlying t = some (.map k e)) (hk : P.underlying k = some .string) {z : Value} (hz : (zeroValue e).run P w = .ok z w) {key : ByteArray} (hn : findS key l = none) :
    (Instr.lookup t (.map (some B)) (.string key) true).run P w = .ok (.tuple #[z, .bool false]) w := by
  obtain ⟨es, h1, h2⟩ := h
  have hfind : Instr.findNow .string (.string key) es.toList 0 = some none := findNow_none key es.toList l 0 h2 hn
  have hkey : IsKey .string (.string key) := trivial
  simp [Instr.lookup, run_underlying ht, MapKept.run_getObj_map h1, MapKept.run_checkKey hk hkey, MapKept.run_findKey hk hfind, hz]

end Go.Proofs.YtaocbhfehncdcaaGreatDoor

namespace Go.Proofs.YtaocbhfehncdcaaGreatDoor
open Go.RowKit

/-- A token: its kind, its place, its text, how a brace is meant. -/
structure Tt where
  k : Int
  a : Int
  x : ByteArray
  o : Int
def Tt.v (t : Tt) : Value := .agg #[.int .i64 t.k, .int .i64 t.a, .string t.x, .string ⟨#[]⟩, .string ⟨#[]⟩, .int .i64 t.o]
def noT : Tt := ⟨-1, 0, ⟨#[]⟩, 0⟩
def tAt (ts : List Tt) (i : Nat) : Tt := ts[i]?.getD noT
/-- The cells of a token in block g from offset p on. -/
structure TtC (g p : Nat) (t : Tt) (w : World) : Prop where
  c0 : w.cell? ⟨g, p, none⟩ = some (.int .i64 t.k)
  c1 : w.cell? ⟨g, p + 1, none⟩ = some (.int .i64 t.a)
  c2 : w.cell? ⟨g, p + 2, none⟩ = some (.string t.x)
  c3 : w.cell? ⟨g, p + 3, none⟩ = some (.string ⟨#[]⟩)
  c4 : w.cell? ⟨g, p + 4, none⟩ = some (.string ⟨#[]⟩)
  c5 : w.cell? ⟨g, p + 5, none⟩ = some (.int .i64 t.o)
theorem TtC.later {g p : Nat} {t : Tt} {w w' : World} (h : TtC g p t w) (hb : w'.heap[g]? = w.heap[g]?) : TtC g p t w' := by
  have hc : ∀ q, w'.cell? ⟨g, q, none⟩ = w.cell? ⟨g, q, none⟩ := fun q => World.cell?_of_block (w := w) (a := ⟨g, q, none⟩) hb
  exact ⟨(hc _).trans h.c0, (hc _).trans h.c1, (hc _).trans h.c2, (hc _).trans h.c3, (hc _).trans h.c4, (hc _).trans h.c5⟩

/-- Where a parser's parts lie. -/
structure Pc where
  g : Nat
  c : Nat
  m0 : Nat
  m1 : Nat
  m2 : Nat
  m3 : Nat
  m4 : Nat
  m5 : Nat
  m6 : Nat
  m7 : Nat
def Pc.m (κ : Pc) : Nat → Nat
  | 0 => κ.m0 | 1 => κ.m1 | 2 => κ.m2 | 3 => κ.m3 | 4 => κ.m4 | 5 => κ.m5 | 6 => κ.m6 | _ => κ.m7
def lv (l : List (List UInt8)) (n : Int) : List (ByteArray × Value) := l.map fun x => (bs x, .int .i64 n)
/-- What the maps of the levels hold. -/
def lvM : Nat → List (ByteArray × Value)
  | 0 => lv [[46, 46]] 24
  | 1 => lv [[124, 124], [47, 47]] 25
  | 2 => lv [[38, 38]] 25
  | 3 => lv [[38], [124], [94]] 24
  | 4 => lv [[61, 61], [33, 61], [60, 61, 62], [101, 113], [110, 101], [99, 109, 112]] 24
  | 5 => lv [[60], [62], [60, 61], [62, 61], [108, 116], [103, 116], [108, 101], [103, 101]] 24
  | 6 => lv [[43], [45], [46]] 24
  | _ => lv [[42], [47], [37], [120]] 24
structure PsAt (κ : Pc) (ts : List Tt) (P k : Nat) (w : World) : Prop where
  blk : w.heap[P]? = some (.cells #[.slice (some ⟨κ.g, 0, none⟩) ts.length κ.c, .int .i64 (k : Int), .map (some κ.m0), .map (some κ.m1), .map (some κ.m2), .map (some κ.m3), .map (some κ.m4), .map (some κ.m5), .map (some κ.m6), .map (some κ.m7)] 76 (0, 0))
  row : ∀ i, i < ts.length → TtC κ.g (i * 6) (tAt ts i) w
  glt : κ.g < w.heap.size
  gne : κ.g ≠ P
  cap : ts.length ≤ κ.c
  map : ∀ n, n < 8 → SMap w (κ.m n) (lvM n)
  mne : ∀ n, n < 8 → κ.m n ≠ P
  few : ts.length ≤ 1000
theorem PsAt.lt {κ : Pc} {ts : List Tt} {P k : Nat} {w : World} (h : PsAt κ ts P k w) : P < w.heap.size := (Array.getElem?_eq_some_iff.1 h.blk).1
theorem SMap.lt {w : World} {B : Nat} {l : List (ByteArray × Value)} (h : SMap w B l) : B < w.heap.size := by
  obtain ⟨es, h1, _⟩ := h
  exact (Array.getElem?_eq_some_iff.1 h1).1
theorem SMap.block {w w' : World} {B : Nat} {l : List (ByteArray × Value)} (h : SMap w B l) (hb : w'.heap[B]? = w.heap[B]?) : SMap w' B l := by
  obtain ⟨es, h1, h2⟩ := h
  exact ⟨es, hb.trans h1, h2⟩
/-- A parser stays where its own block and those that were there stay. -/
theorem PsAt.keep {κ : Pc} {ts : List Tt} {P k : Nat} {w w' : World} (h : PsAt κ ts P k w) (hb : ∀ T, T < w.heap.size → w'.heap[T]? = w.heap[T]?) (hs : w.heap.size ≤ w'.heap.size) : PsAt κ ts P k w' :=
  ⟨(hb P h.lt).trans h.blk, fun i hi => (h.row i hi).later (hb _ h.glt), Nat.lt_of_lt_of_le h.glt hs, h.gne, h.cap, fun n hn => (h.map n hn).block (hb _ (h.map n hn).lt), h.mne, h.few⟩
theorem PsAt.later {κ : Pc} {ts : List Tt} {P k : Nat} {w w' : World} (h : PsAt κ ts P k w) (hb : Below w.heap.size w w') : PsAt κ ts P k w' := h.keep (fun T hT => hb.block T hT) hb.size
theorem PsAt.cells {κ : Pc} {ts : List Tt} {P k : Nat} {w : World} (h : PsAt κ ts P k w) :
    w.cell? ⟨P, 0, none⟩ = some (.slice (some ⟨κ.g, 0, none⟩) ts.length κ.c) ∧ w.cell? ⟨P, 1, none⟩ = some (.int .i64 (k : Int)) ∧ w.frozen? ⟨P, 1, none⟩ = false := by
  refine ⟨?_, ?_, Lib.frozen_of_heap h.blk _⟩ <;> (rw [Lib.cell_of_heap h.blk]; rfl)
/-- The parser goes on. -/
theorem PsAt.step {κ : Pc} {ts : List Tt} {P k : Nat} {w : World} (h : PsAt κ ts P k w) (j : Nat) : PsAt κ ts P j (w.setCell ⟨P, 1, none⟩ (.int .i64 (j : Int))) := by
  have hb : ∀ T, T ≠ P → (w.setCell ⟨P, 1, none⟩ (.int .i64 (j : Int))).heap[T]? = w.heap[T]? := fun T hT => Below.heap_setCell w ⟨P, 1, none⟩ _ T hT
  refine ⟨heap_setCell_same w P 1 _ _ _ h.blk, fun i hi => (h.row i hi).later (hb _ h.gne), by rw [World.size_setCell]; exact h.glt, h.gne, h.cap, fun n hn => (h.map n hn).block (hb _ (h.mne n hn)), h.mne, h.few⟩
theorem blk_but {P T : Nat} {o : Obj} {w w' : World} (h : w.heap[T]? = some o) (hb : But P w w') (hT : T ≠ P) : w'.heap[T]? = some o := (hb.block T (Array.getElem?_eq_some_iff.1 h).1 hT).trans h
theorem But.alloc (P : Nat) (w : World) (o : Obj) : But P w (w.alloc o) := But.of ((Below.refl _ _).alloc (Nat.le_refl _) _)

theorem TkAt.drew {T : Nat} {v0 v1 v2 v3 v4 v5 : Value} {W : World} (h : TkAt T v0 v1 v2 v3 v4 v5 W) : TkAt T v0 v1 v2 v3 v4 v5 W.drew := h.later rfl
/-- What a look at the parser's tokens leaves. -/
def LkP (v : Value) (w : World) (e : Ending) (w' : World) : Prop := e = .returned v ∧ Below w.heap.size w w'

set_option maxRecDepth 100000 in
set_option maxHeartbeats 4000000 in
theorem ahead0 (κ : Pc) (ts : List Tt) (P k : Nat) (w : World) (h : PsAt κ ts P k w) (hk : k ≤ 100000) :
    Calls Tryz.prog 113 #[.pointer (some ⟨P, 0, none⟩), .int .i64 0] w (LkP (tAt ts k).v w) := by
  have HB : Hid (Below w.heap.size w (w.alloc (.cells #[.int .i64 0, .int .i64 0, .string ⟨#[]⟩, .string ⟨#[]⟩, .string ⟨#[]⟩, .int .i64 0] 101))) := (Below.refl _ _).alloc (Nat.le_refl _) _
  have H1 := Lib.hid (h.later HB.out)
  have HT0 := Lib.hid (TkAt.fresh w)
  obtain ⟨c0, c1, cz⟩ := H1.out.cells
  clear cz
  have hcap := h.cap
  have hfew := h.few
  have HP : Hid (∀ w', Below w.heap.size w w' → LkP (tAt ts k).v w (.returned (tAt ts k).v) w') := fun w' h => ⟨rfl, h⟩
  by_cases hlt : k < ts.length
  · have hi : (k : Int) < (ts.length : Int) := by omega
    have hi0 : (0 : Int) ≤ (k : Int) := by omega
    unfold Tt.v at HP ⊢
    clear h
    go_enter Tryz.func113, Tryz.ntmps113
    go_wp2
    generalize w.alloc (.cells #[.int .i64 0, .int .i64 0, .string ⟨#[]⟩, .string ⟨#[]⟩, .string ⟨#[]⟩, .int .i64 0] 101) = W1 at *
    generalize hTT : w.heap.size = T at *
    go_quiet (fail)
    have HT1 : Hid (TkAt T (.int .i64 0) (.int .i64 0) (.string ⟨#[]⟩) (.string ⟨#[]⟩) (.string ⟨#[]⟩) (.int .i64 0) (W1.drewN nq)) := HT0.out.later rfl
    have HB1 : Hid (Below T w (W1.drewN nq)) := bl_drewN HB.out _
    have H2 : Hid (PsAt κ ts P k (W1.drewN nq)) := H1.out.later (bl_drewN (Below.refl _ _) _)
    clear c0 c1 H1 HT0 HB
    generalize W1.drewN nq = W2 at *
    obtain ⟨c0, c1, cz⟩ := H2.out.cells
    obtain ⟨t0, t1, t2, t3, t4, t5⟩ := H2.out.row k hlt
    obtain ⟨u0, u1, u2, u3, u4, u5⟩ := HT1.out.cells
    have z0 := HT1.out.frozen 0
    have z1 := HT1.out.frozen 1
    have z2 := HT1.out.frozen 2
    have z3 := HT1.out.frozen 3
    have z4 := HT1.out.frozen 4
    have z5 := HT1.out.frozen 5
    generalize tAt ts k = t at *
    generalize ts.length = n at *
    go_wp2
    go_region
    have HT4 : TkAt T (.int .i64 t.k) (.int .i64 t.a) (.string t.x) (.string ⟨#[]⟩) (.string ⟨#[]⟩) (.int .i64 t.o) (World.drew (tkW W2 T (.int .i64 t.k) (.int .i64 t.a) (.string t.x) (.string ⟨#[]⟩) (.string ⟨#[]⟩) (.int .i64 t.o))) := (HT1.out.put _ _ _ _ _ _).drew
    have hbe : Below T w (World.drew (tkW W2 T (.int .i64 t.k) (.int .i64 t.a) (.string t.x) (.string ⟨#[]⟩) (.string ⟨#[]⟩) (.int .i64 t.o))) := (HB1.out.trans (tkW_below W2 T _ _ _ _ _ _)).trans (Below.refl _ _).drew
    change Exit.then _ _ _ _ (World.drew (tkW W2 T (.int .i64 t.k) (.int .i64 t.a) (.string t.x) (.string ⟨#[]⟩) (.string ⟨#[]⟩) (.int .i64 t.o)))
    generalize World.drew (tkW W2 T (.int .i64 t.k) (.int .i64 t.a) (.string t.x) (.string ⟨#[]⟩) (.string ⟨#[]⟩) (.int .i64 t.o)) = W3 at *
    obtain ⟨r0, r1, r2, r3, r4, r5⟩ := HT4.cells
    go_wp2
    refine bodyPost_ret (v := .agg #[.int .i64 t.k, .int .i64 t.a, .string t.x, .string ⟨#[]⟩, .string ⟨#[]⟩, .int .i64 t.o]) ?_ rfl (HP.out _ hbe)
    simp [results, Tryz.results113, go_sem, r0, r1, r2, r3, r4, r5]
  · have hi : (ts.length : Int) ≤ (k : Int) := by omega
    have ht : tAt ts k = noT := by
      unfold tAt
      rw [List.getElem?_eq_none (by omega)]
      rfl
    rw [ht] at HP ⊢
    unfold noT Tt.v at HP ⊢
    dsimp only at HP ⊢
    clear h ht
    go_enter Tryz.func113, Tryz.ntmps113
    go_wp2
    generalize w.alloc (.cells #[.int .i64 0, .int .i64 0, .string ⟨#[]⟩, .string ⟨#[]⟩, .string ⟨#[]⟩, .int .i64 0] 101) = W1 at *
    generalize hTT : w.heap.size = T at *
    go_quiet (fail)
    have HT1 : Hid (TkAt T (.int .i64 0) (.int .i64 0) (.string ⟨#[]⟩) (.string ⟨#[]⟩) (.string ⟨#[]⟩) (.int .i64 0) (W1.drewN nq)) := HT0.out.later rfl
    have HB1 : Hid (Below T w (W1.drewN nq)) := bl_drewN HB.out _
    clear c0 c1 H1 HT0 HB
    generalize W1.drewN nq = W2 at *
    obtain ⟨u0, u1, u2, u3, u4, u5⟩ := HT1.out.cells
    have z0 := HT1.out.frozen 0
    have z1 := HT1.out.frozen 1
    have z2 := HT1.out.frozen 2
    have z3 := HT1.out.frozen 3
    have z4 := HT1.out.frozen 4
    have z5 := HT1.out.frozen 5
    go_wp2
    have HT4 : TkAt T (.int .i64 (-1)) (.int .i64 0) (.string ⟨#[]⟩) (.string ⟨#[]⟩) (.string ⟨#[]⟩) (.int .i64 0) (tkW W2 T (.int .i64 (-1)) (.int .i64 0) (.string ⟨#[]⟩) (.string ⟨#[]⟩) (.string ⟨#[]⟩) (.int .i64 0)) := HT1.out.put _ _ _ _ _ _
    have hbe : Below T w (tkW W2 T (.int .i64 (-1)) (.int .i64 0) (.string ⟨#[]⟩) (.string ⟨#[]⟩) (.string ⟨#[]⟩) (.int .i64 0)) := HB1.out.trans (tkW_below W2 T _ _ _ _ _ _)
    change bodyPost _ _ _ _ _ (tkW W2 T (.int .i64 (-1)) (.int .i64 0) (.string ⟨#[]⟩) (.string ⟨#[]⟩) (.string ⟨#[]⟩) (.int .i64 0))
    generalize tkW W2 T (.int .i64 (-1)) (.int .i64 0) (.string ⟨#[]⟩) (.string ⟨#[]⟩) (.string ⟨#[]⟩) (.int .i64 0) = W3 at *
    obtain ⟨r0, r1, r2, r3, r4, r5⟩ := HT4.cells
    refine bodyPost_ret (v := .agg #[.int .i64 (-1), .int .i64 0, .string ⟨#[]⟩, .string ⟨#[]⟩, .string ⟨#[]⟩, .int .i64 0]) ?_ rfl (HP.out _ hbe)
    simp [results, Tryz.results113, go_sem, r0, r1, r2, r3, r4, r5]

set_option maxRecDepth 100000 in
set_option maxHeartbeats 4000000 in
theorem ahead1 (κ : Pc) (ts : List Tt) (P k : Nat) (w : World) (h : PsAt κ ts P k w) (hk : k ≤ 100000) :
    Calls Tryz.prog 113 #[.pointer (some ⟨P, 0, none⟩), .int .i64 1] w (LkP (tAt ts (k + 1)).v w) := by
  have HB : Hid (Below w.heap.size w (w.alloc (.cells #[.int .i64 0, .int .i64 0, .string ⟨#[]⟩, .string ⟨#[]⟩, .string ⟨#[]⟩, .int .i64 0] 101))) := (Below.refl _ _).alloc (Nat.le_refl _) _
  have H1 := Lib.hid (h.later HB.out)
  have HT0 := Lib.hid (TkAt.fresh w)
  obtain ⟨c0, c1, cz⟩ := H1.out.cells
  clear cz
  have hcap := h.cap
  have hfew := h.few
  have HP : Hid (∀ w', Below w.heap.size w w' → LkP (tAt ts (k + 1)).v w (.returned (tAt ts (k + 1)).v) w') := fun w' h => ⟨rfl, h⟩
  by_cases hlt : k + 1 < ts.length
  · have hi : (k : Int) + 1 < (ts.length : Int) := by omega
    have hi0 : (0 : Int) ≤ (k : Int) + 1 := by omega
    have x2 : IntKind.i64.wrap ((k : Int) + 1) = (k : Int) + 1 := IntWalk.i64_in _ (by omega)
    have x4 : ((k : Int) + 1).toNat = k + 1 := by omega
    unfold Tt.v at HP ⊢
    clear h
    go_enter Tryz.func113, Tryz.ntmps113
    go_wp2
    generalize w.alloc (.cells #[.int .i64 0, .int .i64 0, .string ⟨#[]⟩, .string ⟨#[]⟩, .string ⟨#[]⟩, .int .i64 0] 101) = W1 at *
    generalize hTT : w.heap.size = T at *
    go_quiet (fail)
    have HT1 : Hid (TkAt T (.int .i64 0) (.int .i64 0) (.string ⟨#[]⟩) (.string ⟨#[]⟩) (.string ⟨#[]⟩) (.int .i64 0) (W1.drewN nq)) := HT0.out.later rfl
    have HB1 : Hid (Below T w (W1.drewN nq)) := bl_drewN HB.out _
    have H2 : Hid (PsAt κ ts P k (W1.drewN nq)) := H1.out.later (bl_drewN (Below.refl _ _) _)
    clear c0 c1 H1 HT0 HB
    generalize W1.drewN nq = W2 at *
    obtain ⟨c0, c1, cz⟩ := H2.out.cells
    obtain ⟨t0, t1, t2, t3, t4, t5⟩ := H2.out.row (k + 1) hlt
    obtain ⟨u0, u1, u2, u3, u4, u5⟩ := HT1.out.cells
    have z0 := HT1.out.frozen 0
    have z1 := HT1.out.frozen 1
    have z2 := HT1.out.frozen 2
    have z3 := HT1.out.frozen 3
    have z4 := HT1.out.frozen 4
    have z5 := HT1.out.frozen 5
    generalize tAt ts (k + 1) = t at *
    generalize ts.length = n at *
    go_wp2
    go_region
    have HT4 : TkAt T (.int .i64 t.k) (.int .i64 t.a) (.string t.x) (.string ⟨#[]⟩) (.string ⟨#[]⟩) (.int .i64 t.o) (World.drew (tkW W2 T (.int .i64 t.k) (.int .i64 t.a) (.string t.x) (.string ⟨#[]⟩) (.string ⟨#[]⟩) (.int .i64 t.o))) := (HT1.out.put _ _ _ _ _ _).drew
    have hbe : Below T w (World.drew (tkW W2 T (.int .i64 t.k) (.int .i64 t.a) (.string t.x) (.string ⟨#[]⟩) (.string ⟨#[]⟩) (.int .i64 t.o))) := (HB1.out.trans (tkW_below W2 T _ _ _ _ _ _)).trans (Below.refl _ _).drew
    change Exit.then _ _ _ _ (World.drew (tkW W2 T (.int .i64 t.k) (.int .i64 t.a) (.string t.x) (.string ⟨#[]⟩) (.string ⟨#[]⟩) (.int .i64 t.o)))
    generalize World.drew (tkW W2 T (.int .i64 t.k) (.int .i64 t.a) (.string t.x) (.string ⟨#[]⟩) (.string ⟨#[]⟩) (.int .i64 t.o)) = W3 at *
    obtain ⟨r0, r1, r2, r3, r4, r5⟩ := HT4.cells
    go_wp2
    refine bodyPost_ret (v := .agg #[.int .i64 t.k, .int .i64 t.a, .string t.x, .string ⟨#[]⟩, .string ⟨#[]⟩, .int .i64 t.o]) ?_ rfl (HP.out _ hbe)
    simp [results, Tryz.results113, go_sem, r0, r1, r2, r3, r4, r5]
  · have hi : (ts.length : Int) ≤ (k : Int) + 1 := by omega
    have ht : tAt ts (k + 1) = noT := by
      unfold tAt
      rw [List.getElem?_eq_none (by omega)]
      rfl
    rw [ht] at HP ⊢
    unfold noT Tt.v at HP ⊢
    dsimp only at HP ⊢
    clear h ht
    go_enter Tryz.func113, Tryz.ntmps113
    go_wp2
    generalize w.alloc (.cells #[.int .i64 0, .int .i64 0, .string ⟨#[]⟩, .string ⟨#[]⟩, .string ⟨#[]⟩, .int .i64 0] 101) = W1 at *
    generalize hTT : w.heap.size = T at *
    go_quiet (fail)
    have HT1 : Hid (TkAt T (.int .i64 0) (.int .i64 0) (.string ⟨#[]⟩) (.string ⟨#[]⟩) (.string ⟨#[]⟩) (.int .i64 0) (W1.drewN nq)) := HT0.out.later rfl
    have HB1 : Hid (Below T w (W1.drewN nq)) := bl_drewN HB.out _
    clear c0 c1 H1 HT0 HB
    generalize W1.drewN nq = W2 at *
    obtain ⟨u0, u1, u2, u3, u4, u5⟩ := HT1.out.cells
    have z0 := HT1.out.frozen 0
    have z1 := HT1.out.frozen 1
    have z2 := HT1.out.frozen 2
    have z3 := HT1.out.frozen 3
    have z4 := HT1.out.frozen 4
    have z5 := HT1.out.frozen 5
    go_wp2
    have HT4 : TkAt T (.int .i64 (-1)) (.int .i64 0) (.string ⟨#[]⟩) (.string ⟨#[]⟩) (.string ⟨#[]⟩) (.int .i64 0) (tkW W2 T (.int .i64 (-1)) (.int .i64 0) (.string ⟨#[]⟩) (.string ⟨#[]⟩) (.string ⟨#[]⟩) (.int .i64 0)) := HT1.out.put _ _ _ _ _ _
    have hbe : Below T w (tkW W2 T (.int .i64 (-1)) (.int .i64 0) (.string ⟨#[]⟩) (.string ⟨#[]⟩) (.string ⟨#[]⟩) (.int .i64 0)) := HB1.out.trans (tkW_below W2 T _ _ _ _ _ _)
    change bodyPost _ _ _ _ _ (tkW W2 T (.int .i64 (-1)) (.int .i64 0) (.string ⟨#[]⟩) (.string ⟨#[]⟩) (.string ⟨#[]⟩) (.int .i64 0))
    generalize tkW W2 T (.int .i64 (-1)) (.int .i64 0) (.string ⟨#[]⟩) (.string ⟨#[]⟩) (.string ⟨#[]⟩) (.int .i64 0) = W3 at *
    obtain ⟨r0, r1, r2, r3, r4, r5⟩ := HT4.cells
    refine bodyPost_ret (v := .agg #[.int .i64 (-1), .int .i64 0, .string ⟨#[]⟩, .string ⟨#[]⟩, .string ⟨#[]⟩, .int .i64 0]) ?_ rfl (HP.out _ hbe)
    simp [results, Tryz.results113, go_sem, r0, r1, r2, r3, r4, r5]

set_option maxRecDepth 100000 in
set_option maxHeartbeats 4000000 in
theorem token_any (κ : Pc) (ts : List Tt) (P k : Nat) (w : World) (h : PsAt κ ts P k w) (hk : k ≤ 100000) :
    Calls Tryz.prog 84 #[.pointer (some ⟨P, 0, none⟩)] w (LkP (tAt ts k).v w) := by
  have HB : Hid (Below w.heap.size w (w.alloc (.cells #[.int .i64 0, .int .i64 0, .string ⟨#[]⟩, .string ⟨#[]⟩, .string ⟨#[]⟩, .int .i64 0] 101))) := (Below.refl _ _).alloc (Nat.le_refl _) _
  have H1 := Lib.hid (ahead0 κ ts P k _ (h.later HB.out) hk)
  have HT0 := Lib.hid (TkAt.fresh w)
  have HP : Hid (∀ w', Below w.heap.size w w' → LkP (tAt ts k).v w (.returned (tAt ts k).v) w') := fun w' h => ⟨rfl, h⟩
  unfold Tt.v at HP H1 ⊢
  generalize tAt ts k = t at *
  clear h
  go_enter Tryz.func84, Tryz.ntmps84
  go_wp2_with fail
  generalize w.alloc (.cells #[.int .i64 0, .int .i64 0, .string ⟨#[]⟩, .string ⟨#[]⟩, .string ⟨#[]⟩, .int .i64 0] 101) = W1 at *
  generalize hTT : w.heap.size = T at *
  refine H1.out.mono ?_
  rintro e1 W2 ⟨rfl, hb⟩
  have HT1 : Hid (TkAt T (.int .i64 0) (.int .i64 0) (.string ⟨#[]⟩) (.string ⟨#[]⟩) (.string ⟨#[]⟩) (.int .i64 0) W2) := HT0.out.later (hb.block T HT0.out.lt)
  have HB1 : Hid (Below T w W2) := HB.out.trans (hb.mono (Nat.le_of_lt HT0.out.lt))
  clear hb H1 HT0 HB
  obtain ⟨u0, u1, u2, u3, u4, u5⟩ := HT1.out.cells
  have z0 := HT1.out.frozen 0
  have z1 := HT1.out.frozen 1
  have z2 := HT1.out.frozen 2
  have z3 := HT1.out.frozen 3
  have z4 := HT1.out.frozen 4
  have z5 := HT1.out.frozen 5
  go_wp2
  have HT4 : TkAt T (.int .i64 t.k) (.int .i64 t.a) (.string t.x) (.string ⟨#[]⟩) (.string ⟨#[]⟩) (.int .i64 t.o) (tkW W2 T (.int .i64 t.k) (.int .i64 t.a) (.string t.x) (.string ⟨#[]⟩) (.string ⟨#[]⟩) (.int .i64 t.o)) := HT1.out.put _ _ _ _ _ _
  have hbe : Below T w (tkW W2 T (.int .i64 t.k) (.int .i64 t.a) (.string t.x) (.string ⟨#[]⟩) (.string ⟨#[]⟩) (.int .i64 t.o)) := HB1.out.trans (tkW_below W2 T _ _ _ _ _ _)
  change bodyPost _ _ _ _ _ (tkW W2 T (.int .i64 t.k) (.int .i64 t.a) (.string t.x) (.string ⟨#[]⟩) (.string ⟨#[]⟩) (.int .i64 t.o))
  generalize tkW W2 T (.int .i64 t.k) (.int .i64 t.a) (.string t.x) (.string ⟨#[]⟩) (.string ⟨#[]⟩) (.int .i64 t.o) = W3 at *
  obtain ⟨r0, r1, r2, r3, r4, r5⟩ := HT4.cells
  refine bodyPost_ret (v := .agg #[.int .i64 t.k, .int .i64 t.a, .string t.x, .string ⟨#[]⟩, .string ⟨#[]⟩, .int .i64 t.o]) ?_ rfl (HP.out _ hbe)
  simp [results, Tryz.results84, go_sem, r0, r1, r2, r3, r4, r5]

theorem field_o (k a o : Int) (x : ByteArray) (w : World) : (Instr.field 101 (.agg #[.int .i64 k, .int .i64 a, .string x, .string ⟨#[]⟩, .string ⟨#[]⟩, .int .i64 o]) 5).run Tryz.prog w = .ok (.int .i64 o) w := by kernel_rfl
/-- Whether a token is a sign, a word, a brace that is meant in a way. -/
def sgOf (t : Tt) (s : ByteArray) : Bool := (t.k == 3) && (t.x.toList == s.toList)
def wdOf (t : Tt) (s : ByteArray) : Bool := (t.k == 0) && (t.x.toList == s.toList)
def opOf (t : Tt) (n : Int) : Bool := sgOf t ⟨#[123]⟩ && (t.o == n)
set_option maxRecDepth 100000 in
set_option maxHeartbeats 4000000 in
theorem isSign_any (t : Tt) (s : ByteArray) (w : World) : Calls Tryz.prog 112 #[t.v, .string s] w (LkP (.bool (sgOf t s)) w) := by
  have HP : Hid (∀ b w', b = sgOf t s → Below w.heap.size w w' → LkP (.bool (sgOf t s)) w (.returned (.bool b)) w') := fun b w' h1 h2 => ⟨by rw [h1], h2⟩
  unfold Tt.v
  unfold sgOf at HP
  go_enter Tryz.func112, Tryz.ntmps112
  go_wp2
  all_goals go_ret
  · have h3 : t.k = 3 := by assumption
    exact HP.out _ _ (by rw [h3]; simp) ((Below.refl _ _).alloc (Nat.le_refl _) _)
  · have h3 : ¬ t.k = 3 := by assumption
    exact HP.out _ _ (by simp [h3]) ((Below.refl _ _).alloc (Nat.le_refl _) _)
set_option maxRecDepth 100000 in
set_option maxHeartbeats 4000000 in
theorem sign_any (κ : Pc) (ts : List Tt) (P k : Nat) (w : World) (h : PsAt κ ts P k w) (hk : k ≤ 100000) (s : ByteArray) :
    Calls Tryz.prog 82 #[.pointer (some ⟨P, 0, none⟩), .string s] w (LkP (.bool (sgOf (tAt ts k) s)) w) := by
  have H1 := Lib.hid (token_any κ ts P k w h hk)
  have H2 := Lib.hid (isSign_any (tAt ts k) s)
  have HP : Hid (∀ w', Below w.heap.size w w' → LkP (.bool (sgOf (tAt ts k) s)) w (.returned (.bool (sgOf (tAt ts k) s))) w') := fun w' h2 => ⟨rfl, h2⟩
  generalize sgOf (tAt ts k) s = b at *
  generalize (tAt ts k).v = v at *
  clear h
  go_enter Tryz.func82, Tryz.ntmps82
  go_wp2_with fail
  refine H1.out.mono ?_
  rintro e1 w1 ⟨rfl, hb1⟩
  have HB1 := Lib.hid hb1
  clear hb1
  go_wp2_with fail
  refine (H2.out _).mono ?_
  rintro e1 w2 ⟨rfl, hb2⟩
  have HB2 : Hid (Below w.heap.size w w2) := HB1.out.trans (hb2.mono HB1.out.size)
  clear hb2
  go_wp2
  go_ret
  exact HP.out _ HB2.out
set_option maxRecDepth 100000 in
set_option maxHeartbeats 4000000 in
theorem word_any (κ : Pc) (ts : List Tt) (P k : Nat) (w : World) (h : PsAt κ ts P k w) (hk : k ≤ 100000) (s : ByteArray) :
    Calls Tryz.prog 80 #[.pointer (some ⟨P, 0, none⟩), .string s] w (LkP (.bool (wdOf (tAt ts k) s)) w) := by
  have H1 := Lib.hid (token_any κ ts P k w h hk)
  have HP : Hid (∀ b w', b = wdOf (tAt ts k) s → Below w.heap.size w w' → LkP (.bool (wdOf (tAt ts k) s)) w (.returned (.bool b)) w') := fun b w' h1 h2 => ⟨by rw [h1], h2⟩
  unfold Tt.v at H1
  unfold wdOf at HP
  generalize tAt ts k = t at *
  clear h
  go_enter Tryz.func80, Tryz.ntmps80
  go_wp2_with fail
  refine H1.out.mono ?_
  rintro e1 w1 ⟨rfl, hb1⟩
  have HB2 : Hid (∀ o, Below w.heap.size w (w1.alloc o)) := fun o => hb1.alloc hb1.size _
  clear hb1
  go_wp2
  all_goals go_ret
  · have h3 : t.k = 0 := by assumption
    exact HP.out _ _ (by rw [h3]; simp) (HB2.out _)
  · have h3 : ¬ t.k = 0 := by assumption
    exact HP.out _ _ (by simp [h3]) (HB2.out _)
set_option maxRecDepth 100000 in
set_option maxHeartbeats 4000000 in
theorem opens_any (κ : Pc) (ts : List Tt) (P k : Nat) (w : World) (h : PsAt κ ts P k w) (hk : k ≤ 100000) (n : Int) :
    Calls Tryz.prog 85 #[.pointer (some ⟨P, 0, none⟩), .int .i64 n] w (LkP (.bool (opOf (tAt ts k) n)) w) := by
  have H1 := Lib.hid (sign_any κ ts P k w h hk ⟨#[123]⟩)
  have H2 : Hid (∀ w', Below w.heap.size w w' → Calls Tryz.prog 84 #[.pointer (some ⟨P, 0, none⟩)] w' (LkP (tAt ts k).v w')) := fun w' hb => token_any κ ts P k w' (h.later hb) hk
  have HP : Hid (∀ b w', b = opOf (tAt ts k) n → Below w.heap.size w w' → LkP (.bool (opOf (tAt ts k) n)) w (.returned (.bool b)) w') := fun b w' h1 h2 => ⟨by rw [h1], h2⟩
  unfold Tt.v at H2
  unfold opOf at HP ⊢
  generalize hs : sgOf (tAt ts k) ⟨#[123]⟩ = b at *
  generalize tAt ts k = t at *
  clear h hs
  go_enter Tryz.func85, Tryz.ntmps85
  go_wp2_with fail
  refine H1.out.mono ?_
  rintro e1 w1 ⟨rfl, hb1⟩
  have HB1 := Lib.hid hb1
  clear hb1
  have hfd := field_o t.k t.a t.o t.x
  cases b with
  | true =>
    go_wp2_with fail
    refine (H2.out _ HB1.out).mono ?_
    rintro e1 w2 ⟨rfl, hb2⟩
    have HB2 : Hid (Below w.heap.size w w2) := HB1.out.trans (hb2.mono HB1.out.size)
    clear hb2
    go_wp2
    go_ret
    refine HP.out _ _ ?_ HB2.out
    simp
  | false =>
    go_wp2
    go_ret
    refine HP.out _ _ ?_ HB1.out
    simp
set_option maxRecDepth 100000 in
set_option maxHeartbeats 4000000 in
theorem done_any (κ : Pc) (ts : List Tt) (P k : Nat) (w : World) (h : PsAt κ ts P k w) (hk : k ≤ 100000) :
    Calls Tryz.prog 54 #[.pointer (some ⟨P, 0, none⟩)] w (LkP (.bool (decide (k = ts.length))) w) := by
  obtain ⟨c0, c1, cz⟩ := h.cells
  have hfew := h.few
  have HP : Hid (∀ b w', b = decide (k = ts.length) → Below w.heap.size w w' → LkP (.bool (decide (k = ts.length))) w (.returned (.bool b)) w') := fun b w' h1 h2 => ⟨by rw [h1], h2⟩
  have HD : Hid (∀ q, Below w.heap.size w (w.drewN q)) := fun q => bl_drewN (Below.refl _ _) q
  have HE : Hid ((((k : Int) == (ts.length : Int)) : Bool) = decide (k = ts.length)) := by
    show _ = _
    rw [Bool.eq_iff_iff]
    simp only [beq_iff_eq, decide_eq_true_eq]
    omega
  clear h cz
  go_enter Tryz.func54, Tryz.ntmps54
  go_wp2
  go_quiet (fail)
  go_wp2
  go_ret
  exact HP.out _ _ (by first | exact HE.out | (rw [← HE.out]; done) | (rw [← HE.out]; simp; done)) (HD.out _)
/-- What a method leaves that gives up at a token. -/
def BadP (P : Nat) (m : Nat) (w : World) (e : Ending) (w' : World) : Prop := e = .panicked [{ v := .iface 97 (.int .i64 (m : Int)), recovered := false }] ∧ But P w w'
/-- What a method leaves that goes on. -/
def GoP (κ : Pc) (ts : List Tt) (P j : Nat) (v : Value) (w : World) (e : Ending) (w' : World) : Prop := e = .returned v ∧ PsAt κ ts P j w' ∧ But P w w'
set_option maxRecDepth 100000 in
set_option maxHeartbeats 4000000 in
theorem fail_any (κ : Pc) (ts : List Tt) (P k : Nat) (w : World) (h : PsAt κ ts P k w) :
    Calls Tryz.prog 76 #[.pointer (some ⟨P, 0, none⟩)] w (BadP P k w) := by
  obtain ⟨c0, c1, cz⟩ := h.cells
  have HP : Hid (∀ w', But P w w' → BadP P k w (.panicked [{ v := .iface 97 (.int .i64 (k : Int)), recovered := false }]) w') := fun w' h => ⟨rfl, h⟩
  have HD := Lib.hid (But.refl P w)
  clear h cz c0
  go_enter Tryz.func76, Tryz.ntmps76
  go_wp2
  exact ⟨rfl, HP.out _ HD.out⟩
set_option maxRecDepth 100000 in
set_option maxHeartbeats 4000000 in
theorem want_ok (κ : Pc) (ts : List Tt) (P k : Nat) (w : World) (h : PsAt κ ts P k w) (hk : k ≤ 100000) (s : ByteArray) (hs : sgOf (tAt ts k) s = true) :
    Calls Tryz.prog 119 #[.pointer (some ⟨P, 0, none⟩), .string s] w (GoP κ ts P (k + 1) (.tuple #[]) w) := by
  have H1 := Lib.hid (sign_any κ ts P k w h hk s)
  rw [hs] at H1
  have H0 := Lib.hid h
  have HP : Hid (∀ w', PsAt κ ts P (k + 1) w' → But P w w' → GoP κ ts P (k + 1) (.tuple #[]) w (.returned (.tuple #[])) w') := fun w' h1 h2 => ⟨rfl, h1, h2⟩
  have x2 : IntKind.i64.wrap ((k : Int) + 1) = (k : Int) + 1 := IntWalk.i64_in _ (by omega)
  clear h hs
  go_enter Tryz.func119, Tryz.ntmps119
  go_wp2_with fail
  refine H1.out.mono ?_
  rintro e1 w1 ⟨rfl, hb1⟩
  have H2 := Lib.hid (H0.out.later hb1)
  have HB2 : Hid (But P w w1) := But.of hb1
  have H3 : Hid (PsAt κ ts P (k + 1) (w1.setCell ⟨P, 1, none⟩ (.int .i64 ((k : Int) + 1)))) := H2.out.step (k + 1)
  have HB3 : Hid (But P w (w1.setCell ⟨P, 1, none⟩ (.int .i64 ((k : Int) + 1)))) := HB2.out.set _ _
  obtain ⟨c0, c1, cz⟩ := H2.out.cells
  clear hb1 H2 HB2
  go_wp2
  go_end0
  exact HP.out _ H3.out HB3.out
set_option maxRecDepth 100000 in
set_option maxHeartbeats 4000000 in
theorem want_bad (κ : Pc) (ts : List Tt) (P k : Nat) (w : World) (h : PsAt κ ts P k w) (hk : k ≤ 100000) (s : ByteArray) (hs : sgOf (tAt ts k) s = false) :
    Calls Tryz.prog 119 #[.pointer (some ⟨P, 0, none⟩), .string s] w (BadP P k w) := by
  have H1 := Lib.hid (sign_any κ ts P k w h hk s)
  rw [hs] at H1
  have H0 := Lib.hid h
  have HP : Hid (∀ w', But P w w' → BadP P k w (.panicked [{ v := .iface 97 (.int .i64 (k : Int)), recovered := false }]) w') := fun w' h => ⟨rfl, h⟩
  clear h hs
  go_enter Tryz.func119, Tryz.ntmps119
  go_wp2_with fail
  refine H1.out.mono ?_
  rintro e1 w1 ⟨rfl, hb1⟩
  have H2 := Lib.hid (fail_any κ ts P k _ (H0.out.later hb1))
  have HB2 : Hid (But P w w1) := But.of hb1
  clear hb1 H0
  go_wp2_with fail
  refine H2.out.mono ?_
  rintro e1 w2 ⟨rfl, hb2⟩
  have HB3 : Hid (But P w w2) := HB2.out.trans hb2
  clear hb2
  go_wp2
  exact ⟨rfl, HP.out _ HB3.out⟩

end Go.Proofs.YtaocbhfehncdcaaGreatDoor

namespace Go.Proofs.YtaocbhfehncdcaaGreatDoor
open Go.RowKit

inductive Nd where
  | mk (op : Int) (s t : ByteArray) (n : Int) (l : List Nd)
mutual
/-- A value reads as a tree, whose rows lie in blocks of which S holds. -/
inductive NdAt (S : Nat → Prop) (w : World) : Nd → Value → Prop
  | mk {op : Int} {s t : ByteArray} {n : Int} {l : List Nd} {L : Value} (h : NsAt S w l L) : NdAt S w (.mk op s t n l) (.agg #[.int .i64 op, .string s, .string t, .int .i64 n, L])
inductive NsAt (S : Nat → Prop) (w : World) : List Nd → Value → Prop
  | none {a : Option Addr} {c : Nat} : NsAt S w [] (.slice a 0 c)
  | some {g o n c : Nat} {es : Array Value} {ty : TypeId} {cur : Nat × Nat} {l : List Nd} (hS : S g) (hg : w.heap[g]? = Option.some (.cells es ty cur)) (hc : NcAt S w l (es.toList.drop o)) (hn : n = l.length) (hm : n ≤ maxLen) : NsAt S w l (.slice (Option.some ⟨g, o, Option.none⟩) n c)
inductive NcAt (S : Nat → Prop) (w : World) : List Nd → List Value → Prop
  | nil {cs : List Value} : NcAt S w [] cs
  | cons {op : Int} {s t : ByteArray} {n : Int} {l : List Nd} {L : Value} {ls : List Nd} {cs : List Value} (h : NsAt S w l L) (hr : NcAt S w ls cs) : NcAt S w (.mk op s t n l :: ls) (.int .i64 op :: .string s :: .string t :: .int .i64 n :: L :: cs)
end
mutual
theorem NdAt.move {S S' : Nat → Prop} {w w' : World} (hk : ∀ g, S g → g < w.heap.size → w'.heap[g]? = w.heap[g]? ∧ S' g) : ∀ {t : Nd} {v : Value}, NdAt S w t v → NdAt S' w' t v
  | _, _, .mk h => .mk (NsAt.move hk h)
theorem NsAt.move {S S' : Nat → Prop} {w w' : World} (hk : ∀ g, S g → g < w.heap.size → w'.heap[g]? = w.heap[g]? ∧ S' g) : ∀ {l : List Nd} {v : Value}, NsAt S w l v → NsAt S' w' l v
  | _, _, .none => .none
  | _, _, .some hS hg hc hn hm => .some (hk _ hS (Array.getElem?_eq_some_iff.1 hg).1).2 ((hk _ hS (Array.getElem?_eq_some_iff.1 hg).1).1.trans hg) (NcAt.move hk hc) hn hm
theorem NcAt.move {S S' : Nat → Prop} {w w' : World} (hk : ∀ g, S g → g < w.heap.size → w'.heap[g]? = w.heap[g]? ∧ S' g) : ∀ {l : List Nd} {cs : List Value}, NcAt S w l cs → NcAt S' w' l cs
  | _, _, .nil => .nil
  | _, _, .cons h hr => .cons (NsAt.move hk h) (NcAt.move hk hr)
end
/-- The rows that there are, or new ones. -/
def New (S : Nat → Prop) (E : Nat) : Nat → Prop := fun g => S g ∨ E ≤ g
def NdP (S : Nat → Prop) (t : Nd) (w : World) (e : Ending) (w' : World) : Prop := ∃ v, e = .returned v ∧ Below w.heap.size w w' ∧ NdAt (New S w.heap.size) w' t v
def sOf (l : List UInt8) : ByteArray := bs l

theorem last_at {w W : World} {o : Obj} {n : Nat} (hW : w = W.alloc o) (hn : W.heap.size = n) : w.heap[n]? = some o := by
  subst hW
  subst hn
  exact (Go.MapKept.heap_alloc W o).1
theorem below_move {S : Nat → Prop} {w w' : World} (h : Below w.heap.size w w') : ∀ g, S g → g < w.heap.size → w'.heap[g]? = w.heap[g]? ∧ New S w.heap.size g := fun g h1 h2 => ⟨h.block g h2, Or.inl h1⟩

set_option maxRecDepth 100000 in
set_option maxHeartbeats 4000000 in
theorem pair_any (S : Nat → Prop) (op : Int) (a b : Nd) (va vb : Value) (w : World) (ha : NdAt S w a va) (hb : NdAt S w b vb) :
    Calls Tryz.prog 93 #[.int .i64 op, va, vb] w (NdP S (.mk op ⟨#[]⟩ ⟨#[]⟩ 0 [a, b]) w) := by
  cases ha with
  | @mk o1 s1 t1 n1 l1 L1 ha =>
    cases hb with
    | @mk o2 s2 t2 n2 l2 L2 hb =>
      go_enter Tryz.func93, Tryz.ntmps93
      go_wp2
      refine bodyPost_ret (v := .agg #[.int .i64 op, .string ⟨#[]⟩, .string ⟨#[]⟩, .int .i64 0, .slice (some ⟨w.heap.size + 1 + 1 + 1, 0, none⟩) 2 2]) (by simp [results, Tryz.results93, go_sem]) rfl ?_
      generalize hW : World.alloc _ (Obj.cells #[.int .i64 o1, .string s1, .string t1, .int .i64 n1, L1, .int .i64 o2, .string s2, .string t2, .int .i64 n2, L2] 28) = W
      have hbl : Below w.heap.size w W := by
        rw [← hW]
        exact ((((Below.refl _ _).alloc (Nat.le_refl _) _).alloc (by simp) _).alloc (by simp; omega) _).alloc (by simp; omega) _
      exact ⟨_, rfl, hbl, .mk (.some (Or.inr (by omega)) (last_at hW.symm (by simp)) (.cons (ha.move (below_move hbl)) (.cons (hb.move (below_move hbl)) .nil)) rfl (by decide))⟩
set_option maxRecDepth 100000 in
set_option maxHeartbeats 4000000 in
theorem one_any (S : Nat → Prop) (op : Int) (a : Nd) (va : Value) (w : World) (ha : NdAt S w a va) :
    Calls Tryz.prog 121 #[.int .i64 op, va] w (NdP S (.mk op ⟨#[]⟩ ⟨#[]⟩ 0 [a]) w) := by
  cases ha with
  | @mk o1 s1 t1 n1 l1 L1 ha =>
    go_enter Tryz.func121, Tryz.ntmps121
    go_wp2
    refine bodyPost_ret (v := .agg #[.int .i64 op, .string ⟨#[]⟩, .string ⟨#[]⟩, .int .i64 0, .slice (some ⟨w.heap.size + 1 + 1, 0, none⟩) 1 1]) (by simp [results, Tryz.results121, go_sem]) rfl ?_
    generalize hW : World.alloc _ (Obj.cells #[.int .i64 o1, .string s1, .string t1, .int .i64 n1, L1] 28) = W
    have hbl : Below w.heap.size w W := by
      rw [← hW]
      exact (((Below.refl _ _).alloc (Nat.le_refl _) _).alloc (by simp) _).alloc (by simp; omega) _
    exact ⟨_, rfl, hbl, .mk (.some (Or.inr (by omega)) (last_at hW.symm (by simp)) (.cons (ha.move (below_move hbl)) .nil) rfl (by decide))⟩
set_option maxRecDepth 100000 in
set_option maxHeartbeats 4000000 in
theorem deref_any (S : Nat → Prop) (x : ByteArray) (a : Nd) (va : Value) (w : World) (ha : NdAt S w a va) :
    Calls Tryz.prog 242 #[.string x, va] w (NdP S (.mk 12 x ⟨#[]⟩ 0 [a]) w) := by
  cases ha with
  | @mk o1 s1 t1 n1 l1 L1 ha =>
    go_enter Tryz.func242, Tryz.ntmps242
    go_wp2
    refine bodyPost_ret (v := .agg #[.int .i64 12, .string x, .string ⟨#[]⟩, .int .i64 0, .slice (some ⟨w.heap.size + 1 + 1, 0, none⟩) 1 1]) (by simp [results, Tryz.results242, go_sem]) rfl ?_
    generalize hW : World.alloc _ (Obj.cells #[.int .i64 o1, .string s1, .string t1, .int .i64 n1, L1] 28) = W
    have hbl : Below w.heap.size w W := by
      rw [← hW]
      exact (((Below.refl _ _).alloc (Nat.le_refl _) _).alloc (by simp) _).alloc (by simp; omega) _
    exact ⟨_, rfl, hbl, .mk (.some (Or.inr (by omega)) (last_at hW.symm (by simp)) (.cons (ha.move (below_move hbl)) .nil) rfl (by decide))⟩

end Go.Proofs.YtaocbhfehncdcaaGreatDoor
