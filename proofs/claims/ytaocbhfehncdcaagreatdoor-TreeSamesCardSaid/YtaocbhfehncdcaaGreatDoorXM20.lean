/-
  Trees that a law is handed: what their reading says of memory. No condition beside. Rows of trees that are built; the document's Copy, of all trees. Conditions: texts and rows are within the platform's room. tree.Copy of all trees: slices.Clone, and the rows in the nodes one after the other. Conditions: texts and rows are within the platform's room.
-/
import Derived.Test.YtaocbhfehncdcaaGreatDoorXM19
import Derived.Deep.Slices
import Derived.Maps.AppendAt
import Derived.Lib.SliceRun
namespace Go.Proofs.YtaocbhfehncdcaaGreatDoor
open Go.RowKit Go.Deep Go.WideShapes

theorem cellsInt : Tryz.prog.cellsOf 3 = 1 := by kernel_rfl
theorem cellsStr : Tryz.prog.cellsOf 9 = 1 := by kernel_rfl
theorem cellsNode : Tryz.prog.cellsOf 28 = 5 := by kernel_rfl
theorem cellsNodes : Tryz.prog.cellsOf 26 = 1 := by kernel_rfl
theorem drop_some {α : Type} {es : List α} {o : Nat} {x : α} (h : es[o]? = some x) : es.drop o = x :: es.drop (o + 1) := by
  obtain ⟨h1, h2⟩ := List.getElem?_eq_some_iff.1 h
  rw [List.drop_eq_getElem_cons h1, h2]
theorem heap_of_cell {w : World} {a : Addr} {v : Value} (h : w.cell? a = some v) : a.spot = none ∧ ∃ es ty cur, w.heap[a.block]? = some (.cells es ty cur) := by
  unfold World.cell? at h
  split at h
  · rename_i es ty cur he
    split at h
    · cases h
    · rename_i hs
      exact ⟨by simpa using hs, es, ty, cur, he⟩
  · cases h
/-- 2^47, the platform's room. -/
def Rm : Nat := 140737488355328
mutual
/-- Texts and rows are within the platform's room. -/
def shN : Nd → Prop
  | .mk _ s _ _ l => s.size ≤ Rm ∧ l.length * 72 ≤ Rm ∧ shL l
def shL : List Nd → Prop
  | [] => True
  | a :: l => shN a ∧ shL l
end
theorem shL_at : ∀ {l : List Nd} {i : Nat} (h : i < l.length), shL l → shN l[i]
  | [], _, h, _ => absurd h (by simp)
  | a :: l, 0, _, h => h.1
  | a :: l, i + 1, h, hs => by
    have := shL_at (l := l) (i := i) (by simpa using h) hs.2
    simpa using this
theorem nc_of {S : Nat → Prop} {w : World} (es : List Value) : ∀ (len o : Nat), (∀ i, i < len → ∃ (op : Int) (s t : ByteArray) (n : Int) (l : List Nd) (L : Value), NsAt S w l L ∧ (∀ j, j < 5 → es[o + i * 5 + j]? = ([.int .i64 op, .string s, .string t, .int .i64 n, L] : List Value)[j]?) ∧ shN (.mk op s t n l)) → ∃ l : List Nd, l.length = len ∧ NcAt S w l (es.drop o) ∧ shL l
  | 0, o, _ => ⟨[], rfl, .nil, trivial⟩
  | len + 1, o, h => by
    obtain ⟨op, s, t, n, l, L, hL, hj, hsh⟩ := h 0 (by omega)
    obtain ⟨r, hr, hc, hrs⟩ := nc_of es len (o + 5) fun i hi => by
      obtain ⟨op, s, t, n, l, L, hL, hj, hsh⟩ := h (i + 1) (by omega)
      exact ⟨op, s, t, n, l, L, hL, fun j h5 => by rw [← hj j h5]; congr 1; omega, hsh⟩
    refine ⟨.mk op s t n l :: r, by simp [hr], ?_, hsh, hrs⟩
    have h0 : es[o]? = some (.int .i64 op) := hj 0 (by omega)
    have h1 : es[o + 1]? = some (.string s) := by simpa using hj 1 (by omega)
    have h2 : es[o + 2]? = some (.string t) := by simpa using hj 2 (by omega)
    have h3 : es[o + 3]? = some (.int .i64 n) := by simpa using hj 3 (by omega)
    have h4 : es[o + 4]? = some L := by simpa using hj 4 (by omega)
    rw [drop_some h0, drop_some h1, drop_some h2, drop_some h3, drop_some h4]
    exact .cons hL hc
theorem bytesNode : Tryz.prog.bytesOf 28 = 72 := by kernel_rfl
set_option maxRecDepth 100000 in
theorem node_open {H : Type} {enc : TypeId × Value → H} {w : World} {base : Nat} {sp : Nat → Bool} {held : Bool} {fuel : Nat} {cs : List Value} {x : DataW H × List MemPlace} (h : DataW.trod enc Tryz.prog w base sp held fuel 28 cs = some x) (hw : ∀ k ∈ x.1.weights Tryz.prog 28, k ≤ Rm) :
    ∃ (op : Int) (s t : ByteArray) (n : Int) (L : Value) (m : Nat) (y : DataW H × List MemPlace), fuel = m + 1 ∧ cs = [.int .i64 op, .string s, .string t, .int .i64 n, L] ∧ s.size ≤ Rm ∧ (∀ k ∈ y.1.weights Tryz.prog 26, k ≤ Rm) ∧ DataW.trod enc Tryz.prog w base sp held m 26 [L] = some y := by
  obtain ⟨xs, n, hfu, hx, hlen, hxs, hf⟩ := DataW.trod_struct Tryz.underlying28 h
  rw [cellsNode] at hlen
  have hxl : xs.length = 5 := hxs
  match cs, hlen with
  | [v0, v1, v2, v3, v4], _ =>
    match xs, hxl with
    | [y0, y1, y2, y3, y4], _ =>
      have g0 : DataW.trod enc Tryz.prog w base sp held n 3 [v0] = some y0 := by
        have := hf 0 _ rfl
        simpa [cellsInt] using this
      have g1 : DataW.trod enc Tryz.prog w base sp held n 9 [v1] = some y1 := by
        have := hf 1 _ rfl
        simpa [cellsStr] using this
      have g2 : DataW.trod enc Tryz.prog w base sp held n 9 [v2] = some y2 := by
        have := hf 2 _ rfl
        simpa [cellsStr] using this
      have g3 : DataW.trod enc Tryz.prog w base sp held n 3 [v3] = some y3 := by
        have := hf 3 _ rfl
        simpa [cellsInt] using this
      have g4 : DataW.trod enc Tryz.prog w base sp held n 26 [v4] = some y4 := by
        have := hf 4 _ rfl
        simpa [cellsNodes] using this
      obtain ⟨n0, e0, _, _⟩ := DataW.trod_int Tryz.underlying3 g0
      obtain ⟨s1, e1, e1', _⟩ := DataW.trod_string Tryz.underlying9 g1
      obtain ⟨s2, e2, _, _⟩ := DataW.trod_string Tryz.underlying9 g2
      obtain ⟨n3, e3, _, _⟩ := DataW.trod_int Tryz.underlying3 g3
      simp only [List.cons.injEq, and_true] at e0 e1 e2 e3
      subst hx e1'
      simp only [DataW.weights, Tryz.underlying28, List.map_cons, List.map_nil] at hw
      refine ⟨n0, s1, s2, n3, v4, n, y4, hfu, by rw [e0, e1, e2, e3], ?_, fun k hk => hw k ?_, g4⟩
      · have := hw s1.data.toList.length (by simp [DataW.weightsEach, DataW.weights])
        simpa using this
      · simp only [DataW.weightsEach, List.mem_append]
        simp [hk]
theorem add_at (g p k : Nat) : (⟨g, p, none⟩ : Addr).add k = ⟨g, p + k, none⟩ := by
  unfold Addr.add
  split
  · simp_all
  · rfl
theorem weightsAll_mem {H : Type} {P : Program} {e : TypeId} {k : Nat} : ∀ {l : List (DataW H)} {d : DataW H}, d ∈ l → k ∈ d.weights P e → k ∈ DataW.weightsAll P e l
  | a :: l, d, hd, hk => by
    simp only [DataW.weightsAll, List.mem_append]
    rcases List.mem_cons.1 hd with rfl | hd
    · exact .inl hk
    · exact .inr (weightsAll_mem hd hk)
  | [], _, hd, _ => by simp at hd
set_option maxRecDepth 100000 in
theorem ns_open {H : Type} {enc : TypeId × Value → H} {w : World} {base : Nat} {sp : Nat → Bool} {held : Bool} : ∀ (fuel : Nat) (v : Value) (x : DataW H × List MemPlace), DataW.trod enc Tryz.prog w base sp held fuel 26 [v] = some x → (∀ k ∈ x.1.weights Tryz.prog 26, k ≤ Rm) → ∃ l, NsAt (fun _ => True) w l v ∧ l.length * 72 ≤ Rm ∧ shL l := by
  intro fuel
  induction fuel using Nat.strongRecOn with
  | _ fuel ih =>
    intro v x h hw
    rcases DataW.trod_slice Tryz.underlying26 h with ⟨hc, _⟩ | ⟨a, len, cap, elems, rest, n, hfu, hc, hx, hb, hl, hm, hlen, hel, _, _⟩
    · simp only [List.cons.injEq, and_true] at hc
      subst hc
      exact ⟨[], .none, by simp [Rm], trivial⟩
    · simp only [List.cons.injEq, and_true] at hc
      subst hc
      by_cases h0 : len = 0
      · subst h0
        exact ⟨[], .none, by simp [Rm], trivial⟩
      subst hx
      simp only [DataW.weights, Tryz.underlying26, List.length_map, bytesNode] at hw
      have hroom : len * 72 ≤ Rm := by
        have := hw ((elems.length + rest.length) * 72) (by simp)
        omega
      have hone : ∀ i, i < len → ∃ (op : Int) (s t : ByteArray) (n : Int) (l : List Nd) (L : Value), NsAt (fun _ => True) w l L ∧ (∀ j, j < 5 → w.cell? (a.add (i * 5 + j)) = ([.int .i64 op, .string s, .string t, .int .i64 n, L] : List Value)[j]?) ∧ shN (.mk op s t n l) := fun i hi => by
        have he := hel i hi
        rw [List.getElem?_eq_getElem (by omega), cellsNode] at he
        obtain ⟨cs', h1, h2⟩ := Option.bind_eq_some_iff.1 he
        obtain ⟨op, s, t, k, L, m, y, hm2, rfl, hs, hy, h3⟩ := node_open h2 fun k hk => hw k (by
          simp only [List.mem_cons, List.mem_append]
          exact .inr (.inl (weightsAll_mem (List.mem_map_of_mem (List.getElem_mem _)) hk)))
        obtain ⟨l, hL, hll, hls⟩ := ih m (by omega) L y h3 hy
        obtain ⟨_, _, h4⟩ := World.cells?_some h1
        exact ⟨op, s, t, k, l, L, hL, fun j hj => by rw [← h4 j hj, add_add], hs, hll, hls⟩
      obtain ⟨op, s, t, k, l0, L0, hL0, hj0, _⟩ := hone 0 (by omega)
      have hc0 := hj0 0 (by omega)
      have ha0 : a.add (0 * 5 + 0) = a := by simp [Addr.add]
      rw [ha0] at hc0
      obtain ⟨hs, es, ty, cur, hg⟩ := heap_of_cell hc0
      obtain ⟨g, p, sp'⟩ := a
      dsimp only at hs hg
      subst hs
      obtain ⟨r, hr, hnc, hsh⟩ := nc_of (S := fun _ => True) (w := w) es.toList len p fun i hi => by
        obtain ⟨op, s, t, k, l, L, hL, hj, hsh⟩ := hone i hi
        refine ⟨op, s, t, k, l, L, hL, fun j h5 => ?_, hsh⟩
        rw [← hj j h5, add_at, Lib.cell_of_heap hg, show p + i * 5 + j = p + (i * 5 + j) by omega]
        simp
      exact ⟨r, .some trivial hg hnc hr.symm (by omega), by omega, hsh⟩

end Go.Proofs.YtaocbhfehncdcaaGreatDoor

namespace Go.Proofs.YtaocbhfehncdcaaGreatDoor
open Go.RowKit

theorem NcAt.snoc {S : Nat → Prop} {w : World} {op n : Int} {s t : ByteArray} {m : List Nd} {L : Value} (hL : NsAt S w m L) : ∀ {l : List Nd} {xs : List Value}, NcAt S w l xs → xs.length = l.length * 5 → NcAt S w (l ++ [.mk op s t n m]) (xs ++ [.int .i64 op, .string s, .string t, .int .i64 n, L])
  | _, xs, .nil, h => by
    obtain rfl : xs = [] := List.eq_nil_of_length_eq_zero (by simpa using h)
    exact .cons hL .nil
  | _, _, .cons h hr, hl => .cons h (hr.snoc hL (by simp only [List.length_cons] at hl; omega))
/-- A row that was built reads as the trees in it. -/
theorem ns_ofRow {S : Nat → Prop} {w : World} {W0 : Nat} {v : Value} {l : List Nd} {xs : List Value} (h : w.ownsRow W0 28 5 v l.length xs) (hS : ∀ g, v.ownBlock = some g → S g) (hc : NcAt S w l xs) : NsAt S w l v := by
  rcases h.2 with ⟨rfl, h0⟩ | ⟨g, cap, cur, rfl, _, hg, hn, hm, _, ht⟩
  · obtain rfl : l = [] := List.eq_nil_of_length_eq_zero h0
    exact .none
  · refine .some (hS g rfl) hg ?_ rfl (by omega)
    rw [List.drop_zero, ← List.take_append_drop (l.length * 5) cur.toList, ht]
    exact hc.more _
theorem row_stays {w w' : World} {W0 : Nat} {E : TypeId} {size n : Nat} {v : Value} {xs : List Value} (h : w.ownsRow W0 E size v n xs) (hb : ∀ g, v.ownBlock = some g → w'.heap[g]? = w.heap[g]?) : w'.ownsRow W0 E size v n xs := by
  refine ⟨h.1, ?_⟩
  rcases h.2 with h0 | ⟨g, cap, cur, h0, h1, hg, h2⟩
  · exact .inl h0
  · subst h0
    exact .inr ⟨g, cap, cur, rfl, h1, (hb g rfl).trans hg, h2⟩
theorem row_form {w : World} {W0 : Nat} {E : TypeId} {size n : Nat} {v : Value} {xs : List Value} (h : w.ownsRow W0 E size v n xs) : ∃ a c, v = .slice a n c := by
  rcases h.2 with ⟨rfl, rfl⟩ | ⟨g, cap, cur, rfl, _⟩
  · exact ⟨_, _, rfl⟩
  · exact ⟨_, _, rfl⟩
/-- The blocks of a row's trees: new ones, and not the row's own. -/
def Fr (W0 : Nat) (v : Value) : Nat → Prop := fun g => W0 ≤ g ∧ some g ≠ v.ownBlock
theorem take_snoc (l : List Nd) (k : Nat) (h : k < l.length) : l.take (k + 1) = l.take k ++ [l[k]] := by simp
theorem news5 (W : World) (v0 v1 v2 v3 v4 : Value) : ∀ (j : Nat) (u : Value), [v0, v1, v2, v3, v4][j]? = some u → (W.alloc (.cells #[v0, v1, v2, v3, v4] 28)).cell? ((⟨W.heap.size, 0, none⟩ : Addr).add j) = some u := fun j u hu => by
  rw [add_at, Lib.cell_of_heap (NkAt.new W v0 v1 v2 v3 v4)]
  simpa using hu
theorem one5 {v0 v1 v2 v3 : Value} {a : Option Addr} {n c : Nat} (h0 : v0.oneCell' = true) (h1 : v1.oneCell' = true) (h2 : v2.oneCell' = true) (h3 : v3.oneCell' = true) : ∀ u ∈ [v0, v1, v2, v3, .slice a n c], u.oneCell' = true := fun u hu => by
  simp only [List.mem_cons, List.not_mem_nil, or_false] at hu
  rcases hu with rfl | rfl | rfl | rfl | rfl <;> first | assumption | rfl
/-- What Copy leaves: the same trees in a row of their own, whose trees' rows lie in blocks of their own. -/
def CpP (l : List Nd) (w : World) (e : Ending) (w' : World) : Prop :=
  ∃ v, e = .returned v ∧ Below w.heap.size w w' ∧ ((l = [] ∧ ∃ a c, v = .slice a 0 c) ∨ ∃ xs, w'.ownsRow w.heap.size 28 5 v l.length xs ∧ NcAt (Fr w.heap.size v) w' l xs)
theorem CpP.ns {l : List Nd} {w w' : World} {v : Value} (h : (l = [] ∧ ∃ a c, v = .slice a 0 c) ∨ ∃ xs, w'.ownsRow w.heap.size 28 5 v l.length xs ∧ NcAt (Fr w.heap.size v) w' l xs) : NsAt (fun g => w.heap.size ≤ g) w' l v := by
  rcases h with ⟨rfl, a, c, rfl⟩ | ⟨xs, h1, h2⟩
  · exact .none
  · exact ns_ofRow h1 (fun g hg => (h1.lt g hg).1) (h2.move fun g h3 _ => ⟨rfl, h3.1⟩)
/-- One more tree behind a row: the row, grown, and its trees. -/
theorem snoc_row {w wr W3 w4 : World} {v v' L : Value} {op n : Int} {s t : ByteArray} {l m : List Nd} {xs : List Value} {H : Nat}
    (hown : wr.ownsRow w.heap.size 28 5 v l.length xs) (hc : NcAt (Fr w.heap.size v) wr l xs) (hb : w.heap.size ≤ wr.heap.size)
    (h3 : Below wr.heap.size wr W3) (hL : NsAt (fun g => wr.heap.size < g) W3 m L) (hH : W3.heap.size ≤ H)
    (hg : ∀ g, g < W3.heap.size → some g ≠ v.ownBlock → w4.heap[g]? = W3.heap[g]?) (hat : v'.ownBlock = v.ownBlock ∨ v'.ownBlock = some H) :
    NcAt (Fr w.heap.size v') w4 (l ++ [.mk op s t n m]) (xs ++ [.int .i64 op, .string s, .string t, .int .i64 n, L]) := by
  have hne : ∀ g, g < H → some g ≠ v.ownBlock → some g ≠ v'.ownBlock := fun g h1 h2 => by
    rcases hat with h | h
    · rw [h]
      exact h2
    · rw [h]
      intro e
      injection e with e
      omega
  have hrow : ∀ g, wr.heap.size ≤ g → some g ≠ v.ownBlock := fun g h1 e => by
    have := (hown.lt g e.symm).2
    omega
  refine NcAt.snoc (hL.move fun g h1 h2 => ⟨hg g h2 (hrow g (Nat.le_of_lt h1)), Nat.le_trans hb (Nat.le_of_lt h1), hne g (by omega) (hrow g (Nat.le_of_lt h1))⟩) (hc.move fun g h1 h2 => ?_) hown.1
  have h4 : g < W3.heap.size := Nat.lt_of_lt_of_le h2 h3.size
  exact ⟨(hg g h4 h1.2).trans (h3.block g h2), h1.1, hne g (by omega) h1.2⟩
theorem setCell_below {W0 B : Nat} {w W : World} (h : Below W0 w W) (hB : W0 ≤ B) (i : Nat) (v : Value) : Below W0 w (W.setCell ⟨B, i, none⟩ v) := h.setCell (p := ⟨B, i, none⟩) hB v

set_option maxRecDepth 100000 in
set_option maxHeartbeats 800000 in
theorem rcopy_step (S : Nat → Prop) (l : List Nd) (L : Value) (w : World) (hroom : l.length * 72 ≤ Rm) (h : NsAt S w l L)
    (hih : ∀ i (h : i < l.length) (o n : Int) (s t : ByteArray) (k : List Nd) (K : Value) (W : World), l[i] = .mk o s t n k → NsAt S W k K → Calls Tryz.prog 15 #[K] W (CpP k W)) : Calls Tryz.prog 15 #[L] w (CpP l w) := by
  obtain ⟨a, c, rfl, _, hrow⟩ := h.row
  obtain ⟨i0, hi, hz0, hz1, hz2⟩ := info_parts infoN
  have HP : Hid (∀ W v xs, W.ownsRow w.heap.size 28 5 v l.length xs → NcAt (Fr w.heap.size v) W l xs → Below w.heap.size w W → CpP l w (.returned v) W) := fun W v xs h1 h2 h3 => ⟨v, rfl, h3, .inr ⟨xs, h1, h2⟩⟩
  have HROW := Lib.hid hrow
  have HIH := Lib.hid hih
  have HRM : Hid (l.length * 72 ≤ 140737488355328) := hroom
  clear hrow h hroom hih
  go_enter Tryz.func15, Tryz.ntmps15
  go_wp2
  go_loopw [3, 4] (fun v i wr => ∃ (k : Nat) (xs : List Value), k ≤ l.length ∧ i = .int .i64 (k : Int) ∧ wr.ownsRow w.heap.size 28 5 v k xs ∧ NcAt (Fr w.heap.size v) wr (l.take k) xs ∧ Hid (Below w.heap.size w wr)) (fun _ i _ => l.length - (intOf i).toNat)
  case atStart => exact ⟨0, [], Nat.zero_le _, rfl, World.ownsRow_nil _ _ _ _, .nil, Lib.hid (Below.refl _ _)⟩
  case round =>
    obtain ⟨k, xs, hk, rfl, hown, hnc, hb⟩ := hrel
    have hrm := HRM.out
    by_cases hlt : k < l.length
    · obtain ⟨g, o, rfl, hg, hel⟩ := HROW.out (by omega)
      obtain ⟨e⟩ := hel k hlt
      have e := e.later hg hb.out
      have q0 := e.c0
      have q1 := e.c1
      have q2 := e.c2
      have q3 := e.c3
      have q4 := e.c4
      have x1 : (k : Int) < (l.length : Int) := by omega
      have x5 : (0 : Int) ≤ (k : Int) := by omega
      have x3 : IntKind.i64.wrap ((k : Int) + 1) = (k : Int) + 1 := IntWalk.i64_in _ (by omega)
      have HEQ : Hid (l[k] = .mk e.op e.s e.u e.n e.l) := e.eq
      have HNS : Hid (NsAt S wr e.l (.slice e.a e.k e.c)) := e.ns
      clear hel
      generalize e.l = el at *
      generalize e.a = ea at *
      generalize e.k = ek at *
      generalize e.c = ec at *
      generalize e.op = eo at *
      generalize e.s = es at *
      generalize e.u = eu at *
      generalize e.n = en at *
      clear e
      have hba : Below wr.heap.size wr (wr.alloc (.cells #[.int .i64 eo, .string es, .string eu, .int .i64 en, .slice ea ek ec] 28)) := (Below.refl _ _).alloc (Nat.le_refl _) _
      have HCALL := Lib.hid (HIH.out k hlt eo en es eu el _ _ HEQ.out (HNS.out.move (S' := S) fun g h1 h2 => ⟨hba.block g h2, h1⟩))
      have HNEW := Lib.hid (NkAt.new wr (.int .i64 eo) (.string es) (.string eu) (.int .i64 en) (.slice ea ek ec))
      have HSZ : Hid ((wr.alloc (.cells #[.int .i64 eo, .string es, .string eu, .int .i64 en, .slice ea ek ec] 28)).heap.size = wr.heap.size + 1) := by
        show _ = _
        simp
      have HBA := Lib.hid hba
      have HOWN := Lib.hid hown
      have HNC := Lib.hid hnc
      clear hba HNS hown hnc
      go_wp2_with fail
      refine HCALL.out.mono ?_
      rintro e1 W2 ⟨v2, rfl, hb2, hcp⟩
      have hns2 := CpP.ns hcp
      obtain ⟨va, vn, vc, rfl⟩ := hns2.val
      have hsz := HSZ.out
      have hX2 : NkAt wr.heap.size (.int .i64 eo) (.string es) (.string eu) (.int .i64 en) (.slice ea ek ec) W2 := HNEW.out.below hb2
      have hX3 : NkAt wr.heap.size (.int .i64 eo) (.string es) (.string eu) (.int .i64 en) (.slice va vn vc) (W2.setCell ⟨wr.heap.size, 4, none⟩ (.slice va vn vc)) := heap_setCell_same W2 wr.heap.size 4 _ _ _ hX2
      have hbW2 : Below wr.heap.size wr W2 := HBA.out.trans (hb2.mono (by omega))
      have hbW3 : Below wr.heap.size wr (W2.setCell ⟨wr.heap.size, 4, none⟩ (.slice va vn vc)) := setCell_below hbW2 (Nat.le_refl _) _ _
      have hns3 : NsAt (fun g => wr.heap.size < g) (W2.setCell ⟨wr.heap.size, 4, none⟩ (.slice va vn vc)) el (.slice va vn vc) := hns2.move fun g h1 h2 => ⟨Below.heap_setCell W2 ⟨wr.heap.size, 4, none⟩ _ g (by show g ≠ wr.heap.size; omega), by omega⟩
      have hown3 := row_stays HOWN.out fun g hg => hbW3.block g (HOWN.out.lt g hg).2
      obtain ⟨r0, r1, r2, r3, r4⟩ := hX2.cells
      obtain ⟨s0, s1, s2, s3, s4⟩ := hX3.cells
      have f0 := hX2.frozen 4
      have HNS3 := Lib.hid hns3
      have HBW3 := Lib.hid hbW3
      have HB3 : Hid (w.heap.size ≤ wr.heap.size) := hb.out.size
      have hlk2 : wr.heap.size ≤ W2.heap.size := hbW2.size
      clear hns2 hns3 hX2 hX3 hbW2 hbW3 hb2 hcp hsz
      have hlk := HB3.out
      have hlk3 := HBW3.out.size
      go_wp2_with (first
        | (go_loud (at_builtin; refine wpList_append_own_at _ rfl _ _ 26 rfl w.heap.size 28 i0 (.agg #[.int .i64 0, .string ⟨#[]⟩, .string ⟨#[]⟩, .int .i64 0, .slice none 0 0]) 5 72 Tryz.underlying26 hi hz0 hz1 hz2 rfl (by decide) _ _ _ rfl (hown3.alloc _) ⟨W2.heap.size, 0, none⟩ 1 1 [.int .i64 eo, .string es, .string eu, .int .i64 en, .slice va vn vc] rfl rfl (fun j u hu => by simpa only [World.size_setCell] using news5 (W2.setCell ⟨wr.heap.size, 4, none⟩ (.slice va vn vc)) _ _ _ _ _ j u hu) (one5 rfl rfl rfl rfl) (by unfold maxLen; omega) (by omega) (by simp; omega) ?_; intro v' w4 hown' hgrow' hnil' hat')))
      have HOWN4 := Lib.hid hown'
      have HNC4 : Hid (NcAt (Fr w.heap.size v') w4 (l.take (k + 1)) (xs ++ [.int .i64 eo, .string es, .string eu, .int .i64 en, .slice va vn vc])) := by
        show NcAt _ _ _ _
        rw [take_snoc l k hlt, HEQ.out]
        have hl : (l.take k).length = k := by rw [List.length_take]; omega
        refine snoc_row (by rw [hl]; exact HOWN.out) HNC.out HB3.out HBW3.out HNS3.out (H := ((W2.setCell ⟨wr.heap.size, 4, none⟩ (.slice va vn vc)).alloc (.cells #[.int .i64 eo, .string es, .string eu, .int .i64 en, .slice va vn vc] 28)).heap.size) (by simp) (fun g h1 h2 => ?_) hat'
        exact (hgrow'.block g (by rw [World.size_setCell] at h1; simp; omega) h2).trans (((Below.refl (W2.setCell ⟨wr.heap.size, 4, none⟩ (.slice va vn vc)).heap.size _).alloc (Nat.le_refl _) _).block g h1)
      have HB4 : Hid (Below w.heap.size w w4) := ((hb.out.trans (HBW3.out.mono HB3.out)).alloc (by omega) _).grown hgrow' (by simp; omega) fun g hg => (HOWN.out.lt g hg).1
      clear hown' hgrow' hnil' hat' hown3 r0 r1 r2 r3 r4 s0 s1 s2 s3 s4 f0 q0 q1 q2 q3 q4
      go_wp2
      go_roundw
      case rel => exact ⟨k + 1, _, hlt, by first | rfl | go_num, HOWN4.out, HNC4.out, HB4⟩
      case measure => simp [intOf]; omega
    · have hke : k = l.length := by omega
      have x1 : (l.length : Int) ≤ (k : Int) := by omega
      have HE : Hid (∀ v, wr.ownsRow w.heap.size 28 5 v k xs → NcAt (Fr w.heap.size v) wr (l.take k) xs → CpP l w (.returned v) wr) := fun v h1 h2 => by
        rw [hke] at h1 h2
        rw [List.take_length] at h2
        exact HP.out _ _ _ h1 h2 hb.out
      have HE2 := Lib.hid (HE.out _ hown hnc)
      obtain ⟨va, vc, rfl⟩ := row_form hown
      clear hke hown hnc HE
      go_wp2
      go_ret
      exact HE2.out
theorem rcopy_any (S : Nat → Prop) : ∀ (q : Nat) (l : List Nd) (L : Value) (w : World), szL l ≤ q → l.length * 72 ≤ Rm → shL l → NsAt S w l L → Calls Tryz.prog 15 #[L] w (CpP l w)
  | 0, l, L, w, hq, hroom, hsh, h => rcopy_step S l L w hroom h fun i hi o n s t k K W hk hK => absurd hi (by have := len_sz l; omega)
  | q + 1, l, L, w, hq, hroom, hsh, h => rcopy_step S l L w hroom h fun i hi o n s t k K W hk hK => by
    have h1 := sz_el l i hi
    have h2 := shL_at hi hsh
    rw [hk] at h1 h2
    simp only [szN] at h1
    exact rcopy_any S q k K W (by omega) h2.2.1 h2.2.2 hK

end Go.Proofs.YtaocbhfehncdcaaGreatDoor

namespace Go.Proofs.YtaocbhfehncdcaaGreatDoor
open Go.RowKit

theorem NcAt.cut {S : Nat → Prop} {w : World} : ∀ {l : List Nd} {cs : List Value}, NcAt S w l cs → ∃ A : List Value, A.length = l.length * 5 ∧ NcAt S w l A ∧ (∀ (j : Nat) (u : Value), A[j]? = some u → cs[j]? = some u) ∧ ∀ u ∈ A, u.oneCell' = true
  | _, _, .nil => ⟨[], rfl, .nil, fun j u h => by simp at h, fun u h => by simp at h⟩
  | _, _, .cons (op := op) (s := s) (t := t) (n := n) (L := L) h hr => by
    obtain ⟨A, h1, h2, h3, h4⟩ := hr.cut
    refine ⟨.int .i64 op :: .string s :: .string t :: .int .i64 n :: L :: A, by simp [h1, Nat.succ_mul], .cons h h2, fun j u hj => ?_, fun u hu => ?_⟩
    · match j, hj with
      | 0, hj => simpa using hj
      | 1, hj => simpa using hj
      | 2, hj => simpa using hj
      | 3, hj => simpa using hj
      | 4, hj => simpa using hj
      | j + 5, hj => simpa using h3 j u (by simpa using hj)
    · obtain ⟨a, k, c, rfl⟩ := h.val
      simp only [List.mem_cons] at hu
      rcases hu with rfl | rfl | rfl | rfl | rfl | hu
      all_goals first | exact h4 u hu | rfl

set_option maxRecDepth 100000 in
set_option maxHeartbeats 4000000 in
theorem clone_at (ad : Addr) (n c : Nat) (news : List Value) (w : World) (hl : news.length = n * 5) (hn : n ≤ maxLen) (hbig : n * 72 ≤ 140737488355328)
    (hc : ∀ (j : Nat) (u : Value), news[j]? = some u → w.cell? (ad.add j) = some u) (h1 : ∀ u ∈ news, u.oneCell' = true) :
    Calls Tryz.prog 31 #[.slice (some ad) n c] w fun e w' => ∃ v, e = .returned v ∧ w'.ownsRow w.heap.size 28 5 v n news ∧ Below w.heap.size w w' := by
  obtain ⟨i0, hi, hz0, hz1, hz2⟩ := info_parts infoN
  have A := Lib.hid hc
  have q22 : ∀ (w : World) (a : Option Addr) (n c n' c' : Nat), (binOp .eql 26 (.slice a n c) (.slice none n' c')).run Tryz.prog w = .ok (.bool a.isNone) w := fun w a n c n' c' => Lib.run_eql_slice_nil w _ _ a n c n' c' Tryz.underlying26
  clear hc
  go_enter Tryz.func31, Tryz.ntmps31
  go_wp2_with (at_builtin; refine wpList_append_own _ rfl _ _ 26 rfl w.heap.size 28 i0 (.agg #[.int .i64 0, .string ⟨#[]⟩, .string ⟨#[]⟩, .int .i64 0, .slice none 0 0]) 5 72 Tryz.underlying26 hi hz0 hz1 hz2 rfl (by decide) _ _ _ rfl (World.ownsRow_made w #[] 0 (Nat.le_refl _) (Nat.zero_le _) (by simp)) ad n c news rfl ?qc1 ?qc2 ?qc3 ?qc4 ?qc5 ?qc6 ?_)
  case qc1 => exact hl
  case qc2 =>
    intro j u hj
    exact Lib.cell?_alloc_some _ (A.out j u hj)
  case qc3 => exact h1
  case qc4 => rw [Nat.zero_add]; exact hn
  case qc5 => rw [Nat.zero_add]; exact hbig
  case qc6 => simp
  intro v' w1 hown hgrow hnil
  obtain ⟨va, vc, rfl⟩ := row_form hown
  go_wp2
  go_ret
  exact ⟨_, rfl, by simpa using hown, ((Below.refl _ w).alloc (Nat.le_refl _) _).grown hgrow (by simp) (by intro k hk; simp [Value.ownBlock] at hk; omega)⟩
set_option maxRecDepth 100000 in
set_option maxHeartbeats 4000000 in
theorem clone_nil (c : Nat) (w : World) : Calls Tryz.prog 31 #[.slice none 0 c] w fun e w' => e = .returned (.slice none 0 0) ∧ w' = w := by
  have q22 : ∀ (w : World) (a : Option Addr) (n c n' c' : Nat), (binOp .eql 26 (.slice a n c) (.slice none n' c')).run Tryz.prog w = .ok (.bool a.isNone) w := fun w a n c n' c' => Lib.run_eql_slice_nil w _ _ a n c n' c' Tryz.underlying26
  go_enter Tryz.func31, Tryz.ntmps31
  go_wp2
  go_ret
  exact ⟨rfl, rfl⟩
theorem clone_any (S : Nat → Prop) (l : List Nd) (L : Value) (w : World) (hroom : l.length * 72 ≤ Rm) (h : NsAt S w l L) :
    Calls Tryz.prog 31 #[L] w fun e w' => ∃ v A, e = .returned v ∧ w'.ownsRow w.heap.size 28 5 v l.length A ∧ Below w.heap.size w w' ∧ NcAt S w l A := by
  cases h with
  | @none a c =>
    cases a with
    | none =>
      refine (clone_nil c w).mono ?_
      rintro e w' ⟨rfl, rfl⟩
      exact ⟨_, [], rfl, World.ownsRow_nil _ _ _ _, Below.refl _ _, .nil⟩
    | some ad => exact (clone_at ad 0 c [] w rfl (Nat.zero_le _) (by omega) (fun j u h => by simp at h) fun u h => by simp at h).mono fun e w' ⟨v, h1, h2, h3⟩ => ⟨v, [], h1, h2, h3, .nil⟩
  | some hS hg hc hn hm =>
    subst hn
    obtain ⟨A, h1, h2, h3, h4⟩ := hc.cut
    refine (clone_at _ _ _ A w h1 hm hroom (fun j u hj => ?_) h4).mono fun e w' ⟨v, k1, k2, k3⟩ => ⟨v, A, k1, k2, k3, h2⟩
    have := h3 j u hj
    rw [List.getElem?_drop] at this
    rw [add_at, Lib.cell_of_heap hg]
    simpa using this
/-- New blocks, not the row's own, and nothing in them is frozen. -/
def Fz (W0 : Nat) (v : Value) (w : World) : Nat → Prop := fun g => (W0 ≤ g ∧ some g ≠ v.ownBlock) ∧ ∀ i, w.frozen? ⟨g, i, none⟩ = false
def TcP (l : List Nd) (w : World) (e : Ending) (w' : World) : Prop :=
  ∃ v xs, e = .returned v ∧ Below w.heap.size w w' ∧ w'.ownsRow w.heap.size 28 5 v l.length xs ∧ NcAt (Fz w.heap.size v w') w' l xs
theorem set_fifth {A R : List Value} {v0 v1 v2 v3 v4 u : Value} {k : Nat} (h : A.length = k * 5) : (A ++ v0 :: v1 :: v2 :: v3 :: v4 :: R).set (k * 5 + 4) u = (A ++ [v0, v1, v2, v3, u]) ++ R := by
  rw [List.set_append_right _ _ (by omega), h, show k * 5 + 4 - k * 5 = 4 by omega]
  simp
theorem fifth {A R : List Value} {v0 v1 v2 v3 v4 : Value} {k : Nat} (h : A.length = k * 5) : (A ++ v0 :: v1 :: v2 :: v3 :: v4 :: R)[k * 5 + 4]? = some v4 := by
  rw [List.getElem?_append_right (by omega), h, show k * 5 + 4 - k * 5 = 4 by omega]
  rfl
set_option maxRecDepth 100000 in
set_option maxHeartbeats 1000000 in
theorem tcopy_step (S : Nat → Prop) (l : List Nd) (L : Value) (w : World) (hroom : l.length * 72 ≤ Rm) (h : NsAt S w l L)
    (hih : ∀ i (h : i < l.length) (o n : Int) (s t : ByteArray) (k : List Nd) (S : Nat → Prop) (K : Value) (W : World), l[i] = .mk o s t n k → NsAt S W k K → Calls Tryz.prog 16 #[K] W (TcP k W)) : Calls Tryz.prog 16 #[L] w (TcP l w) := by
  have HCL := Lib.hid (clone_any (fun g => g < w.heap.size) l L w hroom (h.move fun g _ h2 => ⟨rfl, h2⟩))
  have HP : Hid (∀ W v xs, W.ownsRow w.heap.size 28 5 v l.length xs → NcAt (Fz w.heap.size v W) W l xs → Below w.heap.size w W → TcP l w (.returned v) W) := fun W v xs h1 h2 h3 => ⟨v, xs, rfl, h3, h1, h2⟩
  have HIH := Lib.hid hih
  have HRM : Hid (l.length * 72 ≤ 140737488355328) := hroom
  obtain ⟨a, c, rfl, _, _⟩ := h.row
  clear h hroom hih
  go_enter Tryz.func16, Tryz.ntmps16
  go_wp2_with fail
  refine HCL.out.mono ?_
  rintro e1 w1 ⟨v, A0, rfl, hown, hb1, hnc⟩
  obtain ⟨va, vc, rfl⟩ := row_form hown
  have HNC1 : Hid (NcAt (fun g => g < w.heap.size) w1 l A0) := hnc.move fun g h1 h2 => ⟨hb1.block g h2, h1⟩
  have HB1 := Lib.hid hb1
  have HOWN1 := Lib.hid hown
  clear hnc hb1 hown HCL
  have hrm := HRM.out
  go_wp2
  go_loopw [9] (fun i wr => ∃ (k : Nat) (A R : List Value), k ≤ l.length ∧ i = .int .i64 (k : Int) ∧ wr.ownsRow w.heap.size 28 5 (.slice va l.length vc) l.length (A ++ R) ∧ A.length = k * 5 ∧ NcAt (Fz w.heap.size (.slice va l.length vc) wr) wr (l.take k) A ∧ NcAt (fun g => g < w.heap.size) wr (l.drop k) R ∧ Hid (Below w.heap.size w wr)) (fun i _ => l.length - (intOf i).toNat)
  case atStart => exact ⟨0, [], A0, Nat.zero_le _, rfl, HOWN1.out, rfl, .nil, HNC1.out, HB1⟩
  case round =>
    obtain ⟨k, A, R, hk, rfl, hown, hA, hnc, hnr, hb⟩ := hrel
    by_cases hlt : k < l.length
    · have hdr : l.drop k = l[k] :: l.drop (k + 1) := List.drop_eq_getElem_cons hlt
      generalize hlk : l[k] = nd at *
      obtain ⟨eo, es, eu, en, el⟩ := nd
      rw [hdr] at hnr
      cases hnr with
      | @cons _ _ _ _ _ L0 _ R0 hL0 hR0 =>
        obtain ⟨ea, ek, ec, rfl⟩ := hL0.val
        obtain ⟨b, rfl, hbl⟩ : ∃ b, va = some ⟨b, 0, none⟩ ∧ b < wr.heap.size ∧ w.heap.size ≤ b := by
          rcases hown.2 with ⟨h0, h1⟩ | ⟨g, cap, cur, h0, h1, hg, _⟩
          · omega
          · simp only [Value.slice.injEq] at h0
            exact ⟨g, h0.1, (Array.getElem?_eq_some_iff.1 hg).1, h1⟩
        have x1 : (k : Int) < (l.length : Int) := by omega
        have x5 : (0 : Int) ≤ (k : Int) := by omega
        have x3 : IntKind.i64.wrap ((k : Int) + 1) = (k : Int) + 1 := IntWalk.i64_in _ (by omega)
        have q4 : wr.cell? ⟨b, k * 5 + 4, none⟩ = some (.slice ea ek ec) := by
          have := hown.cells (g := b) rfl (k * 5 + 4) _ (fifth hA)
          rwa [add_at, Nat.zero_add] at this
        have HCALL := Lib.hid (HIH.out k hlt eo en es eu el _ _ _ hlk hL0)
        have HOWN := Lib.hid hown
        have HNC := Lib.hid hnc
        have HR0 := Lib.hid hR0
        clear hown hnc hR0 hL0 hdr
        go_wp2_with fail
        refine HCALL.out.mono ?_
        rintro e2 W2 ⟨v2, ys, rfl, hb2, hown2, hnc2⟩
        obtain ⟨ua, uc, rfl⟩ := row_form hown2
        have hownb : W2.ownsRow w.heap.size 28 5 (.slice (some ⟨b, 0, none⟩) l.length vc) l.length (A ++ Value.int .i64 eo :: Value.string es :: Value.string eu :: Value.int .i64 en :: Value.slice ea ek ec :: R0) := row_stays HOWN.out fun g hg => hb2.block g (HOWN.out.lt g hg).2
        have q5 : W2.cell? ⟨b, k * 5 + 4, none⟩ = some (.slice ea ek ec) := by
          have := hownb.cells (g := b) rfl (k * 5 + 4) _ (fifth hA)
          rwa [add_at, Nat.zero_add] at this
        have f5 := hownb.frozenAt (k * 5 + 4)
        have hst := (hownb.stored (k * 5 + 4) (.slice ua el.length uc)).1
        rw [set_fifth hA] at hst
        have HOWN5 := Lib.hid hst
        have hbb : ∀ g, g ≠ b → (W2.setCell ⟨b, k * 5 + 4, none⟩ (.slice ua el.length uc)).heap[g]? = W2.heap[g]? := fun g hg => Below.heap_setCell W2 ⟨b, k * 5 + 4, none⟩ _ g hg
        have HL5 : Hid (NsAt (Fz w.heap.size (.slice (some ⟨b, 0, none⟩) l.length vc) (W2.setCell ⟨b, k * 5 + 4, none⟩ (.slice ua el.length uc))) (W2.setCell ⟨b, k * 5 + 4, none⟩ (.slice ua el.length uc)) el (.slice ua el.length uc)) := by
          have hns : NsAt (fun g => wr.heap.size ≤ g ∧ ∀ i, W2.frozen? ⟨g, i, none⟩ = false) W2 el (.slice ua el.length uc) := ns_ofRow hown2 (fun g hg => ⟨(hown2.lt g hg).1, fun i => by
            obtain ⟨rfl⟩ : ua = some ⟨g, 0, none⟩ := by
              rcases hown2.2 with ⟨h0, h1⟩ | ⟨g', cap, cur, h0, h1, hg', _⟩
              · rw [h0] at hg
                simp [Value.ownBlock] at hg
              · simp only [Value.slice.injEq] at h0
                rw [h0.1] at hg ⊢
                simp only [Value.ownBlock, Option.some.injEq] at hg
                rw [hg]
            exact hown2.frozenAt i⟩) (hnc2.move fun g h1 h2 => ⟨rfl, h1.1.1, h1.2⟩)
          refine hns.move fun g h1 h2 => ?_
          have hgb : g ≠ b := by omega
          refine ⟨hbb g hgb, ⟨by omega, fun e => hgb (by injection e)⟩, fun i => ?_⟩
          exact (World.frozen?_of_block (a := ⟨g, i, none⟩) (hbb g hgb)).trans (h1.2 i)
        have HNC5 : Hid (NcAt (Fz w.heap.size (.slice (some ⟨b, 0, none⟩) l.length vc) (W2.setCell ⟨b, k * 5 + 4, none⟩ (.slice ua el.length uc))) (W2.setCell ⟨b, k * 5 + 4, none⟩ (.slice ua el.length uc)) (l.take (k + 1)) (A ++ [.int .i64 eo, .string es, .string eu, .int .i64 en, .slice ua el.length uc])) := by
          show NcAt _ _ _ _
          rw [take_snoc l k hlt, hlk]
          refine NcAt.snoc HL5.out (HNC.out.move fun g h1 h2 => ?_) (by rw [List.length_take, hA]; congr 1; omega)
          have hgb : g ≠ b := fun e => h1.1.2 (by rw [e]; rfl)
          have hh := (hbb g hgb).trans (hb2.block g h2)
          exact ⟨hh, h1.1, fun i => (World.frozen?_of_block (a := ⟨g, i, none⟩) hh).trans (h1.2 i)⟩
        have HR5 : Hid (NcAt (fun g => g < w.heap.size) (W2.setCell ⟨b, k * 5 + 4, none⟩ (.slice ua el.length uc)) (l.drop (k + 1)) R0) := by
          refine HR0.out.move fun g h1 h2 => ⟨(hbb g (by omega)).trans (hb2.block g h2), h1⟩
        have HB5 : Hid (Below w.heap.size w (W2.setCell ⟨b, k * 5 + 4, none⟩ (.slice ua el.length uc))) := setCell_below (hb.out.trans (hb2.mono hb.out.size)) hbl.2 _ _
        have HA5 : Hid ((A ++ [Value.int .i64 eo, Value.string es, Value.string eu, Value.int .i64 en, Value.slice ua el.length uc]).length = (k + 1) * 5) := by
          show _ = _
          rw [List.length_append, hA]
          simp
          omega
        clear hownb hst hb2 hown2 hnc2 HL5 HR0 HNC hbb
        go_wp2
        go_roundw
        case rel => exact ⟨k + 1, _, R0, hlt, by first | rfl | go_num, HOWN5.out, HA5.out, HNC5.out, HR5.out, HB5⟩
        case measure => simp [intOf]; omega
    · have hke : k = l.length := by omega
      have x1 : (l.length : Int) ≤ (k : Int) := by omega
      have HE : Hid (TcP l w (.returned (.slice va l.length vc)) wr) := by
        have h2 := hnc
        rw [hke, List.take_length] at h2
        exact HP.out _ _ _ hown (h2.more R) hb.out
      clear hke hown hnc hnr
      go_wp2
      go_ret
      exact HE.out
theorem tcopy_any : ∀ (q : Nat) (S : Nat → Prop) (l : List Nd) (L : Value) (w : World), szL l ≤ q → l.length * 72 ≤ Rm → shL l → NsAt S w l L → Calls Tryz.prog 16 #[L] w (TcP l w)
  | 0, S, l, L, w, hq, hroom, hsh, h => tcopy_step S l L w hroom h fun i hi o n s t k S K W hk hK => absurd hi (by have := len_sz l; omega)
  | q + 1, S, l, L, w, hq, hroom, hsh, h => tcopy_step S l L w hroom h fun i hi o n s t k S K W hk hK => by
    have h1 := sz_el l i hi
    have h2 := shL_at hi hsh
    rw [hk] at h1 h2
    simp only [szN] at h1
    exact tcopy_any q S k K W (by omega) h2.2.1 h2.2.2 hK

end Go.Proofs.YtaocbhfehncdcaaGreatDoor
