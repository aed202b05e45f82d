/-
  chars.Spans: a class as a row of spans. Condition: the class is there.
-/
import Derived.Test.YtdjpjknbbedamaaCl
import Derived.Test.YtdjpjknbbedamaaRx
import Derived.Laws.AppendOwnNone
import Derived.Deep.WholeRow
import Derived.Deep.Cut
import Derived.ChangeKeysEq
namespace Go.Proofs.Ytdjpjknbbedamaa
open Go.RowKit
theorem rowC_size (l : List (Nat × Nat)) (hl : l.length ≤ 22) : (rowC l).toArray.size = 44 := by
  have : (l.flatMap (fun p => [Value.int .i64 p.1, .int .i64 p.2])).length = 2 * l.length := by
    clear hl
    induction l with
    | nil => rfl
    | cons x l ih =>
      rw [List.flatMap_cons, List.length_append, ih, List.length_cons]
      simp only [List.length_cons, List.length_nil]
      omega
  simp only [rowC, List.size_toArray, List.length_append, this, List.length_replicate]
  omega
theorem info40 : (Try.prog.info? 40).map (fun i => (i.zero, i.size, i.bytes)) = some (some (.agg #[.int .i64 0, .int .i64 0]), 2, 16) := by kernel_rfl
def flatS (l : List (Nat × Nat)) : List Value := l.flatMap (fun p => [.int .i64 p.1, .int .i64 p.2])
theorem drop_row (l : List (Nat × Nat)) (n k : Nat) (h : 2 * k + 2 ≤ 2 * l.length + n) :
    ((flatS l ++ List.replicate n (Value.int .i64 0)).drop (2 * k)).take 2 = [.int .i64 ((l.getD k (0, 0)).1 : Nat), .int .i64 ((l.getD k (0, 0)).2 : Nat)] := by
  induction l generalizing k with
  | nil =>
    obtain ⟨m, hm⟩ : ∃ m, n - 2 * k = m + 2 := ⟨n - 2 * k - 2, by simp at h; omega⟩
    rw [flatS, List.flatMap_nil, List.nil_append, List.drop_replicate, hm]
    rfl
  | cons x l ih =>
    cases k with
    | zero => rfl
    | succ k =>
      have := ih k (by simp only [List.length_cons] at h; omega)
      rw [show 2 * (k + 1) = 2 * k + 1 + 1 by omega]
      exact this
theorem idx_row (l : List (Nat × Nat)) (hl : l.length ≤ 22) (k : Nat) (hk : k < 22) (w : World) :
    (Instr.index 68 (.agg (rowC l).toArray) (.int .i64 k)).run Try.prog w = .ok (.agg #[.int .i64 ((l.getD k (0, 0)).1 : Nat), .int .i64 ((l.getD k (0, 0)).2 : Nat)]) w := by
  have hu := run_underlying (w := w) Try.underlying68
  have hag := Try.isAgg67 w
  have hso := Try.sizeOf67 w
  have he : List.take 2 (List.drop (k * 2) (rowC l)) = [.int .i64 ((l.getD k (0, 0)).1 : Nat), .int .i64 ((l.getD k (0, 0)).2 : Nat)] := by
    rw [Nat.mul_comm k 2]
    exact drop_row l (44 - 2 * l.length) k (by omega)
  generalize (l.getD k (0, 0)).1 = a at *
  generalize (l.getD k (0, 0)).2 = b at *
  simp [Instr.index, asIntOf, hu, part, hag, hso, hk, Result.andThen, he]
theorem eq_pair (x y : Int) (w : World) : (Op.equalIn 10000 67 (.agg #[.int .i64 x, .int .i64 y]) (.agg #[.int .i64 0, .int .i64 0])).run Try.prog w = .ok (x == 0 && y == 0) w := by
  obtain ⟨i0, hi, _⟩ := info_parts info3
  have hc : Try.prog.cellsOf 3 = 1 := by kernel_rfl
  have hag := Try.isAgg3
  rw [run_equalIn_array w 9999 _ _ Try.underlying67 hi, hc]
  have he := fun (a b : Int) (w : World) => run_equalIn_int (P := Try.prog) w 9998 3 .i64 .i64 a b Try.underlying3
  simp only [List.range_succ, List.range_zero, List.nil_append, List.cons_append, Op.eqItems, part, Sem.run_bind, hag, Result.andThen_ok]
  by_cases hx : x = 0
  · subst hx
    by_cases hy : y = 0
    · subst hy
      simp [he]
    · have : (y == 0) = false := by simpa using hy
      simp [he, this]
  · have : (x == 0) = false := by simpa using hx
    simp [he, this]
theorem news2 (w : World) (o : Obj) (a b : Value) (t : TypeId) : ∀ (j : Nat) (u : Value), [a, b][j]? = some u → ((w.alloc o).alloc (.cells #[a, b] t)).cell? ((⟨w.heap.size + 1, 0, none⟩ : Addr).add j) = some u := fun j u hu => by
  have h : ((w.alloc o).alloc (.cells #[a, b] t)).heap[w.heap.size + 1]? = some (.cells #[a, b] t (0, 0)) := by
    have := heap_alloc_last (w.alloc o) (.cells #[a, b] t)
    rwa [show (w.alloc o).heap.size = w.heap.size + 1 by simp] at this
  have hadd : (⟨w.heap.size + 1, 0, none⟩ : Addr).add j = ⟨w.heap.size + 1, j, none⟩ := by unfold Addr.add; split <;> simp_all
  rw [hadd, cell_of_row _ _ j _ t (0, 0) h]
  simpa using hu
theorem wpList_load_run {P : Program} {w : World} {ops : Array Oper} {rest : List Oper} {o : Oper} {a : Act} {Q : Exit → Act → World → Prop}
    (hg : o.guard = none) (x : Operand) (t : TypeId) (hop : o.op = Op.load t x) (v : Value) (hrun : (Instr.loadAt t (a.eval x)).run P w = .ok v w)
    (hK : wpList P ops Q rest (a.put o.dst v) w) : wpList P ops Q (o :: rest) a w := by
  refine wpList_plain hg fun K' hK' => ?_
  unfold Oper.wp
  simp [execOp, hop, hrun, Result.andThen]
  exact hK' _ _ hK
theorem rowC_one (l : List (Nat × Nat)) : (rowC l).toArray.all (·.oneCell') = true := by
  rw [List.all_toArray, List.all_eq_true]
  intro v hv
  rcases List.mem_append.1 hv with h | h
  · obtain ⟨p, _, h⟩ := List.mem_flatMap.1 h
    rcases List.mem_cons.1 h with rfl | h
    · rfl
    · rcases List.mem_cons.1 h with rfl | h
      · rfl
      · cases h
  · rw [(List.mem_replicate.1 h).2]
    rfl
theorem load_row {P : Program} {w : World} {B : Nat} {R : Array Value} {t : TypeId} {fr : Nat × Nat} {n : Nat} (h : w.heap[B]? = some (.cells R t fr)) (hn : R.size = n) :
    (loadCellsFrom ⟨B, 0, none⟩ 0 n #[]).run P w = .ok R w := by
  subst hn
  have := run_loadCells_list (P := P) w ⟨B, 0, none⟩ R.toList (fun j v hv => by
    have hadd : (⟨B, 0, none⟩ : Addr).add j = ⟨B, j, none⟩ := by unfold Addr.add; split <;> simp_all
    rw [hadd, cell_of_row _ _ j R t fr h]
    simpa using hv)
  simpa [loadCells] using this
/-- A row of spans that the call has made. -/
def SpRow (B : Nat) (v : Value) (l : List (Nat × Nat)) (w : World) : Prop := w.ownsRow B 40 2 v l.length (flatS l) ∧ ∃ ao cv, v = .slice ao l.length cv
theorem form_any2 {w : World} {b : Nat} {e : TypeId} {z n : Nat} {v : Value} {xs : List Value} (h : w.ownsRow b e z v n xs) : ∃ ao cv, v = .slice ao n cv := by
  rcases h.2 with ⟨rfl, h0⟩ | ⟨g, cap, cur, rfl, _⟩
  · subst h0
    exact ⟨none, 0, rfl⟩
  · exact ⟨_, _, rfl⟩

set_option maxRecDepth 100000 in
set_option maxHeartbeats 4000000 in
theorem spans_ok (s : ByteArray) (l : List (Nat × Nat)) (hl : l.length ≤ 22) (hne : ∀ p ∈ l, p.2 ≠ 0) (hf : findS s tab = some (rowV l)) (w : World) :
    Calls Try.prog 21 #[.string s] w fun e w' => ∃ v, e = .returned (.tuple #[v, .int .i64 0]) ∧ SpRow w.heap.size v l w' ∧ Below w.heap.size w w' := by
  have HC := Lib.hid classes_any
  have HL := Lib.hid (fun (w : World) (B : Nat) (h : SMap w B tab) => h.look (t := 70) Try.underlying70 Try.underlying9 hf)
  have HIX := Lib.hid (fun (k : Nat) (hk : k < 22) (w : World) => idx_row l hl k hk w)
  have HNZ : Hid (∀ k, k < l.length → (l.getD k (0, 0)).2 ≠ 0) := fun k h => by
    rw [List.getD_eq_getElem?_getD, List.getElem?_eq_getElem h]
    exact hne _ (List.getElem_mem h)
  have HZZ : Hid (∀ k, l.length ≤ k → l.getD k (0, 0) = (0, 0)) := fun k h => by
    rw [List.getD_eq_getElem?_getD, List.getElem?_eq_none h]
    rfl
  have HTS : Hid (∀ k, k < l.length → flatS (l.take (k + 1)) = flatS (l.take k) ++ [.int .i64 ((l.getD k (0, 0)).1 : Nat), .int .i64 ((l.getD k (0, 0)).2 : Nat)] ∧ (l.take (k + 1)).length = (l.take k).length + 1) := fun k h => by
    rw [List.take_succ_eq_append_getElem h, List.getD_eq_getElem?_getD, List.getElem?_eq_getElem h]
    refine ⟨?_, by simp only [List.length_append, List.length_take, List.length_cons, List.length_nil]⟩
    rw [flatS, List.flatMap_append]
    rfl
  have HTE : Hid (∀ k, l.length ≤ k → l.take k = l) := fun k h => List.take_of_length_le h
  have HTL : Hid (∀ k, (l.take k).length ≤ 22) := fun k => by
    rw [List.length_take]
    show _ ≤ _
    omega
  have HR : Hid (rowV l = .agg (rowC l).toArray) := rfl
  have HR1 : Hid ((rowC l).toArray.all (·.oneCell') = true) := rowC_one l
  have HRL : Hid ((rowC l).toArray.size = 44) := rowC_size l hl
  clear hf hne
  generalize rowV l = V at *
  generalize (rowC l).toArray = R at *
  obtain rfl := HR.out
  clear HR
  go_enter Try.func21, Try.ntmps21
  go_wp2_with fail
  refine (HC.out _).mono ?_
  rintro e w1 ⟨rfl, hm, hb1⟩
  have hlk := HL.out _ _ hm
  clear hm
  have hb := Lib.hid hb1
  clear hb1
  go_wp2_with fail
  rw [run_storeCells_new w1 68 _ R (by rw [HRL.out]; rfl) (by rw [HRL.out]; rfl) HR1.out, Result.andThen, Oper.upon_skip]
  have hrow : (w1.alloc (.cells R 68)).heap[w1.heap.size]? = some (.cells R 68 (0, 0)) := heap_alloc_last w1 _
  have HB2 : Hid (Below w.heap.size w (w1.alloc (.cells R 68))) := hb.out.alloc hb.out.size _
  generalize w1.alloc (.cells R 68) = w2 at *
  generalize w1.heap.size = B2 at *
  obtain ⟨i0, hi, hz0, hz1, hz2⟩ := info_parts info40
  have hsz2 := HB2.out.size
  obtain ⟨w3, hmk, hown0, hg3⟩ := run_makeSlice_owned (P := Try.prog) w2 w.heap.size 36 40 i0 _ 2 Try.underlying36 hi hz0 hz1 .i64 .i64 22 (by decide) (by rw [hz2]; decide) (by decide) hsz2
  have hmk : (Instr.makeSlice 36 (.int .i64 0) (.int .i64 22)).run Try.prog w2 = .ok (.slice (some ⟨w2.heap.size, 0, none⟩) 0 22) w3 := hmk
  have HB3 : Hid (Below w.heap.size w w3) := HB2.out.grown hg3 hsz2 (by simp)
  have hrow3 : w3.heap[B2]? = some (.cells R 68 (0, 0)) := by
    rw [hg3.block B2 (Array.getElem?_eq_some_iff.1 hrow).1 (by simp)]
    exact hrow
  have hld := load_row (P := Try.prog) hrow3 HRL.out
  generalize w2.heap.size = B3 at *
  clear hrow hrow3 hg3
  have hlo : (Instr.loadAt 68 (.pointer (some ⟨B2, 0, none⟩))).run Try.prog w3 = .ok (.agg R) w3 := by
    have hag := Try.isAgg68 w3
    have hso := Try.sizeOf68 w3
    simp only [Instr.loadAt, Instr.sureAddr, Sem.run_bind, Sem.run_pure, Result.andThen, loadVar, hag, hso, loadCells, hld, if_true]
  have HLO := Lib.hid hlo
  clear hlo hld
  go_upto_region 5 with (fail)
  refine wp_region_lit ?_
  refine wpList_load_run rfl _ _ rfl (.agg R) HLO.out ?_
  go_wp2_with fail
  have HBR : Hid (Below w.heap.size w w3) := HB3
  have h00 : flatS (l.take 0) = [] := rfl
  go_loopw [6, 19] (fun v i wr => ∃ (k : Nat) (ao : Option Addr) (cv : Nat), k ≤ 22 ∧ i = .int .i64 k ∧ v = .slice ao (l.take k).length cv ∧ wr.ownsRow w.heap.size 40 2 v (l.take k).length (flatS (l.take k)) ∧ Hid (Below w.heap.size w wr)) (fun _ i _ => 22 - (intOf i).toNat)
  case atStart => exact ⟨0, _, _, Nat.zero_le _, rfl, rfl, hown0, HBR⟩
  case round =>
    obtain ⟨k, ao, cv, hk, rfl, rfl, hown, hbl⟩ := hrel
    by_cases hlt : k < 22
    · have hix := HIX.out k hlt wr
      by_cases hkl : k < l.length
      · have hnz := HNZ.out k hkl
        obtain ⟨hts, htl⟩ := HTS.out k hkl
        have HTSk := Lib.hid hts
        have HTLk := Lib.hid htl
        have hfl := HTL.out k
        clear hts htl
        generalize (l.getD k (0, 0)).1 = x at *
        generalize (l.getD k (0, 0)).2 = y at *
        have heq := eq_pair (x : Int) (y : Int)
        have hb0 : (((x : Int) == 0) && ((y : Int) == 0)) = false := by
          have : ((y : Int) == 0) = false := by rw [beq_eq_false_iff_ne]; omega
          rw [this, Bool.and_false]
        simp only [hb0] at heq
        clear hb0
        generalize l.take k = A at *
        go_wp2_with (first
          | (at_builtin; refine wpList_append_own _ rfl _ _ 36 rfl w.heap.size 40 i0 (.agg #[.int .i64 0, .int .i64 0]) 2 16 Try.underlying36 hi hz0 hz1 hz2 rfl (by decide) _ _ _ rfl ((hown.alloc _).alloc _) _ 1 1 [.int .i64 (x : Int), .int .i64 (y : Int)] rfl rfl (news2 _ _ _ _ _) (fun u hu => by simp at hu; rcases hu with rfl | rfl <;> rfl) (by unfold maxLen; omega) (by omega) (by have := hbl.out.size; simp; omega) ?_; intro v' w4 hown' hgrow' hnil'))
        have hb4 : Hid (Below w.heap.size w w4) := ((hbl.out.alloc hbl.out.size _).alloc (Nat.le_trans hbl.out.size (by simp)) _).grown hgrow' (by have := hbl.out.size; simp; omega) (fun q hq => (hown.lt q hq).1)
        have HO4 : Hid (w4.ownsRow w.heap.size 40 2 v' (l.take (k + 1)).length (flatS (l.take (k + 1)))) := by
          show World.ownsRow _ _ _ _ _ _ _
          rw [HTSk.out, HTLk.out]
          exact hown'
        obtain ⟨ao2, cv2, rfl⟩ := form_any2 HO4.out
        clear hown' hgrow' hnil' hown
        go_wp2
        go_roundw
        case rel => exact ⟨k + 1, ao2, cv2, by omega, by go_num, rfl, HO4.out, hb4⟩
        case measure => simp [intOf]; omega
      · have hzz := HZZ.out k (by omega)
        rw [hzz] at hix
        have heq := eq_pair 0 0
        have hte := (HTE.out k (by omega)).trans (HTE.out (k + 1) (by omega)).symm
        have HTE2 := Lib.hid hte
        have HO := Lib.hid hown
        clear hte hown hzz
        go_wp2
        go_roundw
        case rel => exact ⟨k + 1, ao, cv, by omega, by go_num, by rw [← HTE2.out], by rw [← HTE2.out]; exact (HO.out.alloc _), hbl.out.alloc hbl.out.size _⟩
        case measure => simp [intOf]; omega
    · obtain rfl : k = 22 := by omega
      have HE := Lib.hid (HTE.out 22 (by assumption))
      have HO := Lib.hid hown
      clear hown
      go_wp2
      go_ret2
      refine ⟨_, rfl, ?_, hbl.out⟩
      have := HO.out
      rw [HE.out] at this
      rw [HE.out]
      exact ⟨this, ao, cv, rfl⟩
end Go.Proofs.Ytdjpjknbbedamaa
