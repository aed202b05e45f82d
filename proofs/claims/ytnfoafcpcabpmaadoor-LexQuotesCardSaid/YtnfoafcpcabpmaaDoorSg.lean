/-
  A scanner's read where an operator is expected: a sign. Conditions: a text of at most 100000 bytes; the row of signs as it is laid.
-/
import Derived.Test.YtnfoafcpcabpmaaDoorRg
import Derived.Deep.WholeRow
import Derived.Deep.Cut
namespace Go.Proofs.YtnfoafcpcabpmaaDoor
open Go.RowKit

/-- The program's signs, a longer one first. -/
def sgAll : List (List UInt8) := [[60, 61, 62], [124, 124, 61], [38, 38, 61], [47, 47, 61], [61, 61], [33, 61], [60, 61], [62, 61], [46, 46], [43, 43], [45, 45], [43, 61], [45, 61], [42, 61], [47, 61], [37, 61], [46, 61], [124, 124], [38, 38], [47, 47], [61, 126], [33, 126], [61, 62], [45, 62], [40], [41], [91], [93], [123], [125], [44], [59], [58], [63], [92], [61], [60], [62], [43], [45], [42], [47], [37], [46], [33], [38], [124], [94]]
def sgC : Array Value := (sgAll.map fun l => Value.string (bs l)).toArray
/-- The row of signs holds them. -/
def SigAt (w : World) : Prop := w.var? Tryd.prog "motley/lex.signs" = some sgC
theorem gSig : Tryd.prog.globalNamed "motley/lex.signs" = some 0 := by kernel_rfl
theorem SigAt.row {w : World} (h : SigAt w) : ∃ t fr, w.heap[0]? = some (.cells sgC t fr) := by
  unfold SigAt World.var? at h
  rw [gSig] at h
  simp only [Option.bind_some] at h
  split at h
  · rename_i cs t fr he
    cases h
    exact ⟨t, fr, he⟩
  · cases h
theorem SigAt.lt {w : World} (h : SigAt w) : 0 < w.heap.size := by
  obtain ⟨t, fr, h1⟩ := h.row
  exact (Array.getElem?_eq_some_iff.1 h1).1
theorem SigAt.block {w w' : World} (h : SigAt w) (hb : w'.heap[0]? = w.heap[0]?) : SigAt w' := by
  unfold SigAt World.var? at *
  rw [gSig] at *
  simp only [Option.bind_some] at *
  rw [hb]
  exact h
theorem load_row2 {P : Program} {w : World} {B : Nat} {R : Array Value} {t : TypeId} {fr : Nat × Nat} {n : Nat} (h : w.heap[B]? = some (.cells R t fr)) (hn : R.size = n) :
    (loadCellsFrom ⟨B, 0, none⟩ 0 n #[]).run P w = .ok R w := by
  subst hn
  have := run_loadCells_list (P := P) w ⟨B, 0, none⟩ R.toList (fun j v hv => by
    have hadd : (⟨B, 0, none⟩ : Addr).add j = ⟨B, j, none⟩ := by unfold Addr.add; split <;> simp_all
    rw [hadd, cell_of_row _ _ j R t fr h]
    simpa using hv)
  simpa [loadCells] using this
theorem load_run2 {P : Program} {w : World} {ops : Array Oper} {rest : List Oper} {o : Oper} {a : Act} {Q : Exit → Act → World → Prop}
    (hg : o.guard = none) (x : Operand) (t : TypeId) (hop : o.op = Op.load t x) (v : Value) (hrun : (Instr.loadAt t (a.eval x)).run P w = .ok v w)
    (hK : wpList P ops Q rest (a.put o.dst v) w) : wpList P ops Q (o :: rest) a w := by
  refine wpList_plain hg fun K' hK' => ?_
  unfold Oper.wp
  simp [execOp, hop, hrun, Result.andThen]
  exact hK' _ _ hK
theorem sig_load {w : World} (h : SigAt w) : (Instr.loadAt 73 (.pointer (some ⟨0, 0, none⟩))).run Tryd.prog w = .ok (.agg sgC) w := by
  obtain ⟨t, fr, h1⟩ := h.row
  have hld := load_row2 (P := Tryd.prog) (n := 48) h1 (by decide)
  have hag := Tryd.isAgg73 w
  have hso := Tryd.sizeOf73 w
  simp only [Instr.loadAt, Instr.sureAddr, Sem.run_bind, Sem.run_pure, Result.andThen, loadVar, hag, hso, loadCells, hld, if_true]
theorem sig_index (k : Nat) (hk : k < 48) (w : World) : (Instr.index 73 (.agg sgC) (.int .i64 k)).run Tryd.prog w = .ok (.string (bs (sgAll.getD k []))) w := by
  have hu := run_underlying (w := w) Tryd.underlying73
  have hag := Tryd.isAgg9 w
  have hso := Tryd.sizeOf9 w
  have he : sgC[k]? = some (.string (bs (sgAll.getD k []))) := by
    have h48 : k < sgAll.length := hk
    unfold sgC
    rw [List.getElem?_toArray, List.getElem?_map, List.getElem?_eq_getElem h48]
    simp [List.getD, List.getElem?_eq_getElem h48]
  simp [Instr.index, asIntOf, hu, part, hag, hso, hk, Result.andThen, he]
/-- The sign with which a text begins. -/
def sgF (l : List UInt8) : Option (List UInt8) := sgAll.find? fun g => g.isPrefixOf l
theorem sg_step (l : List UInt8) (k : Nat) (hk : k < 48) : (sgAll.drop k).find? (fun g => g.isPrefixOf l) = if (sgAll.getD k []).isPrefixOf l then some (sgAll.getD k []) else (sgAll.drop (k + 1)).find? (fun g => g.isPrefixOf l) := by
  have h48 : k < sgAll.length := hk
  rw [List.drop_eq_getElem_cons h48]
  have : sgAll.getD k [] = sgAll[k] := by simp [List.getD, List.getElem?_eq_getElem h48]
  rw [this, List.find?_cons]
  split <;> simp_all

end Go.Proofs.YtnfoafcpcabpmaaDoor
