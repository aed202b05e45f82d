/-
  A scanner's read where an operator is expected: a sign. Conditions: a text of at most 100000 bytes; the row of signs as it is laid. A scanner's run through a text whose tokens are foretold, one a round. Conditions: a text of at most 100000 bytes; each token is read and added as foretold. The first byte that sources do not have: foreign. Conditions: a text of at most 100000 bytes.
-/
import Derived.Test.YtaocbhfehncdcaaGreatDoorXM08
import Derived.Deep.WholeRow
import Derived.Deep.Cut
import Derived.Test.YtaocbhfehncdcaaGreatDoorXM04
import Derived.Test.YtaocbhfehncdcaaGreatDoorXM07
import Derived.Defers
import Derived.Test.YtaocbhfehncdcaaGreatDoorXM02
namespace Go.Proofs.YtaocbhfehncdcaaGreatDoor
open Go.RowKit

/-- The program's signs, a longer one first. -/
def sgAll : List (List UInt8) := [[60, 61, 62], [124, 124, 61], [38, 38, 61], [47, 47, 61], [61, 61], [33, 61], [60, 61], [62, 61], [46, 46], [43, 43], [45, 45], [43, 61], [45, 61], [42, 61], [47, 61], [37, 61], [46, 61], [124, 124], [38, 38], [47, 47], [61, 126], [33, 126], [61, 62], [45, 62], [40], [41], [91], [93], [123], [125], [44], [59], [58], [63], [92], [61], [60], [62], [43], [45], [42], [47], [37], [46], [33], [38], [124], [94]]
def sgC : Array Value := (sgAll.map fun l => Value.string (bs l)).toArray
/-- The row of signs holds them. -/
def SigAt (w : World) : Prop := w.var? Tryz.prog "motley/lex.signs" = some sgC
theorem gSig : Tryz.prog.globalNamed "motley/lex.signs" = some 0 := by kernel_rfl
theorem SigAt.row {w : World} (h : SigAt w) : ∃ t fr, w.heap[0]? = some (.cells sgC t fr) := by
  unfold SigAt World.var? at h
  rw [gSig] at h
  simp only [Option.bind_some] at h
  split at h
  · rename_i cs t fr he
    cases h
    exact ⟨t, fr, he⟩
  · cases h
theorem SigAt.lt {w : World} (h : SigAt w) : 0 < w.heap.size := by
  obtain ⟨t, fr, h1⟩ := h.row
  exact (Array.getElem?_eq_some_iff.1 h1).1
theorem SigAt.block {w w' : World} (h : SigAt w) (hb : w'.heap[0]? = w.heap[0]?) : SigAt w' := by
  unfold SigAt World.var? at *
  rw [gSig] at *
  simp only [Option.bind_some] at *
  rw [hb]
  exact h
theorem load_row2 {P : Program} {w : World} {B : Nat} {R : Array Value} {t : TypeId} {fr : Nat × Nat} {n : Nat} (h : w.heap[B]? = some (.cells R t fr)) (hn : R.size = n) :
    (loadCellsFrom ⟨B, 0, none⟩ 0 n #[]).run P w = .ok R w := by
  subst hn
  have := run_loadCells_list (P := P) w ⟨B, 0, none⟩ R.toList (fun j v hv => by
    have hadd : (⟨B, 0, none⟩ : Addr).add j = ⟨B, j, none⟩ := by unfold Addr.add; split <;> simp_all
    rw [hadd, cell_of_row _ _ j R t fr h]
    simpa using hv)
  simpa [loadCells] using this
theorem load_run2 {P : Program} {w : World} {ops : Array Oper} {rest : List Oper} {o : Oper} {a : Act} {Q : Exit → Act → World → Prop}
    (hg : o.guard = none) (x : Operand) (t : TypeId) (hop : o.op = Op.load t x) (v : Value) (hrun : (Instr.loadAt t (a.eval x)).run P w = .ok v w)
    (hK : wpList P ops Q rest (a.put o.dst v) w) : wpList P ops Q (o :: rest) a w := by
  refine wpList_plain hg fun K' hK' => ?_
  unfold Oper.wp
  simp [execOp, hop, hrun, Result.andThen]
  exact hK' _ _ hK
theorem sig_load {w : World} (h : SigAt w) : (Instr.loadAt 145 (.pointer (some ⟨0, 0, none⟩))).run Tryz.prog w = .ok (.agg sgC) w := by
  obtain ⟨t, fr, h1⟩ := h.row
  have hld := load_row2 (P := Tryz.prog) (n := 48) h1 (by decide)
  have hag := Tryz.isAgg145 w
  have hso := Tryz.sizeOf145 w
  simp only [Instr.loadAt, Instr.sureAddr, Sem.run_bind, Sem.run_pure, Result.andThen, loadVar, hag, hso, loadCells, hld, if_true]
theorem sig_index (k : Nat) (hk : k < 48) (w : World) : (Instr.index 145 (.agg sgC) (.int .i64 k)).run Tryz.prog w = .ok (.string (bs (sgAll.getD k []))) w := by
  have hu := run_underlying (w := w) Tryz.underlying145
  have hag := Tryz.isAgg9 w
  have hso := Tryz.sizeOf9 w
  have he : sgC[k]? = some (.string (bs (sgAll.getD k []))) := by
    have h48 : k < sgAll.length := hk
    unfold sgC
    rw [List.getElem?_toArray, List.getElem?_map, List.getElem?_eq_getElem h48]
    simp [List.getD, List.getElem?_eq_getElem h48]
  simp [Instr.index, asIntOf, hu, part, hag, hso, hk, Result.andThen, he]
/-- The sign with which a text begins. -/
def sgF (l : List UInt8) : Option (List UInt8) := sgAll.find? fun g => g.isPrefixOf l
theorem sg_step (l : List UInt8) (k : Nat) (hk : k < 48) : (sgAll.drop k).find? (fun g => g.isPrefixOf l) = if (sgAll.getD k []).isPrefixOf l then some (sgAll.getD k []) else (sgAll.drop (k + 1)).find? (fun g => g.isPrefixOf l) := by
  have h48 : k < sgAll.length := hk
  rw [List.drop_eq_getElem_cons h48]
  have : sgAll.getD k [] = sgAll[k] := by simp [List.getD, List.getElem?_eq_getElem h48]
  rw [this, List.find?_cons]
  split <;> simp_all

end Go.Proofs.YtaocbhfehncdcaaGreatDoor

namespace Go.Proofs.YtaocbhfehncdcaaGreatDoor
open Go.RowKit

/-- A block is none of a scanner's rows. -/
structure Ap (T : Nat) (tk tm op : Value) : Prop where
  a : some T ≠ tk.ownBlock
  b : some T ≠ tm.ownBlock
  c : some T ≠ op.ownBlock
/-- What add leaves of all blocks. -/
def RoP (W0 B : Nat) (s : ByteArray) (a b e : Nat) (t : Bool) (tk tm op : Value) (M : Nat) (ρ : Sr) (w : World) (en : Ending) (w' : World) : Prop :=
  en = .returned (.tuple #[]) ∧ ∃ tk' tm' op', IsSc W0 B ⟨s, a, b, e, t, tk', tm', op', M⟩ ρ w' ∧ Below W0 w w' ∧ ∀ T, T < w.heap.size → T ≠ B → Ap T tk tm op → w'.heap[T]? = w.heap[T]? ∧ Ap T tk' tm' op'
/-- What a text's tokens are foretold to be. -/
structure Plan where
  s : ByteArray
  k : Nat
  A : Nat → Nat
  Z : Nat → Nat
  T : Nat → Bool
  R : Nat → Sr
  tok : Nat → Value
/-- A plan is kept: each token is read, and added, as foretold. -/
structure Plan.Ok (p : Plan) : Prop where
  small : p.s.size ≤ 100000
  gap0 : gap p.s [] 0 = p.A 0
  gaps : ∀ i, i < p.k → gap p.s [] (p.Z i) = p.A (i + 1)
  lt : ∀ i, i < p.k → p.A i < p.Z i ∧ p.Z i ≤ p.A (i + 1) ∧ p.Z i ≤ p.s.size ∧ p.A i < p.s.size
  fin : p.A p.k = p.s.size
  ml : ∀ i, (p.R i).ml = []
  read : ∀ i, i < p.k → ∀ W0 B e tk tm op M w, IsSc W0 B ⟨p.s, p.A i, p.A i, e, p.T i, tk, tm, op, M⟩ (p.R i) w → SigAt w → 0 < W0 →
    Calls Tryz.prog 133 #[.pointer (some ⟨B, 0, none⟩)] w (ScP W0 B (p.tok i) ⟨p.s, p.Z i, p.A i, e, p.T i, tk, tm, op, M⟩ (p.R i) w)
  add : ∀ i, i < p.k → ∀ W0 B e tk tm op M w, IsSc W0 B ⟨p.s, p.Z i, p.A i, e, p.T i, tk, tm, op, M⟩ (p.R i) w →
    Calls Tryz.prog 132 #[.pointer (some ⟨B, 0, none⟩), p.tok i] w (RoP W0 B p.s (p.Z i) (p.A i) (p.Z i) (p.T (i + 1)) tk tm op M (p.R (i + 1)) w)

/-- What run leaves. -/
def RuP (p : Plan) (W0 B M : Nat) (w : World) (en : Ending) (w' : World) : Prop :=
  en = .returned (.int .i64 (p.s.size : Int)) ∧ (∃ b e tk tm op, IsSc W0 B ⟨p.s, p.s.size, b, e, p.T p.k, tk, tm, op, M⟩ (p.R p.k) w') ∧ Below W0 w w'
def PlAt (T : Nat) (v : Value) (w : World) : Prop := w.heap[T]? = some (.cells #[v] 3 (0, 0))
theorem PlAt.cell {T : Nat} {v : Value} {w : World} (h : PlAt T v w) : w.cell? ⟨T, 0, none⟩ = some v := Lib.cell_of_heap h 0
theorem PlAt.frozen {T : Nat} {v : Value} {w : World} (h : PlAt T v w) : w.frozen? ⟨T, 0, none⟩ = false := Lib.frozen_of_heap h 0
theorem PlAt.lt {T : Nat} {v : Value} {w : World} (h : PlAt T v w) : T < w.heap.size := (Array.getElem?_eq_some_iff.1 h).1
theorem PlAt.later {T : Nat} {v : Value} {w w' : World} (h : PlAt T v w) (hb : w'.heap[T]? = w.heap[T]?) : PlAt T v w' := hb.trans h
theorem gd_nil (n : Nat) : Gd n [] := fun k x h => by cases h
theorem makeFunc_run (fn : Fn) (first cap : Array Value) (w : World) : (Instr.makeFunc fn first cap).run Tryz.prog w = .ok (.func fn first cap) w := rfl

theorem IsSc.setPl {W0 B T : Nat} {σ : Sf} {ρ : Sr} {v : Value} {w : World} (h : IsSc W0 B σ ρ w) (hT : PlAt T v w) (hA : Ap T σ.tk σ.tm σ.op) (hTB : T ≠ B) (u : Value) : IsSc W0 B σ ρ (w.setCell ⟨T, 0, none⟩ u) := by
  have hTM : σ.M ≠ T := by
    intro e
    obtain ⟨es, cl, h1, _⟩ := h.mp
    unfold PlAt at hT
    rw [e, hT] at h1
    cases h1
  exact ⟨h.base, (Below.heap_setCell w ⟨T, 0, none⟩ u B (fun e => hTB e.symm)).trans h.sc, row_set h.tk hA.a 0 u, row_set h.tm hA.b 0 u, row_set h.op hA.c 0 u, h.mp.block (Below.heap_setCell w ⟨T, 0, none⟩ u σ.M hTM), h.mb⟩

set_option maxRecDepth 100000 in
set_option maxHeartbeats 8000000 in
theorem run_plan (p : Plan) (hp : p.Ok) (W0 B M : Nat) (tk tm op : Value) (w : World) (h : IsSc W0 B ⟨p.s, 0, 0, 0, p.T 0, tk, tm, op, M⟩ (p.R 0) w) (hg : SigAt w) (hgW : 0 < W0) :
    Calls Tryz.prog 109 #[.pointer (some ⟨B, 0, none⟩)] w (RuP p W0 B M w) := by
  have hmf := makeFunc_run
  have HTB : Hid (w.heap.size ≠ B) := Nat.ne_of_gt h.sc.lt
  have HLE := Lib.hid h.le
  have HLT := Lib.hid h.ltSize
  have H0 : Hid (IsSc W0 B ⟨p.s, 0, 0, 0, p.T 0, tk, tm, op, M⟩ (p.R 0) (w.alloc (.cells #[.int .i64 0] 3))) := h.later ((Below.refl _ _).alloc (Nat.le_refl _) _)
  have HB0 : Hid (Below W0 w (w.alloc (.cells #[.int .i64 0] 3))) := (Below.refl _ _).alloc h.le _
  have HT0 : Hid (PlAt w.heap.size (.int .i64 0) (w.alloc (.cells #[.int .i64 0] 3))) := (Go.MapKept.heap_alloc w _).1
  have HA0 : Hid (Ap w.heap.size tk tm op) := ⟨fun hv => Nat.lt_irrefl _ (own_lt h.tk hv.symm).1, fun hv => Nat.lt_irrefl _ (own_lt h.tm hv.symm).1, fun hv => Nat.lt_irrefl _ (own_lt h.op hv.symm).1⟩
  have HOK := Lib.hid hp.lt
  have HFIN := Lib.hid hp.fin
  have HSM := Lib.hid hp.small
  have HRD := Lib.hid hp.read
  have HAD := Lib.hid hp.add
  have HSG : Hid (∀ w', Below W0 w w' → SigAt w') := fun w' hb => hg.block (hb.block _ hgW)
  have HGW := Lib.hid hgW
  have HP : Hid (∀ w', (∃ b e tk tm op, IsSc W0 B ⟨p.s, p.s.size, b, e, p.T p.k, tk, tm, op, M⟩ (p.R p.k) w') → Below W0 w w' → RuP p W0 B M w (.returned (.int .i64 (p.s.size : Int))) w') := fun w' h1 h2 => ⟨rfl, h1, h2⟩
  have HG0 : Hid (∀ w', IsSc W0 B ⟨p.s, 0, 0, 0, p.T 0, tk, tm, op, M⟩ (p.R 0) w' → Calls Tryz.prog 131 #[.pointer (some ⟨B, 0, none⟩)] w' (ScP W0 B (.tuple #[]) ⟨p.s, p.A 0, 0, 0, p.T 0, tk, tm, op, M⟩ (p.R 0) w')) := fun w' h' => by
    have := gap_any W0 B _ _ w' h' hp.small (by rw [hp.ml 0]; exact gd_nil _) (Nat.zero_le _)
    dsimp only at this
    rw [hp.ml 0, hp.gap0] at this
    exact this
  have HGI : Hid (∀ i, i < p.k → ∀ b e tk tm op w', IsSc W0 B ⟨p.s, p.Z i, b, e, p.T (i + 1), tk, tm, op, M⟩ (p.R (i + 1)) w' → Calls Tryz.prog 131 #[.pointer (some ⟨B, 0, none⟩)] w' (ScP W0 B (.tuple #[]) ⟨p.s, p.A (i + 1), b, e, p.T (i + 1), tk, tm, op, M⟩ (p.R (i + 1)) w')) := fun i hi b e tk tm op w' h' => by
    have := gap_any W0 B _ _ w' h' hp.small (by rw [hp.ml (i + 1)]; exact gd_nil _) (hp.lt i hi).2.2.1
    dsimp only at this
    rw [hp.ml (i + 1), hp.gaps i hi] at this
    exact this
  clear h hg hgW hp
  go_enter_defers Tryz.func109, Tryz.ntmps109
  go_wp2_with fail
  generalize w.alloc (.cells #[.int .i64 0] 3) = W1 at *
  generalize hTT : w.heap.size = T at *
  have HTT := Lib.hid hTT
  clear hTT
  refine (HG0.out _ H0.out).mono ?_
  rintro e1 W2 ⟨rfl, hs2, hb2⟩
  have H2 := Lib.hid hs2
  have HB2 : Hid (Below W0 w W2) := HB0.out.trans (hb2.below H0.out.base H0.out.le)
  have HT2 : Hid (PlAt T (.int .i64 0) W2) := HT0.out.later (hb2.block T HT0.out.lt HTB.out)
  clear hs2 hb2 H0 HB0 HT0
  go_wp2
  go_loopw [15] (fun _ wr => ∃ (i b e : Nat) (tk tm op : Value), i ≤ p.k ∧ Hid (IsSc W0 B ⟨p.s, p.A i, b, e, p.T i, tk, tm, op, M⟩ (p.R i) wr) ∧ Hid (Ap T tk tm op) ∧ Hid (PlAt T (.int .i64 0) wr) ∧ Hid (Below W0 w wr)) (fun _ wr => p.s.size - atOf B wr)
  case atStart => exact ⟨0, 0, 0, tk, tm, op, Nat.zero_le _, H2, HA0, HT2, HB2⟩
  case round =>
    obtain ⟨i, b, e, tk, tm, op, hik, hsc, hap, hpl, hbl⟩ := hrel
    obtain ⟨c0, c1, c2, c3, c4, c5, c6, c7, c8⟩ := hsc.out.sc.fields
    dsimp only at c0 c1 c2 c3 c4 c5 c6 c7 c8
    have HA : Hid (atOf B wr = p.A i) := hsc.out.at
    clear c2 c3 c4 c5 c6 c7 c8
    by_cases hlt : i < p.k
    · have hl := HOK.out i hlt
      have hlti : (p.A i : Int) < (p.s.size : Int) := by omega
      go_wp2
      go_quiet (fail)
      have HSq : Hid (IsSc W0 B ⟨p.s, p.A i, b, e, p.T i, tk, tm, op, M⟩ (p.R i) (wr.drewN nq)) := hsc.out.drew _
      have HBq : Hid (Below W0 w (wr.drewN nq)) := bl_drewN hbl.out _
      have HTq : Hid (PlAt T (.int .i64 0) (wr.drewN nq)) := hpl.out.later rfl
      clear c0 c1
      generalize wr.drewN nq = wq at *
      obtain ⟨c0, c1, c2, c3, c4, c5, c6, c7, c8⟩ := HSq.out.sc.fields
      dsimp only at c0 c1 c2 c3 c4 c5 c6 c7 c8
      have fz := HSq.out.sc.frozen 2
      clear c0 c3 c4 c5 c6 c7 c8
      go_wp2_with fail
      have HS3 : Hid (IsSc W0 B ⟨p.s, p.A i, p.A i, e, p.T i, tk, tm, op, M⟩ (p.R i) (wq.setCell ⟨B, 2, none⟩ (.int .i64 (p.A i : Int)))) := HSq.out.setB (p.A i)
      have HB3 : Hid (Below W0 w (wq.setCell ⟨B, 2, none⟩ (.int .i64 (p.A i : Int)))) := HBq.out.setCell (p := ⟨B, 2, none⟩) HSq.out.base _
      have HT3 : Hid (PlAt T (.int .i64 0) (wq.setCell ⟨B, 2, none⟩ (.int .i64 (p.A i : Int)))) := HTq.out.later (Below.heap_setCell wq ⟨B, 2, none⟩ _ T HTB.out)
      clear c1 c2 fz HSq HBq HTq
      generalize wq.setCell ⟨B, 2, none⟩ (.int .i64 (p.A i : Int)) = W3 at *
      refine (HRD.out i hlt W0 B e tk tm op M _ HS3.out (HSG.out _ HB3.out) HGW.out).mono ?_
      rintro e1 W4 ⟨rfl, hs4, hb4⟩
      have HS4 := Lib.hid hs4
      have HB4 : Hid (Below W0 w W4) := HB3.out.trans (hb4.below HS3.out.base HS3.out.le)
      have HT4 : Hid (PlAt T (.int .i64 0) W4) := HT3.out.later (hb4.block T HT3.out.lt HTB.out)
      clear hs4 hb4 HS3 HB3 HT3
      go_wp2_with fail
      refine (HAD.out i hlt W0 B e tk tm op M _ HS4.out).mono ?_
      rintro e1 W5 ⟨rfl, tk5, tm5, op5, hs5, hb5, hf5⟩
      have HS5 := Lib.hid hs5
      have HB5 : Hid (Below W0 w W5) := HB4.out.trans hb5
      have HF5 := hf5 T HT4.out.lt HTB.out hap.out
      have HT5 : Hid (PlAt T (.int .i64 0) W5) := HT4.out.later HF5.1
      have HA5 := Lib.hid HF5.2
      clear hs5 hb5 hf5 HF5 HS4 HB4 HT4
      go_wp2_with fail
      refine (HGI.out i hlt (p.A i) (p.Z i) tk5 tm5 op5 _ HS5.out).mono ?_
      rintro e1 W6 ⟨rfl, hs6, hb6⟩
      have HS6 := Lib.hid hs6
      have HB6 : Hid (Below W0 w W6) := HB5.out.trans (hb6.below HS5.out.base HS5.out.le)
      have HT6 : Hid (PlAt T (.int .i64 0) W6) := HT5.out.later (hb6.block T HT5.out.lt HTB.out)
      have HA6 : Hid (atOf B W6 = p.A (i + 1)) := hs6.at
      clear hs6 hb6 HS5 HB5 HT5
      go_wp2
      go_roundw
      case rel => exact ⟨i + 1, p.A i, p.Z i, tk5, tm5, op5, hlt, HS6, HA5, HT6, HB6⟩
      case measure =>
        have h1 := HA.out
        have h2 := HA6.out
        omega
    · have hie : i = p.k := by omega
      subst hie
      have hfin := HFIN.out
      have hlti : (p.s.size : Int) ≤ (p.A p.k : Int) := by omega
      have HSZ : Hid (IsSc W0 B ⟨p.s, p.s.size, b, e, p.T p.k, tk, tm, op, M⟩ (p.R p.k) wr) := by
        have := hsc.out
        rw [hfin] at this
        exact this
      clear hfin
      go_wp2
      go_quiet (fail)
      have HSq : Hid (IsSc W0 B ⟨p.s, p.s.size, b, e, p.T p.k, tk, tm, op, M⟩ (p.R p.k) (wr.drewN nq)) := HSZ.out.drew _
      have HBq : Hid (Below W0 w (wr.drewN nq)) := bl_drewN hbl.out _
      have HTq : Hid (PlAt T (.int .i64 0) (wr.drewN nq)) := hpl.out.later rfl
      clear c0 c1
      generalize wr.drewN nq = wq at *
      have c0 := HSq.out.sc.fields.1
      dsimp only at c0
      have t0 := HTq.out.cell
      have fz := HTq.out.frozen
      go_wp2
      have HSZ2 : Hid (IsSc W0 B ⟨p.s, p.s.size, b, e, p.T p.k, tk, tm, op, M⟩ (p.R p.k) (wq.setCell ⟨T, 0, none⟩ (.int .i64 (p.s.size : Int)))) := HSq.out.setPl HTq.out hap.out HTB.out _
      have HBZ : Hid (Below W0 w (wq.setCell ⟨T, 0, none⟩ (.int .i64 (p.s.size : Int)))) := HBq.out.setCell (p := ⟨T, 0, none⟩) HLE.out _
      have hTZ : PlAt T (.int .i64 (p.s.size : Int)) (wq.setCell ⟨T, 0, none⟩ (.int .i64 (p.s.size : Int))) := heap_setCell_same wq T 0 _ _ _ HTq.out
      have t1 := hTZ.cell
      clear c0 t0 fz hTZ
      generalize wq.setCell ⟨T, 0, none⟩ (.int .i64 (p.s.size : Int)) = wz at *
      refine leaves_cons (f := 130) (args := #[.pointer (some ⟨T, 0, none⟩)]) (by simp) (by simp [go_sem]) ?_
      refine (catch_idle ⟨T, 0, none⟩ _).mono ?_
      rintro e2 u w9 ⟨rfl, rfl, rfl⟩
      simp [Leaves, settle, results, Tryz.results109, go_sem, t1]
      exact HP.out _ ⟨b, e, tk, tm, op, HSZ2.out⟩ HBZ.out

end Go.Proofs.YtaocbhfehncdcaaGreatDoor

namespace Go.Proofs.YtaocbhfehncdcaaGreatDoor
open Go.RowKit

/-- A byte that sources do not have. -/
def fgB (b : UInt8) : Bool := !blB b && (decide (b.toNat < 32) || decide (126 < b.toNat))
def fgN : List UInt8 → Nat
  | [] => 0
  | b :: t => if fgB b then 0 else fgN t + 1
theorem fgN_yes {b : UInt8} {t : List UInt8} (h : fgB b = true) : fgN (b :: t) = 0 := by simp [fgN, h]
theorem fgN_no {b : UInt8} {t : List UInt8} (h : fgB b = false) : fgN (b :: t) = fgN t + 1 := by simp [fgN, h]
theorem fgN_le : ∀ l, fgN l ≤ l.length
  | [] => Nat.le_refl _
  | b :: t => by
    unfold fgN
    have := fgN_le t
    split <;> simp <;> omega

set_option maxRecDepth 100000 in
set_option maxHeartbeats 2000000 in
theorem foreign_any (s : ByteArray) (w : World) (hs : s.size ≤ 100000) : Calls Tryz.prog 110 #[.string s] w (InS (fgN s.data.toList) w) := by
  obtain ⟨l, hl⟩ : ∃ l, s.data.toList = l := ⟨_, rfl⟩
  have hsl : s.size = l.length := by rw [← hl, ← Lib.size_eq]
  rw [hl]
  have HBL := Lib.hid isBlank_any
  have HP : Hid (∀ n w, n = (fgN l : Int) → InS (fgN l) w (.returned (.int .i64 n)) w) := fun n w h => by
    subst h
    exact ⟨rfl, rfl⟩
  have HAT : Hid (∀ k (h : k < s.size), l.drop k = s[k] :: l.drop (k + 1)) := fun k h => drop_at s l hl k h
  have HEN : Hid (∀ k, ¬ k < s.size → l.drop k = []) := fun k h => drop_end s l hl k h
  have HSL := Lib.hid hsl
  clear hl hsl
  go_enter Tryz.func110, Tryz.ntmps110
  go_wp2
  go_loop [6] (fun n => ∃ k : Nat, k ≤ s.size ∧ n = .int .i64 k ∧ Hid (fgN l = k + fgN (l.drop k))) (fun n => s.size - (intOf n).toNat)
  case atStart => exact ⟨0, by omega, rfl, by show _ = _; simp⟩
  case round =>
    obtain ⟨k, hk, rfl, hw⟩ := hrel
    by_cases hlt : k < s.size
    · have hat := HAT.out k hlt
      cases hbl : blB s[k]
      · by_cases h1 : (s[k].toNat : Int) < 32
        · have hX : Hid ((k : Int) = (fgN l : Int)) := by
            show _ = _
            have : fgB s[k] = true := by
              unfold fgB
              simp only [hbl, Bool.not_false, Bool.true_and, Bool.or_eq_true, decide_eq_true_eq]
              omega
            rw [hw.out, hat, fgN_yes this]
            simp
          clear hat
          go_wp2_with (go_at_call 134; refine (HBL.out _ _).mono ?_; rintro e w' ⟨rfl, rfl⟩)
          go_ret
          exact HP.out _ _ hX.out
        · by_cases h2 : 126 < (s[k].toNat : Int)
          · have hX : Hid ((k : Int) = (fgN l : Int)) := by
              show _ = _
              have : fgB s[k] = true := by
                unfold fgB
                simp only [hbl, Bool.not_false, Bool.true_and, Bool.or_eq_true, decide_eq_true_eq]
                omega
              rw [hw.out, hat, fgN_yes this]
              simp
            clear hat
            go_wp2_with (go_at_call 134; refine (HBL.out _ _).mono ?_; rintro e w' ⟨rfl, rfl⟩)
            go_ret
            exact HP.out _ _ hX.out
          · have hN : Hid (fgN l = (k + 1) + fgN (l.drop (k + 1))) := by
              show _ = _
              have : fgB s[k] = false := by
                unfold fgB
                simp only [hbl, Bool.not_false, Bool.true_and, Bool.or_eq_false_iff, decide_eq_false_iff_not]
                omega
              rw [hw.out, hat, fgN_no this]
              omega
            clear hat
            go_wp2_with (go_at_call 134; refine (HBL.out _ _).mono ?_; rintro e w' ⟨rfl, rfl⟩)
            go_round
            case rel => exact ⟨k + 1, by omega, by go_num, hN⟩
            case measure => simp [intOf]; omega
      · have hN : Hid (fgN l = (k + 1) + fgN (l.drop (k + 1))) := by
          show _ = _
          have : fgB s[k] = false := by
            unfold fgB
            simp [hbl]
          rw [hw.out, hat, fgN_no this]
          omega
        clear hat
        go_wp2_with (go_at_call 134; refine (HBL.out _ _).mono ?_; rintro e w' ⟨rfl, rfl⟩)
        go_round
        case rel => exact ⟨k + 1, by omega, by go_num, hN⟩
        case measure => simp [intOf]; omega
    · have hX : Hid ((s.size : Int) = (fgN l : Int)) := by
        show _ = _
        rw [hw.out, HEN.out k hlt]
        have : k = s.size := by omega
        rw [this]
        rfl
      have hks : k = s.size := by omega
      go_wp2
      go_ret
      exact HP.out _ _ hX.out

end Go.Proofs.YtaocbhfehncdcaaGreatDoor
