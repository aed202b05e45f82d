/-
  State of the program's heap. Conditions: none beside those stated.
-/
import Derived.Test.YtpedaompcjaahaaIe
import Derived.Deep.WholeRow
import Derived.Deep.Cut
namespace Go.Proofs.Ytpedaompcjaahaa
open Go.RowKit

theorem load_row (w : World) (g o n : Nat) (C : Array Value) (hn : C.size = n) (hc : ∀ j v, C[j]? = some v → w.cell? ⟨g, o + j, none⟩ = some v) : (loadCellsFrom ⟨g, o, none⟩ 0 n #[]).run Try.prog w = .ok C w := by
  subst hn
  have := run_loadCells_list (P := Try.prog) w ⟨g, o, none⟩ C.toList (fun j v hv => by
    rw [Addr.add_lit]
    exact hc j v (by simpa using hv))
  simpa [loadCells] using this
/-- A cell's places, as one. -/
def rowC (cs : List Cl) (ct : Nat → Int) (i : Nat) : Array Value := Array.ofFn (fun j : Fin 22 => pcv cs ct i j)
theorem rowC_size (cs : List Cl) (ct : Nat → Int) (i : Nat) : (rowC cs ct i).size = 22 := by simp [rowC]
theorem rowC_at (cs : List Cl) (ct : Nat → Int) (i j : Nat) (hj : j < 22) : (rowC cs ct i)[j]? = some (pcv cs ct i j) := by
  unfold rowC
  rw [Array.getElem?_ofFn]
  simp [hj]
theorem pcv_one (cs : List Cl) (ct : Nat → Int) (i j : Nat) : (pcv cs ct i j).oneCell' = true := by
  unfold pcv
  repeat' split
  all_goals rfl
theorem rowC_one (cs : List Cl) (ct : Nat → Int) (i : Nat) : (rowC cs ct i).all (·.oneCell') = true := by
  rw [Array.all_eq_true]
  intro j hj
  have h := rowC_at cs ct i j (by rw [rowC_size] at hj; exact hj)
  rw [Array.getElem?_eq_getElem hj] at h
  rw [Option.some.inj h]
  exact pcv_one cs ct i j
theorem loadAt_row (w : World) (g o : Nat) (C : Array Value) (hn : C.size = 22) (hc : ∀ j v, C[j]? = some v → w.cell? ⟨g, o + j, none⟩ = some v) : (Instr.loadAt 85 (.pointer (some ⟨g, o, none⟩))).run Try.prog w = .ok (.agg C) w := by
  have h := load_row w g o 22 C hn hc
  simp only [Instr.loadAt, Instr.sureAddr, Sem.run_bind, Sem.run_pure, Result.andThen, loadVar, Try.isAgg85, Try.sizeOf85, if_true, loadCells, h]
/-- A load of which the run is known. -/
theorem wpList_load_is {P : Program} (w : World) {ops : Array Oper} {rest : List Oper} {o : Oper} {a : Act} {Q : Exit → Act → World → Prop} (hg : o.guard = none) (t : TypeId) (s : Operand)
    (hop : o.op = Op.load t s) (u v : Value) (hs : a.eval s = u) (hr : (Instr.loadAt t u).run P w = .ok v w) (hK : wpList P ops Q rest (a.put o.dst v) w) : wpList P ops Q (o :: rest) a w := by
  refine wpList_plain hg fun K hK' => ?_
  unfold Oper.wp
  simp [execOp, hop, hs, hr, Result.andThen]
  exact hK' _ _ hK
/-- A store of which the run is known. -/
theorem wpList_store_is {P : Program} (w w' : World) {ops : Array Oper} {rest : List Oper} {o : Oper} {a : Act} {Q : Exit → Act → World → Prop} (hg : o.guard = none) (t : TypeId) (s x : Operand)
    (hop : o.op = Op.store t s x) (u v : Value) (hs : a.eval s = u) (hx : a.eval x = v) (hr : (Instr.storeAt t u v).run P w = .ok () w') (hK : wpList P ops Q rest (a.put o.dst undef) w') : wpList P ops Q (o :: rest) a w := by
  refine wpList_plain hg fun K hK' => ?_
  unfold Oper.wp
  simp [execOp, hop, hs, hx, hr, Result.andThen]
  exact hK' _ _ hK
/-- A new variable of the cells' type. -/
theorem wpList_alloc_cell (w : World) {ops : Array Oper} {rest : List Oper} {o : Oper} {a : Act} {Q : Exit → Act → World → Prop} (hg : o.guard = none)
    (hop : o.op = Op.alloc 85) (hK : wpList Try.prog ops Q rest (a.put o.dst (.pointer (some ⟨w.heap.size, 0, none⟩))) (w.alloc (.cells #[.int .i64 0, .int .i64 0, .int .i64 0, .int .i64 0, .int .i64 0, .int .i64 0, .int .i64 0, .int .i64 0, .int .i64 0, .int .i64 0, .int .i64 0, .int .i64 0, .int .i64 0, .int .i64 0, .int .i64 0, .int .i64 0, .int .i64 0, .bool false, .bool false, .bool false, .int .i64 0, .int .i64 0] 85))) : wpList Try.prog ops Q (o :: rest) a w := by
  refine wpList_plain hg fun K hK' => ?_
  unfold Oper.wp
  simp [execOp, hop, Result.andThen, go_sem]
  exact hK' _ _ hK
theorem size_cell : (Try.prog.info? 85).map (·.size) = some 22 := by kernel_rfl
def stateR (h : Hp) (i : Int) : Int × Int := if eAny h.cs i ≠ 0 then (0, eAny h.cs i) else (if (cl h.cs i.toNat).en = true then 2 else if (cl h.cs i.toNat).td = true then 1 else 0, 0)
set_option maxRecDepth 100000 in
set_option maxHeartbeats 1600000 in
theorem State_hp (S : Nat → Prop) (b : Nat) (h : Hp) (i : Int) (w : World) (hs : SH S b 0 0 h w) :
    Calls Try.prog 23 #[.pointer (some ⟨b, 0, none⟩), .int .i64 i] w (ToP S b h (.tuple #[.int .i64 (stateR h i).1, .int .i64 (stateR h i).2]) w) := by
  obtain ⟨vc, vn, c0, c2, _, _, hf, hbl, hSb, _, _⟩ := hs.open
  obtain ⟨l1, k1, hz⟩ := lock_hp hs
  have hX : Hid (∀ w3 v, SH S b 0 0 h w3 → Kp S ((w.setCell ⟨b, 0, none⟩ (.int .i32 1)).setCell ⟨b, 2, none⟩ (.int .i32 1)) w3 → ToP S b h v w (.returned v) w3) := fun w3 v r1 r2 => ⟨rfl, r1.wide fun g a _ => Or.inl a, k1.trans r2 fun _ _ a => a⟩
  have hE := check_any S b 1 1 h.cs (cn h.cs) h.ns i _ l1
  rcases eAny_cases h.cs i with ⟨h0, k, rfl, hk⟩ | h0
  · have hm : stateR h k = (if (cl h.cs k).en = true then 2 else if (cl h.cs k).td = true then 1 else 0, 0) := if_neg (fun e => e h0)
    rw [hm]
    rw [h0] at hE
    obtain ⟨g, cap, h4, hS, hgb, hlt, hcell, hfz⟩ := l1.cell hk
    have hLk := lock_any b w c0 c2 hf
    have hA : Hid (∀ o, SH S b 1 1 h (((w.setCell ⟨b, 0, none⟩ (.int .i32 1)).setCell ⟨b, 2, none⟩ (.int .i32 1)).alloc o)) := fun o => St.move l1 fun g a c => ⟨Below.heap_alloc _ _ g c, a⟩
    have hA2 : Hid (∀ o w3 v, SH S b 0 0 h w3 → Kp S (((w.setCell ⟨b, 0, none⟩ (.int .i32 1)).setCell ⟨b, 2, none⟩ (.int .i32 1)).alloc o) w3 → ToP S b h v w (.returned v) w3) := fun o w3 v r1 r2 => ⟨rfl, r1.wide fun g a _ => Or.inl a, (k1.alloc o).trans r2 fun _ _ a => a⟩
    have hbl1 : b < ((w.setCell ⟨b, 0, none⟩ (.int .i32 1)).setCell ⟨b, 2, none⟩ (.int .i32 1)).heap.size := by rw [hz]; exact hbl
    clear hm hs k1 h0 hX l1
    generalize ((w.setCell ⟨b, 0, none⟩ (.int .i32 1)).setCell ⟨b, 2, none⟩ (.int .i32 1)) = w1 at *
    have hC1 := rowC_size h.cs (cn h.cs) k
    have hCa := rowC_at h.cs (cn h.cs) k
    have hC3 := rowC_one h.cs (cn h.cs) k
    have hLd : Hid ((Instr.loadAt 85 (.pointer (some ⟨g, k * 22, none⟩))).run Try.prog w1 = .ok (.agg (rowC h.cs (cn h.cs) k)) w1) := loadAt_row w1 g (k * 22) _ hC1 fun j v hv => by
      have hj : j < 22 := by
        rw [← hC1]
        exact (Array.getElem?_eq_some_iff.1 hv).1
      rw [hCa j hj] at hv
      rw [← Option.some.inj hv]
      exact hcell k j hk hj
    have hSt := Lib.hid <| run_storeAt_new (P := Try.prog) w1 85 #[.int .i64 0, .int .i64 0, .int .i64 0, .int .i64 0, .int .i64 0, .int .i64 0, .int .i64 0, .int .i64 0, .int .i64 0, .int .i64 0, .int .i64 0, .int .i64 0, .int .i64 0, .int .i64 0, .int .i64 0, .int .i64 0, .int .i64 0, .bool false, .bool false, .bool false, .int .i64 0, .int .i64 0] (rowC h.cs (cn h.cs) k) (by rw [hC1]; exact size_cell) (by rw [hC1]; rfl) hC3
    have e19 : (w1.alloc (.cells (rowC h.cs (cn h.cs) k) 85)).cell? ⟨w1.heap.size, 19, none⟩ = some (.bool (cl h.cs k).en) := by
      rw [cell_of_row _ _ _ _ _ _ (heap_alloc_last w1 _), hCa 19 (by decide)]
      rfl
    have e18 : (w1.alloc (.cells (rowC h.cs (cn h.cs) k) 85)).cell? ⟨w1.heap.size, 18, none⟩ = some (.bool (cl h.cs k).td) := by
      rw [cell_of_row _ _ _ _ _ _ (heap_alloc_last w1 _), hCa 18 (by decide)]
      rfl
    have hIx : Hid ((Instr.indexAt 68 (.slice (some ⟨g, 0, none⟩) h.cs.length cap) (.int .i64 (k : Int))).run Try.prog w1 = .ok (.pointer (some ⟨g, k * 22, none⟩)) w1) := by
      have h1 : ((k : Nat) : Int) < ((h.cs.length : Nat) : Int) := by omega
      show _ = _
      simp [go_sem, hk]
    clear hcell hCa hC3 hz
    generalize rowC h.cs (cn h.cs) k = C at *
    generalize (cl h.cs k).en = en at *
    generalize (cl h.cs k).td = td at *
    cases en
    · cases td
      all_goals
        simp only [Bool.false_eq_true, if_false, if_true]
        go_enter_defers Try.func23, Try.ntmps23
        go_wp2_with (first | (go_at_call 48; refine hLk.mono ?_; rintro e w' ⟨rfl, rfl⟩) | (go_at_call 58; refine (hE).mono ?_; rintro e w' ⟨rfl, rfl⟩) | (refine wpList_load_is _ rfl 85 _ rfl _ _ rfl hLd.out ?_) | (refine wpList_store_is _ _ rfl 85 _ _ rfl _ _ rfl rfl hSt.out ?_))
        refine leaves_cons (f := 49) (args := #[.pointer (some ⟨b, 0, none⟩)]) (by simp) (by simp [go_sem]) ?_
        refine (unlock_hp (hA.out _) _).mono ?_
        rintro e u' w3 ⟨rfl, rfl, r1, r2⟩
        exact ⟨_, results_tmp2 rfl _ _ _, hA2.out _ w3 _ r1 r2⟩
    · simp only [if_true]
      go_enter_defers Try.func23, Try.ntmps23
      go_wp2_with (first | (go_at_call 48; refine hLk.mono ?_; rintro e w' ⟨rfl, rfl⟩) | (go_at_call 58; refine (hE).mono ?_; rintro e w' ⟨rfl, rfl⟩) | (refine wpList_load_is _ rfl 85 _ rfl _ _ rfl hLd.out ?_) | (refine wpList_store_is _ _ rfl 85 _ _ rfl _ _ rfl rfl hSt.out ?_))
      refine leaves_cons (f := 49) (args := #[.pointer (some ⟨b, 0, none⟩)]) (by simp) (by simp [go_sem]) ?_
      refine (unlock_hp (hA.out _) _).mono ?_
      rintro e u' w3 ⟨rfl, rfl, r1, r2⟩
      exact ⟨_, results_tmp2 rfl _ _ _, hA2.out _ w3 _ r1 r2⟩
  · have hm : stateR h i = (0, 4) := by
      unfold stateR
      rw [h0]
      rfl
    rw [hm]
    rw [h0] at hE
    clear hm hs k1 h0
    go_enter_defers Try.func23, Try.ntmps23
    go_wp2_with (first | (go_at_call 48; refine (lock_any b _ c0 c2 hf).mono ?_; rintro e w' ⟨rfl, rfl⟩) | (go_at_call 58; refine (hE).mono ?_; rintro e w' ⟨rfl, rfl⟩))
    refine leaves_cons (f := 49) (args := #[.pointer (some ⟨b, 0, none⟩)]) (by simp) (by simp [go_sem]) ?_
    refine (unlock_hp l1 _).mono ?_
    rintro e u' w3 ⟨rfl, rfl, r1, r2⟩
    exact ⟨_, results_tmp2 rfl _ _ _, hX.out w3 _ r1 r2⟩

end Go.Proofs.Ytpedaompcjaahaa
