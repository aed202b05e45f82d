/-
  The maps of the levels of operators. Conditions: none.
-/
import Derived.Test.YtaocbhfehncdcaaGreatDoorXM29
namespace Go.Proofs.YtaocbhfehncdcaaGreatDoor
open Go.RowKit Go.MapKept Go.ChangeMaps

theorem makeMap_lv (w : World) : (Instr.makeMap 72 none).run Tryz.prog w = .ok (.map (some w.heap.size)) (w.alloc (.map #[] 0)) := by kernel_rfl
/-- What levels leaves. -/
def LvP (w : World) (e : Ending) (w' : World) : Prop := ∃ m0 m1 m2 m3 m4 m5 m6 m7, e = .returned (.agg #[.map (some m0), .map (some m1), .map (some m2), .map (some m3), .map (some m4), .map (some m5), .map (some m6), .map (some m7)]) ∧ Below w.heap.size w w' ∧ SMap w' m0 (lvM 0) ∧ SMap w' m1 (lvM 1) ∧ SMap w' m2 (lvM 2) ∧ SMap w' m3 (lvM 3) ∧ SMap w' m4 (lvM 4) ∧ SMap w' m5 (lvM 5) ∧ SMap w' m6 (lvM 6) ∧ SMap w' m7 (lvM 7)
def ArAt (T : Nat) (w : World) : Prop := w.heap[T]? = some (.cells #[.map none, .map none, .map none, .map none, .map none, .map none, .map none, .map none] 73 (0, 0))
theorem ArAt.cell {T : Nat} {w : World} (h : ArAt T w) (i : Nat) (hi : i < 8) : w.cell? ⟨T, i, none⟩ = some (.map none) := by
  unfold ArAt at h
  rw [Lib.cell_of_heap h]
  match i, hi with
  | 0, _ | 1, _ | 2, _ | 3, _ | 4, _ | 5, _ | 6, _ | 7, _ => rfl
theorem ArAt.frozen {T : Nat} {w : World} (h : ArAt T w) (i : Nat) : w.frozen? ⟨T, i, none⟩ = false := Lib.frozen_of_heap h i
theorem ArAt.lt {T : Nat} {w : World} (h : ArAt T w) : T < w.heap.size := (Array.getElem?_eq_some_iff.1 h).1
def arW (W : World) (T : Nat) (v0 v1 v2 v3 v4 v5 v6 v7 : Value) : World :=
  (((((((W.setCell ⟨T, 0, none⟩ v0).setCell ⟨T, 1, none⟩ v1).setCell ⟨T, 2, none⟩ v2).setCell ⟨T, 3, none⟩ v3).setCell ⟨T, 4, none⟩ v4).setCell ⟨T, 5, none⟩ v5).setCell ⟨T, 6, none⟩ v6).setCell ⟨T, 7, none⟩ v7
theorem arW_at {T : Nat} {w : World} (h : ArAt T w) (v0 v1 v2 v3 v4 v5 v6 v7 : Value) : (arW w T v0 v1 v2 v3 v4 v5 v6 v7).heap[T]? = some (.cells #[v0, v1, v2, v3, v4, v5, v6, v7] 73 (0, 0)) := by
  unfold ArAt at h
  unfold arW
  have h0 : (w.setCell ⟨T, 0, none⟩ v0).heap[T]? = some (.cells #[v0, .map none, .map none, .map none, .map none, .map none, .map none, .map none] 73 (0, 0)) := (heap_setCell_same _ T 0 _ _ v0 h).trans rfl
  generalize (w.setCell ⟨T, 0, none⟩ v0) = x0 at *
  have h1 : (x0.setCell ⟨T, 1, none⟩ v1).heap[T]? = some (.cells #[v0, v1, .map none, .map none, .map none, .map none, .map none, .map none] 73 (0, 0)) := (heap_setCell_same _ T 1 _ _ v1 h0).trans rfl
  generalize (x0.setCell ⟨T, 1, none⟩ v1) = x1 at *
  have h2 : (x1.setCell ⟨T, 2, none⟩ v2).heap[T]? = some (.cells #[v0, v1, v2, .map none, .map none, .map none, .map none, .map none] 73 (0, 0)) := (heap_setCell_same _ T 2 _ _ v2 h1).trans rfl
  generalize (x1.setCell ⟨T, 2, none⟩ v2) = x2 at *
  have h3 : (x2.setCell ⟨T, 3, none⟩ v3).heap[T]? = some (.cells #[v0, v1, v2, v3, .map none, .map none, .map none, .map none] 73 (0, 0)) := (heap_setCell_same _ T 3 _ _ v3 h2).trans rfl
  generalize (x2.setCell ⟨T, 3, none⟩ v3) = x3 at *
  have h4 : (x3.setCell ⟨T, 4, none⟩ v4).heap[T]? = some (.cells #[v0, v1, v2, v3, v4, .map none, .map none, .map none] 73 (0, 0)) := (heap_setCell_same _ T 4 _ _ v4 h3).trans rfl
  generalize (x3.setCell ⟨T, 4, none⟩ v4) = x4 at *
  have h5 : (x4.setCell ⟨T, 5, none⟩ v5).heap[T]? = some (.cells #[v0, v1, v2, v3, v4, v5, .map none, .map none] 73 (0, 0)) := (heap_setCell_same _ T 5 _ _ v5 h4).trans rfl
  generalize (x4.setCell ⟨T, 5, none⟩ v5) = x5 at *
  have h6 : (x5.setCell ⟨T, 6, none⟩ v6).heap[T]? = some (.cells #[v0, v1, v2, v3, v4, v5, v6, .map none] 73 (0, 0)) := (heap_setCell_same _ T 6 _ _ v6 h5).trans rfl
  generalize (x5.setCell ⟨T, 6, none⟩ v6) = x6 at *
  have h7 : (x6.setCell ⟨T, 7, none⟩ v7).heap[T]? = some (.cells #[v0, v1, v2, v3, v4, v5, v6, v7] 73 (0, 0)) := (heap_setCell_same _ T 7 _ _ v7 h6).trans rfl
  generalize (x6.setCell ⟨T, 7, none⟩ v7) = x7 at *
  exact h7
theorem arW_below (W : World) (T : Nat) (v0 v1 v2 v3 v4 v5 v6 v7 : Value) : Below T W (arW W T v0 v1 v2 v3 v4 v5 v6 v7) :=
  ((((((((Below.refl T W).setCell (p := ⟨T, 0, none⟩) (Nat.le_refl _) v0).setCell (p := ⟨T, 1, none⟩) (Nat.le_refl _) v1).setCell (p := ⟨T, 2, none⟩) (Nat.le_refl _) v2).setCell (p := ⟨T, 3, none⟩) (Nat.le_refl _) v3).setCell (p := ⟨T, 4, none⟩) (Nat.le_refl _) v4).setCell (p := ⟨T, 5, none⟩) (Nat.le_refl _) v5).setCell (p := ⟨T, 6, none⟩) (Nat.le_refl _) v6).setCell (p := ⟨T, 7, none⟩) (Nat.le_refl _) v7
theorem arW_other (W : World) (T : Nat) (v0 v1 v2 v3 v4 v5 v6 v7 : Value) (k : Nat) (hk : k ≠ T) : (arW W T v0 v1 v2 v3 v4 v5 v6 v7).heap[k]? = W.heap[k]? := by
  unfold arW
  exact (Below.heap_setCell _ ⟨T, 7, none⟩ _ k hk).trans ((Below.heap_setCell _ ⟨T, 6, none⟩ _ k hk).trans ((Below.heap_setCell _ ⟨T, 5, none⟩ _ k hk).trans ((Below.heap_setCell _ ⟨T, 4, none⟩ _ k hk).trans ((Below.heap_setCell _ ⟨T, 3, none⟩ _ k hk).trans ((Below.heap_setCell _ ⟨T, 2, none⟩ _ k hk).trans ((Below.heap_setCell _ ⟨T, 1, none⟩ _ k hk).trans (Below.heap_setCell _ ⟨T, 0, none⟩ _ k hk)))))))

set_option maxRecDepth 100000 in
set_option maxHeartbeats 16000000 in
theorem levels_any (w : World) : Calls Tryz.prog 50 #[] w (LvP w) := by
  have hmm := makeMap_lv
  have HA : Hid (ArAt w.heap.size (w.alloc (.cells #[.map none, .map none, .map none, .map none, .map none, .map none, .map none, .map none] 73))) := (Go.MapKept.heap_alloc w _).1
  have HB : Hid (Below w.heap.size w (w.alloc (.cells #[.map none, .map none, .map none, .map none, .map none, .map none, .map none, .map none] 73))) := (Below.refl _ _).alloc (Nat.le_refl _) _
  have HWT : Hid (w.heap.size ≤ w.heap.size) := Nat.le_refl _
  generalize hW0 : w.alloc (.cells #[.map none, .map none, .map none, .map none, .map none, .map none, .map none, .map none] 73) = W0 at *
  go_enter Tryz.func50, Tryz.ntmps50
  have hb : Below W0.heap.size W0 (W0.alloc (.map #[] 0)) := (Below.refl _ _).alloc (Nat.le_refl _) _
  have HM0 : Hid (SMap (W0.alloc (.map #[] 0)) W0.heap.size []) := SMap.made W0
  have HTm0 : Hid (w.heap.size < W0.heap.size) := HA.out.lt
  replace HA : Hid (ArAt w.heap.size (W0.alloc (.map #[] 0))) := (hb.block _ HA.out.lt).trans HA.out
  replace HB : Hid (Below w.heap.size w (W0.alloc (.map #[] 0))) := HB.out.trans (hb.mono (Nat.le_of_lt HTm0.out))
  clear hb
  go_wp2_with fail
  try rw [hW0]
  generalize W0.alloc (.map #[] 0) = W1 at *
  generalize hm0 : W0.heap.size = m0 at *
  clear hm0
  refine upon_insert HM0.out Tryz.underlying72 Tryz.underlying9 rfl ?_
  intro W2 hM hb
  rw [Oper.upon_skip]
  replace HM0 := Lib.hid hM
  replace HA : Hid (ArAt w.heap.size W2) := (hb.block _ HTm0.out).trans HA.out
  replace HB := Lib.hid (HB.out.trans (hb.mono (Nat.le_of_lt HTm0.out)))
  clear hM hb
  have hb : Below W2.heap.size W2 (W2.alloc (.map #[] 0)) := (Below.refl _ _).alloc (Nat.le_refl _) _
  have HM1 : Hid (SMap (W2.alloc (.map #[] 0)) W2.heap.size []) := SMap.made W2
  have HTm1 : Hid (w.heap.size < W2.heap.size) := HA.out.lt
  have HL0_1 : Hid (m0 < W2.heap.size) := HM0.out.lt
  replace HA : Hid (ArAt w.heap.size (W2.alloc (.map #[] 0))) := (hb.block _ HA.out.lt).trans HA.out
  replace HB : Hid (Below w.heap.size w (W2.alloc (.map #[] 0))) := HB.out.trans (hb.mono (Nat.le_of_lt HTm1.out))
  replace HM0 := Lib.hid (HM0.out.block (hb.block _ HM0.out.lt))
  clear hb
  go_wp2_with fail
  try rw [hW0]
  generalize W2.alloc (.map #[] 0) = W3 at *
  generalize hm1 : W2.heap.size = m1 at *
  clear hm1
  refine upon_insert HM1.out Tryz.underlying72 Tryz.underlying9 rfl ?_
  intro W4 hM hb
  rw [Oper.upon_skip]
  replace HM1 := Lib.hid hM
  replace HA : Hid (ArAt w.heap.size W4) := (hb.block _ HTm1.out).trans HA.out
  replace HB := Lib.hid (HB.out.trans (hb.mono (Nat.le_of_lt HTm1.out)))
  replace HM0 := Lib.hid (HM0.out.block (hb.block _ HL0_1.out))
  clear hM hb
  go_wp2_with fail
  refine upon_insert HM1.out Tryz.underlying72 Tryz.underlying9 rfl ?_
  intro W5 hM hb
  rw [Oper.upon_skip]
  replace HM1 := Lib.hid hM
  replace HA : Hid (ArAt w.heap.size W5) := (hb.block _ HTm1.out).trans HA.out
  replace HB := Lib.hid (HB.out.trans (hb.mono (Nat.le_of_lt HTm1.out)))
  replace HM0 := Lib.hid (HM0.out.block (hb.block _ HL0_1.out))
  clear hM hb
  have hb : Below W5.heap.size W5 (W5.alloc (.map #[] 0)) := (Below.refl _ _).alloc (Nat.le_refl _) _
  have HM2 : Hid (SMap (W5.alloc (.map #[] 0)) W5.heap.size []) := SMap.made W5
  have HTm2 : Hid (w.heap.size < W5.heap.size) := HA.out.lt
  have HL0_2 : Hid (m0 < W5.heap.size) := HM0.out.lt
  have HL1_2 : Hid (m1 < W5.heap.size) := HM1.out.lt
  replace HA : Hid (ArAt w.heap.size (W5.alloc (.map #[] 0))) := (hb.block _ HA.out.lt).trans HA.out
  replace HB : Hid (Below w.heap.size w (W5.alloc (.map #[] 0))) := HB.out.trans (hb.mono (Nat.le_of_lt HTm2.out))
  replace HM0 := Lib.hid (HM0.out.block (hb.block _ HM0.out.lt))
  replace HM1 := Lib.hid (HM1.out.block (hb.block _ HM1.out.lt))
  clear hb
  go_wp2_with fail
  try rw [hW0]
  generalize W5.alloc (.map #[] 0) = W6 at *
  generalize hm2 : W5.heap.size = m2 at *
  clear hm2
  refine upon_insert HM2.out Tryz.underlying72 Tryz.underlying9 rfl ?_
  intro W7 hM hb
  rw [Oper.upon_skip]
  replace HM2 := Lib.hid hM
  replace HA : Hid (ArAt w.heap.size W7) := (hb.block _ HTm2.out).trans HA.out
  replace HB := Lib.hid (HB.out.trans (hb.mono (Nat.le_of_lt HTm2.out)))
  replace HM0 := Lib.hid (HM0.out.block (hb.block _ HL0_2.out))
  replace HM1 := Lib.hid (HM1.out.block (hb.block _ HL1_2.out))
  clear hM hb
  have hb : Below W7.heap.size W7 (W7.alloc (.map #[] 0)) := (Below.refl _ _).alloc (Nat.le_refl _) _
  have HM3 : Hid (SMap (W7.alloc (.map #[] 0)) W7.heap.size []) := SMap.made W7
  have HTm3 : Hid (w.heap.size < W7.heap.size) := HA.out.lt
  have HL0_3 : Hid (m0 < W7.heap.size) := HM0.out.lt
  have HL1_3 : Hid (m1 < W7.heap.size) := HM1.out.lt
  have HL2_3 : Hid (m2 < W7.heap.size) := HM2.out.lt
  replace HA : Hid (ArAt w.heap.size (W7.alloc (.map #[] 0))) := (hb.block _ HA.out.lt).trans HA.out
  replace HB : Hid (Below w.heap.size w (W7.alloc (.map #[] 0))) := HB.out.trans (hb.mono (Nat.le_of_lt HTm3.out))
  replace HM0 := Lib.hid (HM0.out.block (hb.block _ HM0.out.lt))
  replace HM1 := Lib.hid (HM1.out.block (hb.block _ HM1.out.lt))
  replace HM2 := Lib.hid (HM2.out.block (hb.block _ HM2.out.lt))
  clear hb
  go_wp2_with fail
  try rw [hW0]
  generalize W7.alloc (.map #[] 0) = W8 at *
  generalize hm3 : W7.heap.size = m3 at *
  clear hm3
  refine upon_insert HM3.out Tryz.underlying72 Tryz.underlying9 rfl ?_
  intro W9 hM hb
  rw [Oper.upon_skip]
  replace HM3 := Lib.hid hM
  replace HA : Hid (ArAt w.heap.size W9) := (hb.block _ HTm3.out).trans HA.out
  replace HB := Lib.hid (HB.out.trans (hb.mono (Nat.le_of_lt HTm3.out)))
  replace HM0 := Lib.hid (HM0.out.block (hb.block _ HL0_3.out))
  replace HM1 := Lib.hid (HM1.out.block (hb.block _ HL1_3.out))
  replace HM2 := Lib.hid (HM2.out.block (hb.block _ HL2_3.out))
  clear hM hb
  go_wp2_with fail
  refine upon_insert HM3.out Tryz.underlying72 Tryz.underlying9 rfl ?_
  intro W10 hM hb
  rw [Oper.upon_skip]
  replace HM3 := Lib.hid hM
  replace HA : Hid (ArAt w.heap.size W10) := (hb.block _ HTm3.out).trans HA.out
  replace HB := Lib.hid (HB.out.trans (hb.mono (Nat.le_of_lt HTm3.out)))
  replace HM0 := Lib.hid (HM0.out.block (hb.block _ HL0_3.out))
  replace HM1 := Lib.hid (HM1.out.block (hb.block _ HL1_3.out))
  replace HM2 := Lib.hid (HM2.out.block (hb.block _ HL2_3.out))
  clear hM hb
  go_wp2_with fail
  refine upon_insert HM3.out Tryz.underlying72 Tryz.underlying9 rfl ?_
  intro W11 hM hb
  rw [Oper.upon_skip]
  replace HM3 := Lib.hid hM
  replace HA : Hid (ArAt w.heap.size W11) := (hb.block _ HTm3.out).trans HA.out
  replace HB := Lib.hid (HB.out.trans (hb.mono (Nat.le_of_lt HTm3.out)))
  replace HM0 := Lib.hid (HM0.out.block (hb.block _ HL0_3.out))
  replace HM1 := Lib.hid (HM1.out.block (hb.block _ HL1_3.out))
  replace HM2 := Lib.hid (HM2.out.block (hb.block _ HL2_3.out))
  clear hM hb
  have hb : Below W11.heap.size W11 (W11.alloc (.map #[] 0)) := (Below.refl _ _).alloc (Nat.le_refl _) _
  have HM4 : Hid (SMap (W11.alloc (.map #[] 0)) W11.heap.size []) := SMap.made W11
  have HTm4 : Hid (w.heap.size < W11.heap.size) := HA.out.lt
  have HL0_4 : Hid (m0 < W11.heap.size) := HM0.out.lt
  have HL1_4 : Hid (m1 < W11.heap.size) := HM1.out.lt
  have HL2_4 : Hid (m2 < W11.heap.size) := HM2.out.lt
  have HL3_4 : Hid (m3 < W11.heap.size) := HM3.out.lt
  replace HA : Hid (ArAt w.heap.size (W11.alloc (.map #[] 0))) := (hb.block _ HA.out.lt).trans HA.out
  replace HB : Hid (Below w.heap.size w (W11.alloc (.map #[] 0))) := HB.out.trans (hb.mono (Nat.le_of_lt HTm4.out))
  replace HM0 := Lib.hid (HM0.out.block (hb.block _ HM0.out.lt))
  replace HM1 := Lib.hid (HM1.out.block (hb.block _ HM1.out.lt))
  replace HM2 := Lib.hid (HM2.out.block (hb.block _ HM2.out.lt))
  replace HM3 := Lib.hid (HM3.out.block (hb.block _ HM3.out.lt))
  clear hb
  go_wp2_with fail
  try rw [hW0]
  generalize W11.alloc (.map #[] 0) = W12 at *
  generalize hm4 : W11.heap.size = m4 at *
  clear hm4
  refine upon_insert HM4.out Tryz.underlying72 Tryz.underlying9 rfl ?_
  intro W13 hM hb
  rw [Oper.upon_skip]
  replace HM4 := Lib.hid hM
  replace HA : Hid (ArAt w.heap.size W13) := (hb.block _ HTm4.out).trans HA.out
  replace HB := Lib.hid (HB.out.trans (hb.mono (Nat.le_of_lt HTm4.out)))
  replace HM0 := Lib.hid (HM0.out.block (hb.block _ HL0_4.out))
  replace HM1 := Lib.hid (HM1.out.block (hb.block _ HL1_4.out))
  replace HM2 := Lib.hid (HM2.out.block (hb.block _ HL2_4.out))
  replace HM3 := Lib.hid (HM3.out.block (hb.block _ HL3_4.out))
  clear hM hb
  go_wp2_with fail
  refine upon_insert HM4.out Tryz.underlying72 Tryz.underlying9 rfl ?_
  intro W14 hM hb
  rw [Oper.upon_skip]
  replace HM4 := Lib.hid hM
  replace HA : Hid (ArAt w.heap.size W14) := (hb.block _ HTm4.out).trans HA.out
  replace HB := Lib.hid (HB.out.trans (hb.mono (Nat.le_of_lt HTm4.out)))
  replace HM0 := Lib.hid (HM0.out.block (hb.block _ HL0_4.out))
  replace HM1 := Lib.hid (HM1.out.block (hb.block _ HL1_4.out))
  replace HM2 := Lib.hid (HM2.out.block (hb.block _ HL2_4.out))
  replace HM3 := Lib.hid (HM3.out.block (hb.block _ HL3_4.out))
  clear hM hb
  go_wp2_with fail
  refine upon_insert HM4.out Tryz.underlying72 Tryz.underlying9 rfl ?_
  intro W15 hM hb
  rw [Oper.upon_skip]
  replace HM4 := Lib.hid hM
  replace HA : Hid (ArAt w.heap.size W15) := (hb.block _ HTm4.out).trans HA.out
  replace HB := Lib.hid (HB.out.trans (hb.mono (Nat.le_of_lt HTm4.out)))
  replace HM0 := Lib.hid (HM0.out.block (hb.block _ HL0_4.out))
  replace HM1 := Lib.hid (HM1.out.block (hb.block _ HL1_4.out))
  replace HM2 := Lib.hid (HM2.out.block (hb.block _ HL2_4.out))
  replace HM3 := Lib.hid (HM3.out.block (hb.block _ HL3_4.out))
  clear hM hb
  go_wp2_with fail
  refine upon_insert HM4.out Tryz.underlying72 Tryz.underlying9 rfl ?_
  intro W16 hM hb
  rw [Oper.upon_skip]
  replace HM4 := Lib.hid hM
  replace HA : Hid (ArAt w.heap.size W16) := (hb.block _ HTm4.out).trans HA.out
  replace HB := Lib.hid (HB.out.trans (hb.mono (Nat.le_of_lt HTm4.out)))
  replace HM0 := Lib.hid (HM0.out.block (hb.block _ HL0_4.out))
  replace HM1 := Lib.hid (HM1.out.block (hb.block _ HL1_4.out))
  replace HM2 := Lib.hid (HM2.out.block (hb.block _ HL2_4.out))
  replace HM3 := Lib.hid (HM3.out.block (hb.block _ HL3_4.out))
  clear hM hb
  go_wp2_with fail
  refine upon_insert HM4.out Tryz.underlying72 Tryz.underlying9 rfl ?_
  intro W17 hM hb
  rw [Oper.upon_skip]
  replace HM4 := Lib.hid hM
  replace HA : Hid (ArAt w.heap.size W17) := (hb.block _ HTm4.out).trans HA.out
  replace HB := Lib.hid (HB.out.trans (hb.mono (Nat.le_of_lt HTm4.out)))
  replace HM0 := Lib.hid (HM0.out.block (hb.block _ HL0_4.out))
  replace HM1 := Lib.hid (HM1.out.block (hb.block _ HL1_4.out))
  replace HM2 := Lib.hid (HM2.out.block (hb.block _ HL2_4.out))
  replace HM3 := Lib.hid (HM3.out.block (hb.block _ HL3_4.out))
  clear hM hb
  go_wp2_with fail
  refine upon_insert HM4.out Tryz.underlying72 Tryz.underlying9 rfl ?_
  intro W18 hM hb
  rw [Oper.upon_skip]
  replace HM4 := Lib.hid hM
  replace HA : Hid (ArAt w.heap.size W18) := (hb.block _ HTm4.out).trans HA.out
  replace HB := Lib.hid (HB.out.trans (hb.mono (Nat.le_of_lt HTm4.out)))
  replace HM0 := Lib.hid (HM0.out.block (hb.block _ HL0_4.out))
  replace HM1 := Lib.hid (HM1.out.block (hb.block _ HL1_4.out))
  replace HM2 := Lib.hid (HM2.out.block (hb.block _ HL2_4.out))
  replace HM3 := Lib.hid (HM3.out.block (hb.block _ HL3_4.out))
  clear hM hb
  have hb : Below W18.heap.size W18 (W18.alloc (.map #[] 0)) := (Below.refl _ _).alloc (Nat.le_refl _) _
  have HM5 : Hid (SMap (W18.alloc (.map #[] 0)) W18.heap.size []) := SMap.made W18
  have HTm5 : Hid (w.heap.size < W18.heap.size) := HA.out.lt
  have HL0_5 : Hid (m0 < W18.heap.size) := HM0.out.lt
  have HL1_5 : Hid (m1 < W18.heap.size) := HM1.out.lt
  have HL2_5 : Hid (m2 < W18.heap.size) := HM2.out.lt
  have HL3_5 : Hid (m3 < W18.heap.size) := HM3.out.lt
  have HL4_5 : Hid (m4 < W18.heap.size) := HM4.out.lt
  replace HA : Hid (ArAt w.heap.size (W18.alloc (.map #[] 0))) := (hb.block _ HA.out.lt).trans HA.out
  replace HB : Hid (Below w.heap.size w (W18.alloc (.map #[] 0))) := HB.out.trans (hb.mono (Nat.le_of_lt HTm5.out))
  replace HM0 := Lib.hid (HM0.out.block (hb.block _ HM0.out.lt))
  replace HM1 := Lib.hid (HM1.out.block (hb.block _ HM1.out.lt))
  replace HM2 := Lib.hid (HM2.out.block (hb.block _ HM2.out.lt))
  replace HM3 := Lib.hid (HM3.out.block (hb.block _ HM3.out.lt))
  replace HM4 := Lib.hid (HM4.out.block (hb.block _ HM4.out.lt))
  clear hb
  go_wp2_with fail
  try rw [hW0]
  generalize W18.alloc (.map #[] 0) = W19 at *
  generalize hm5 : W18.heap.size = m5 at *
  clear hm5
  refine upon_insert HM5.out Tryz.underlying72 Tryz.underlying9 rfl ?_
  intro W20 hM hb
  rw [Oper.upon_skip]
  replace HM5 := Lib.hid hM
  replace HA : Hid (ArAt w.heap.size W20) := (hb.block _ HTm5.out).trans HA.out
  replace HB := Lib.hid (HB.out.trans (hb.mono (Nat.le_of_lt HTm5.out)))
  replace HM0 := Lib.hid (HM0.out.block (hb.block _ HL0_5.out))
  replace HM1 := Lib.hid (HM1.out.block (hb.block _ HL1_5.out))
  replace HM2 := Lib.hid (HM2.out.block (hb.block _ HL2_5.out))
  replace HM3 := Lib.hid (HM3.out.block (hb.block _ HL3_5.out))
  replace HM4 := Lib.hid (HM4.out.block (hb.block _ HL4_5.out))
  clear hM hb
  go_wp2_with fail
  refine upon_insert HM5.out Tryz.underlying72 Tryz.underlying9 rfl ?_
  intro W21 hM hb
  rw [Oper.upon_skip]
  replace HM5 := Lib.hid hM
  replace HA : Hid (ArAt w.heap.size W21) := (hb.block _ HTm5.out).trans HA.out
  replace HB := Lib.hid (HB.out.trans (hb.mono (Nat.le_of_lt HTm5.out)))
  replace HM0 := Lib.hid (HM0.out.block (hb.block _ HL0_5.out))
  replace HM1 := Lib.hid (HM1.out.block (hb.block _ HL1_5.out))
  replace HM2 := Lib.hid (HM2.out.block (hb.block _ HL2_5.out))
  replace HM3 := Lib.hid (HM3.out.block (hb.block _ HL3_5.out))
  replace HM4 := Lib.hid (HM4.out.block (hb.block _ HL4_5.out))
  clear hM hb
  go_wp2_with fail
  refine upon_insert HM5.out Tryz.underlying72 Tryz.underlying9 rfl ?_
  intro W22 hM hb
  rw [Oper.upon_skip]
  replace HM5 := Lib.hid hM
  replace HA : Hid (ArAt w.heap.size W22) := (hb.block _ HTm5.out).trans HA.out
  replace HB := Lib.hid (HB.out.trans (hb.mono (Nat.le_of_lt HTm5.out)))
  replace HM0 := Lib.hid (HM0.out.block (hb.block _ HL0_5.out))
  replace HM1 := Lib.hid (HM1.out.block (hb.block _ HL1_5.out))
  replace HM2 := Lib.hid (HM2.out.block (hb.block _ HL2_5.out))
  replace HM3 := Lib.hid (HM3.out.block (hb.block _ HL3_5.out))
  replace HM4 := Lib.hid (HM4.out.block (hb.block _ HL4_5.out))
  clear hM hb
  go_wp2_with fail
  refine upon_insert HM5.out Tryz.underlying72 Tryz.underlying9 rfl ?_
  intro W23 hM hb
  rw [Oper.upon_skip]
  replace HM5 := Lib.hid hM
  replace HA : Hid (ArAt w.heap.size W23) := (hb.block _ HTm5.out).trans HA.out
  replace HB := Lib.hid (HB.out.trans (hb.mono (Nat.le_of_lt HTm5.out)))
  replace HM0 := Lib.hid (HM0.out.block (hb.block _ HL0_5.out))
  replace HM1 := Lib.hid (HM1.out.block (hb.block _ HL1_5.out))
  replace HM2 := Lib.hid (HM2.out.block (hb.block _ HL2_5.out))
  replace HM3 := Lib.hid (HM3.out.block (hb.block _ HL3_5.out))
  replace HM4 := Lib.hid (HM4.out.block (hb.block _ HL4_5.out))
  clear hM hb
  go_wp2_with fail
  refine upon_insert HM5.out Tryz.underlying72 Tryz.underlying9 rfl ?_
  intro W24 hM hb
  rw [Oper.upon_skip]
  replace HM5 := Lib.hid hM
  replace HA : Hid (ArAt w.heap.size W24) := (hb.block _ HTm5.out).trans HA.out
  replace HB := Lib.hid (HB.out.trans (hb.mono (Nat.le_of_lt HTm5.out)))
  replace HM0 := Lib.hid (HM0.out.block (hb.block _ HL0_5.out))
  replace HM1 := Lib.hid (HM1.out.block (hb.block _ HL1_5.out))
  replace HM2 := Lib.hid (HM2.out.block (hb.block _ HL2_5.out))
  replace HM3 := Lib.hid (HM3.out.block (hb.block _ HL3_5.out))
  replace HM4 := Lib.hid (HM4.out.block (hb.block _ HL4_5.out))
  clear hM hb
  go_wp2_with fail
  refine upon_insert HM5.out Tryz.underlying72 Tryz.underlying9 rfl ?_
  intro W25 hM hb
  rw [Oper.upon_skip]
  replace HM5 := Lib.hid hM
  replace HA : Hid (ArAt w.heap.size W25) := (hb.block _ HTm5.out).trans HA.out
  replace HB := Lib.hid (HB.out.trans (hb.mono (Nat.le_of_lt HTm5.out)))
  replace HM0 := Lib.hid (HM0.out.block (hb.block _ HL0_5.out))
  replace HM1 := Lib.hid (HM1.out.block (hb.block _ HL1_5.out))
  replace HM2 := Lib.hid (HM2.out.block (hb.block _ HL2_5.out))
  replace HM3 := Lib.hid (HM3.out.block (hb.block _ HL3_5.out))
  replace HM4 := Lib.hid (HM4.out.block (hb.block _ HL4_5.out))
  clear hM hb
  go_wp2_with fail
  refine upon_insert HM5.out Tryz.underlying72 Tryz.underlying9 rfl ?_
  intro W26 hM hb
  rw [Oper.upon_skip]
  replace HM5 := Lib.hid hM
  replace HA : Hid (ArAt w.heap.size W26) := (hb.block _ HTm5.out).trans HA.out
  replace HB := Lib.hid (HB.out.trans (hb.mono (Nat.le_of_lt HTm5.out)))
  replace HM0 := Lib.hid (HM0.out.block (hb.block _ HL0_5.out))
  replace HM1 := Lib.hid (HM1.out.block (hb.block _ HL1_5.out))
  replace HM2 := Lib.hid (HM2.out.block (hb.block _ HL2_5.out))
  replace HM3 := Lib.hid (HM3.out.block (hb.block _ HL3_5.out))
  replace HM4 := Lib.hid (HM4.out.block (hb.block _ HL4_5.out))
  clear hM hb
  go_wp2_with fail
  refine upon_insert HM5.out Tryz.underlying72 Tryz.underlying9 rfl ?_
  intro W27 hM hb
  rw [Oper.upon_skip]
  replace HM5 := Lib.hid hM
  replace HA : Hid (ArAt w.heap.size W27) := (hb.block _ HTm5.out).trans HA.out
  replace HB := Lib.hid (HB.out.trans (hb.mono (Nat.le_of_lt HTm5.out)))
  replace HM0 := Lib.hid (HM0.out.block (hb.block _ HL0_5.out))
  replace HM1 := Lib.hid (HM1.out.block (hb.block _ HL1_5.out))
  replace HM2 := Lib.hid (HM2.out.block (hb.block _ HL2_5.out))
  replace HM3 := Lib.hid (HM3.out.block (hb.block _ HL3_5.out))
  replace HM4 := Lib.hid (HM4.out.block (hb.block _ HL4_5.out))
  clear hM hb
  have hb : Below W27.heap.size W27 (W27.alloc (.map #[] 0)) := (Below.refl _ _).alloc (Nat.le_refl _) _
  have HM6 : Hid (SMap (W27.alloc (.map #[] 0)) W27.heap.size []) := SMap.made W27
  have HTm6 : Hid (w.heap.size < W27.heap.size) := HA.out.lt
  have HL0_6 : Hid (m0 < W27.heap.size) := HM0.out.lt
  have HL1_6 : Hid (m1 < W27.heap.size) := HM1.out.lt
  have HL2_6 : Hid (m2 < W27.heap.size) := HM2.out.lt
  have HL3_6 : Hid (m3 < W27.heap.size) := HM3.out.lt
  have HL4_6 : Hid (m4 < W27.heap.size) := HM4.out.lt
  have HL5_6 : Hid (m5 < W27.heap.size) := HM5.out.lt
  replace HA : Hid (ArAt w.heap.size (W27.alloc (.map #[] 0))) := (hb.block _ HA.out.lt).trans HA.out
  replace HB : Hid (Below w.heap.size w (W27.alloc (.map #[] 0))) := HB.out.trans (hb.mono (Nat.le_of_lt HTm6.out))
  replace HM0 := Lib.hid (HM0.out.block (hb.block _ HM0.out.lt))
  replace HM1 := Lib.hid (HM1.out.block (hb.block _ HM1.out.lt))
  replace HM2 := Lib.hid (HM2.out.block (hb.block _ HM2.out.lt))
  replace HM3 := Lib.hid (HM3.out.block (hb.block _ HM3.out.lt))
  replace HM4 := Lib.hid (HM4.out.block (hb.block _ HM4.out.lt))
  replace HM5 := Lib.hid (HM5.out.block (hb.block _ HM5.out.lt))
  clear hb
  go_wp2_with fail
  try rw [hW0]
  generalize W27.alloc (.map #[] 0) = W28 at *
  generalize hm6 : W27.heap.size = m6 at *
  clear hm6
  refine upon_insert HM6.out Tryz.underlying72 Tryz.underlying9 rfl ?_
  intro W29 hM hb
  rw [Oper.upon_skip]
  replace HM6 := Lib.hid hM
  replace HA : Hid (ArAt w.heap.size W29) := (hb.block _ HTm6.out).trans HA.out
  replace HB := Lib.hid (HB.out.trans (hb.mono (Nat.le_of_lt HTm6.out)))
  replace HM0 := Lib.hid (HM0.out.block (hb.block _ HL0_6.out))
  replace HM1 := Lib.hid (HM1.out.block (hb.block _ HL1_6.out))
  replace HM2 := Lib.hid (HM2.out.block (hb.block _ HL2_6.out))
  replace HM3 := Lib.hid (HM3.out.block (hb.block _ HL3_6.out))
  replace HM4 := Lib.hid (HM4.out.block (hb.block _ HL4_6.out))
  replace HM5 := Lib.hid (HM5.out.block (hb.block _ HL5_6.out))
  clear hM hb
  go_wp2_with fail
  refine upon_insert HM6.out Tryz.underlying72 Tryz.underlying9 rfl ?_
  intro W30 hM hb
  rw [Oper.upon_skip]
  replace HM6 := Lib.hid hM
  replace HA : Hid (ArAt w.heap.size W30) := (hb.block _ HTm6.out).trans HA.out
  replace HB := Lib.hid (HB.out.trans (hb.mono (Nat.le_of_lt HTm6.out)))
  replace HM0 := Lib.hid (HM0.out.block (hb.block _ HL0_6.out))
  replace HM1 := Lib.hid (HM1.out.block (hb.block _ HL1_6.out))
  replace HM2 := Lib.hid (HM2.out.block (hb.block _ HL2_6.out))
  replace HM3 := Lib.hid (HM3.out.block (hb.block _ HL3_6.out))
  replace HM4 := Lib.hid (HM4.out.block (hb.block _ HL4_6.out))
  replace HM5 := Lib.hid (HM5.out.block (hb.block _ HL5_6.out))
  clear hM hb
  go_wp2_with fail
  refine upon_insert HM6.out Tryz.underlying72 Tryz.underlying9 rfl ?_
  intro W31 hM hb
  rw [Oper.upon_skip]
  replace HM6 := Lib.hid hM
  replace HA : Hid (ArAt w.heap.size W31) := (hb.block _ HTm6.out).trans HA.out
  replace HB := Lib.hid (HB.out.trans (hb.mono (Nat.le_of_lt HTm6.out)))
  replace HM0 := Lib.hid (HM0.out.block (hb.block _ HL0_6.out))
  replace HM1 := Lib.hid (HM1.out.block (hb.block _ HL1_6.out))
  replace HM2 := Lib.hid (HM2.out.block (hb.block _ HL2_6.out))
  replace HM3 := Lib.hid (HM3.out.block (hb.block _ HL3_6.out))
  replace HM4 := Lib.hid (HM4.out.block (hb.block _ HL4_6.out))
  replace HM5 := Lib.hid (HM5.out.block (hb.block _ HL5_6.out))
  clear hM hb
  have hb : Below W31.heap.size W31 (W31.alloc (.map #[] 0)) := (Below.refl _ _).alloc (Nat.le_refl _) _
  have HM7 : Hid (SMap (W31.alloc (.map #[] 0)) W31.heap.size []) := SMap.made W31
  have HTm7 : Hid (w.heap.size < W31.heap.size) := HA.out.lt
  have HL0_7 : Hid (m0 < W31.heap.size) := HM0.out.lt
  have HL1_7 : Hid (m1 < W31.heap.size) := HM1.out.lt
  have HL2_7 : Hid (m2 < W31.heap.size) := HM2.out.lt
  have HL3_7 : Hid (m3 < W31.heap.size) := HM3.out.lt
  have HL4_7 : Hid (m4 < W31.heap.size) := HM4.out.lt
  have HL5_7 : Hid (m5 < W31.heap.size) := HM5.out.lt
  have HL6_7 : Hid (m6 < W31.heap.size) := HM6.out.lt
  replace HA : Hid (ArAt w.heap.size (W31.alloc (.map #[] 0))) := (hb.block _ HA.out.lt).trans HA.out
  replace HB : Hid (Below w.heap.size w (W31.alloc (.map #[] 0))) := HB.out.trans (hb.mono (Nat.le_of_lt HTm7.out))
  replace HM0 := Lib.hid (HM0.out.block (hb.block _ HM0.out.lt))
  replace HM1 := Lib.hid (HM1.out.block (hb.block _ HM1.out.lt))
  replace HM2 := Lib.hid (HM2.out.block (hb.block _ HM2.out.lt))
  replace HM3 := Lib.hid (HM3.out.block (hb.block _ HM3.out.lt))
  replace HM4 := Lib.hid (HM4.out.block (hb.block _ HM4.out.lt))
  replace HM5 := Lib.hid (HM5.out.block (hb.block _ HM5.out.lt))
  replace HM6 := Lib.hid (HM6.out.block (hb.block _ HM6.out.lt))
  clear hb
  go_wp2_with fail
  try rw [hW0]
  generalize W31.alloc (.map #[] 0) = W32 at *
  generalize hm7 : W31.heap.size = m7 at *
  clear hm7
  refine upon_insert HM7.out Tryz.underlying72 Tryz.underlying9 rfl ?_
  intro W33 hM hb
  rw [Oper.upon_skip]
  replace HM7 := Lib.hid hM
  replace HA : Hid (ArAt w.heap.size W33) := (hb.block _ HTm7.out).trans HA.out
  replace HB := Lib.hid (HB.out.trans (hb.mono (Nat.le_of_lt HTm7.out)))
  replace HM0 := Lib.hid (HM0.out.block (hb.block _ HL0_7.out))
  replace HM1 := Lib.hid (HM1.out.block (hb.block _ HL1_7.out))
  replace HM2 := Lib.hid (HM2.out.block (hb.block _ HL2_7.out))
  replace HM3 := Lib.hid (HM3.out.block (hb.block _ HL3_7.out))
  replace HM4 := Lib.hid (HM4.out.block (hb.block _ HL4_7.out))
  replace HM5 := Lib.hid (HM5.out.block (hb.block _ HL5_7.out))
  replace HM6 := Lib.hid (HM6.out.block (hb.block _ HL6_7.out))
  clear hM hb
  go_wp2_with fail
  refine upon_insert HM7.out Tryz.underlying72 Tryz.underlying9 rfl ?_
  intro W34 hM hb
  rw [Oper.upon_skip]
  replace HM7 := Lib.hid hM
  replace HA : Hid (ArAt w.heap.size W34) := (hb.block _ HTm7.out).trans HA.out
  replace HB := Lib.hid (HB.out.trans (hb.mono (Nat.le_of_lt HTm7.out)))
  replace HM0 := Lib.hid (HM0.out.block (hb.block _ HL0_7.out))
  replace HM1 := Lib.hid (HM1.out.block (hb.block _ HL1_7.out))
  replace HM2 := Lib.hid (HM2.out.block (hb.block _ HL2_7.out))
  replace HM3 := Lib.hid (HM3.out.block (hb.block _ HL3_7.out))
  replace HM4 := Lib.hid (HM4.out.block (hb.block _ HL4_7.out))
  replace HM5 := Lib.hid (HM5.out.block (hb.block _ HL5_7.out))
  replace HM6 := Lib.hid (HM6.out.block (hb.block _ HL6_7.out))
  clear hM hb
  go_wp2_with fail
  refine upon_insert HM7.out Tryz.underlying72 Tryz.underlying9 rfl ?_
  intro W35 hM hb
  rw [Oper.upon_skip]
  replace HM7 := Lib.hid hM
  replace HA : Hid (ArAt w.heap.size W35) := (hb.block _ HTm7.out).trans HA.out
  replace HB := Lib.hid (HB.out.trans (hb.mono (Nat.le_of_lt HTm7.out)))
  replace HM0 := Lib.hid (HM0.out.block (hb.block _ HL0_7.out))
  replace HM1 := Lib.hid (HM1.out.block (hb.block _ HL1_7.out))
  replace HM2 := Lib.hid (HM2.out.block (hb.block _ HL2_7.out))
  replace HM3 := Lib.hid (HM3.out.block (hb.block _ HL3_7.out))
  replace HM4 := Lib.hid (HM4.out.block (hb.block _ HL4_7.out))
  replace HM5 := Lib.hid (HM5.out.block (hb.block _ HL5_7.out))
  replace HM6 := Lib.hid (HM6.out.block (hb.block _ HL6_7.out))
  clear hM hb
  go_wp2_with fail
  refine upon_insert HM7.out Tryz.underlying72 Tryz.underlying9 rfl ?_
  intro W36 hM hb
  rw [Oper.upon_skip]
  replace HM7 := Lib.hid hM
  replace HA : Hid (ArAt w.heap.size W36) := (hb.block _ HTm7.out).trans HA.out
  replace HB := Lib.hid (HB.out.trans (hb.mono (Nat.le_of_lt HTm7.out)))
  replace HM0 := Lib.hid (HM0.out.block (hb.block _ HL0_7.out))
  replace HM1 := Lib.hid (HM1.out.block (hb.block _ HL1_7.out))
  replace HM2 := Lib.hid (HM2.out.block (hb.block _ HL2_7.out))
  replace HM3 := Lib.hid (HM3.out.block (hb.block _ HL3_7.out))
  replace HM4 := Lib.hid (HM4.out.block (hb.block _ HL4_7.out))
  replace HM5 := Lib.hid (HM5.out.block (hb.block _ HL5_7.out))
  replace HM6 := Lib.hid (HM6.out.block (hb.block _ HL6_7.out))
  clear hM hb
  have c0 := HA.out.cell 0 (by decide)
  have z0 := HA.out.frozen 0
  have c1 := HA.out.cell 1 (by decide)
  have z1 := HA.out.frozen 1
  have c2 := HA.out.cell 2 (by decide)
  have z2 := HA.out.frozen 2
  have c3 := HA.out.cell 3 (by decide)
  have z3 := HA.out.frozen 3
  have c4 := HA.out.cell 4 (by decide)
  have z4 := HA.out.frozen 4
  have c5 := HA.out.cell 5 (by decide)
  have z5 := HA.out.frozen 5
  have c6 := HA.out.cell 6 (by decide)
  have z6 := HA.out.frozen 6
  have c7 := HA.out.cell 7 (by decide)
  have z7 := HA.out.frozen 7
  go_wp2
  have hr := arW_at HA.out (.map (some m0)) (.map (some m1)) (.map (some m2)) (.map (some m3)) (.map (some m4)) (.map (some m5)) (.map (some m6)) (.map (some m7))
  have hbl := arW_below W36 w.heap.size (.map (some m0)) (.map (some m1)) (.map (some m2)) (.map (some m3)) (.map (some m4)) (.map (some m5)) (.map (some m6)) (.map (some m7))
  have hot := arW_other W36 w.heap.size (.map (some m0)) (.map (some m1)) (.map (some m2)) (.map (some m3)) (.map (some m4)) (.map (some m5)) (.map (some m6)) (.map (some m7))
  have r0 : (arW W36 w.heap.size (.map (some m0)) (.map (some m1)) (.map (some m2)) (.map (some m3)) (.map (some m4)) (.map (some m5)) (.map (some m6)) (.map (some m7))).cell? ⟨w.heap.size, 0, none⟩ = some (.map (some m0)) := by rw [Lib.cell_of_heap hr]; rfl
  have r1 : (arW W36 w.heap.size (.map (some m0)) (.map (some m1)) (.map (some m2)) (.map (some m3)) (.map (some m4)) (.map (some m5)) (.map (some m6)) (.map (some m7))).cell? ⟨w.heap.size, 1, none⟩ = some (.map (some m1)) := by rw [Lib.cell_of_heap hr]; rfl
  have r2 : (arW W36 w.heap.size (.map (some m0)) (.map (some m1)) (.map (some m2)) (.map (some m3)) (.map (some m4)) (.map (some m5)) (.map (some m6)) (.map (some m7))).cell? ⟨w.heap.size, 2, none⟩ = some (.map (some m2)) := by rw [Lib.cell_of_heap hr]; rfl
  have r3 : (arW W36 w.heap.size (.map (some m0)) (.map (some m1)) (.map (some m2)) (.map (some m3)) (.map (some m4)) (.map (some m5)) (.map (some m6)) (.map (some m7))).cell? ⟨w.heap.size, 3, none⟩ = some (.map (some m3)) := by rw [Lib.cell_of_heap hr]; rfl
  have r4 : (arW W36 w.heap.size (.map (some m0)) (.map (some m1)) (.map (some m2)) (.map (some m3)) (.map (some m4)) (.map (some m5)) (.map (some m6)) (.map (some m7))).cell? ⟨w.heap.size, 4, none⟩ = some (.map (some m4)) := by rw [Lib.cell_of_heap hr]; rfl
  have r5 : (arW W36 w.heap.size (.map (some m0)) (.map (some m1)) (.map (some m2)) (.map (some m3)) (.map (some m4)) (.map (some m5)) (.map (some m6)) (.map (some m7))).cell? ⟨w.heap.size, 5, none⟩ = some (.map (some m5)) := by rw [Lib.cell_of_heap hr]; rfl
  have r6 : (arW W36 w.heap.size (.map (some m0)) (.map (some m1)) (.map (some m2)) (.map (some m3)) (.map (some m4)) (.map (some m5)) (.map (some m6)) (.map (some m7))).cell? ⟨w.heap.size, 6, none⟩ = some (.map (some m6)) := by rw [Lib.cell_of_heap hr]; rfl
  have r7 : (arW W36 w.heap.size (.map (some m0)) (.map (some m1)) (.map (some m2)) (.map (some m3)) (.map (some m4)) (.map (some m5)) (.map (some m6)) (.map (some m7))).cell? ⟨w.heap.size, 7, none⟩ = some (.map (some m7)) := by rw [Lib.cell_of_heap hr]; rfl
  have HP : Hid (LvP w (.returned (.agg #[.map (some m0), .map (some m1), .map (some m2), .map (some m3), .map (some m4), .map (some m5), .map (some m6), .map (some m7)])) (arW W36 w.heap.size (.map (some m0)) (.map (some m1)) (.map (some m2)) (.map (some m3)) (.map (some m4)) (.map (some m5)) (.map (some m6)) (.map (some m7)))) := ⟨m0, m1, m2, m3, m4, m5, m6, m7, rfl, HB.out.trans hbl, HM0.out.block (hot _ (by have := HTm0.out; omega)), HM1.out.block (hot _ (by have := HTm1.out; omega)), HM2.out.block (hot _ (by have := HTm2.out; omega)), HM3.out.block (hot _ (by have := HTm3.out; omega)), HM4.out.block (hot _ (by have := HTm4.out; omega)), HM5.out.block (hot _ (by have := HTm5.out; omega)), HM6.out.block (hot _ (by have := HTm6.out; omega)), HM7.out.block (hot _ (by have := HTm7.out; omega))⟩
  change bodyPost _ _ _ _ _ (arW W36 w.heap.size (.map (some m0)) (.map (some m1)) (.map (some m2)) (.map (some m3)) (.map (some m4)) (.map (some m5)) (.map (some m6)) (.map (some m7)))
  clear hr hbl hot c0 z0 c1 z1 c2 z2 c3 z3 c4 z4 c5 z5 c6 z6 c7 z7
  refine bodyPost_ret (v := .agg #[.map (some m0), .map (some m1), .map (some m2), .map (some m3), .map (some m4), .map (some m5), .map (some m6), .map (some m7)]) ?_ rfl HP.out
  generalize arW W36 w.heap.size (.map (some m0)) (.map (some m1)) (.map (some m2)) (.map (some m3)) (.map (some m4)) (.map (some m5)) (.map (some m6)) (.map (some m7)) = WZ at *
  simp [results, Tryz.results50, go_sem, r0, r1, r2, r3, r4, r5, r6, r7]

end Go.Proofs.YtaocbhfehncdcaaGreatDoor
