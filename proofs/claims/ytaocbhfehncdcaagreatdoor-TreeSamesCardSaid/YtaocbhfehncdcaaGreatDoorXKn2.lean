/-
  What tree's law knows is so. Conditions: the row of signs holds what the program's text lays.
-/
import Derived.Test.YtaocbhfehncdcaaGreatDoorXSm2
namespace Go.Proofs.YtaocbhfehncdcaaGreatDoor
open Go.RowKit

/-- The law's own tree: rows behind block T. -/
theorem want_at (W : World) (H : Nat) (w : World) (a1 a2 a3 a4 : Nat) (t1 t2 t3 t4 : TypeId)
    (h1 : w.heap[a1]? = some (.cells #[.int .i64 5, .string ⟨#[120]⟩, .string ⟨#[]⟩, .int .i64 0, .slice none 0 0] t1 (0, 0)))
    (h2 : w.heap[a2]? = some (.cells #[.int .i64 12, .string ⟨#[64]⟩, .string ⟨#[]⟩, .int .i64 0, .slice (some ⟨a1, 0, none⟩) 1 1, .int .i64 1, .string ⟨#[]⟩, .string ⟨#[]⟩, .int .i64 1, .slice none 0 0] t2 (0, 0)))
    (h3 : w.heap[a3]? = some (.cells #[.int .i64 8, .string ⟨#[]⟩, .string ⟨#[]⟩, .int .i64 0, .slice (some ⟨a2, 0, none⟩) 2 2] t3 (0, 0)))
    (h4 : w.heap[a4]? = some (.cells #[.int .i64 12, .string ⟨#[64]⟩, .string ⟨#[]⟩, .int .i64 0, .slice (some ⟨a3, 0, none⟩) 1 1, .int .i64 1, .string ⟨#[]⟩, .string ⟨#[]⟩, .int .i64 2, .slice none 0 0] t4 (0, 0))) :
    NdAt (fun _ => True) w (nI (nI nX (nN 1)) (nN 2)) (.agg #[.int .i64 8, .string ⟨#[]⟩, .string ⟨#[]⟩, .int .i64 0, .slice (some ⟨a4, 0, none⟩) 2 2]) :=
  .mk (.some trivial h4 (.cons (.some trivial h3 (.cons (.some trivial h2 (.cons (.some trivial h1 (.cons .none .nil) rfl (by decide)) (.cons .none .nil)) rfl (by decide)) .nil) rfl (by decide)) (.cons .none .nil)) rfl (by decide))

theorem keepA {W : World} {o x : Obj} {k : Nat} (h : W.heap[k]? = some x) : (W.alloc o).heap[k]? = some x := (((Below.refl _ _).alloc (Nat.le_refl _) o).block k (Array.getElem?_eq_some_iff.1 h).1).trans h
def TrT (w : World) (e : Ending) (w' : World) : Prop := e = .returned (.bool true) ∧ Below w.heap.size w w'
set_option maxRecDepth 100000 in
set_option maxHeartbeats 16000000 in
theorem known_any (w : World) (hg : SigAt w) : Calls Tryz.prog 6 #[] w (TrT w) := by
  have H1 := Lib.hid (ParseExpr_a w hg)
  have HG := Lib.hid hg
  have HP : Hid (∀ w', Below w.heap.size w w' → TrT w (.returned (.bool true)) w') := fun w' h => ⟨rfl, h⟩
  clear hg
  go_enter Tryz.func6, Tryz.ntmps6
  go_wp2_with fail
  refine H1.out.mono ?_
  rintro e1 W1 ⟨v, rfl, hn, hb1⟩
  obtain ⟨la, ln, lc, rfl⟩ := nd_val hn
  have HB1 := Lib.hid hb1
  have HN1 := Lib.hid hn
  clear hb1 hn
  obtain ⟨W8, hW8⟩ : ∃ W, W = ((((((((W1.alloc (.cells #[.int .i64 8, .string ⟨#[]⟩, .string ⟨#[]⟩, .int .i64 0, .slice la ln lc] 28)).alloc (.cells #[.int .i64 5, .string ⟨#[120]⟩, .string ⟨#[]⟩, .int .i64 0, .slice none 0 0] 28)).alloc (.cells #[.int .i64 12, .string ⟨#[64]⟩, .string ⟨#[]⟩, .int .i64 0, .slice (some ⟨W1.heap.size + 1, 0, none⟩) 1 1] 28)).alloc (.cells #[.int .i64 12, .string ⟨#[64]⟩, .string ⟨#[]⟩, .int .i64 0, .slice (some ⟨W1.heap.size + 1, 0, none⟩) 1 1, .int .i64 1, .string ⟨#[]⟩, .string ⟨#[]⟩, .int .i64 1, .slice none 0 0] 28)).alloc (.cells #[.int .i64 8, .string ⟨#[]⟩, .string ⟨#[]⟩, .int .i64 0, .slice (some ⟨W1.heap.size + 1 + 1 + 1, 0, none⟩) 2 2] 28)).alloc (.cells #[.int .i64 8, .string ⟨#[]⟩, .string ⟨#[]⟩, .int .i64 0, .slice (some ⟨W1.heap.size + 1 + 1 + 1, 0, none⟩) 2 2] 28)).alloc (.cells #[.int .i64 12, .string ⟨#[64]⟩, .string ⟨#[]⟩, .int .i64 0, .slice (some ⟨W1.heap.size + 1 + 1 + 1 + 1 + 1, 0, none⟩) 1 1, .int .i64 1, .string ⟨#[]⟩, .string ⟨#[]⟩, .int .i64 2, .slice none 0 0] 28)).alloc (.cells #[.int .i64 8, .string ⟨#[]⟩, .string ⟨#[]⟩, .int .i64 0, .slice (some ⟨W1.heap.size + 1 + 1 + 1 + 1 + 1 + 1, 0, none⟩) 2 2] 28)) := ⟨_, rfl⟩
  have k0 : W8.heap[W1.heap.size]? = some (.cells #[.int .i64 8, .string ⟨#[]⟩, .string ⟨#[]⟩, .int .i64 0, .slice la ln lc] 28) := by
    rw [hW8]
    exact keepA (keepA (keepA (keepA (keepA (keepA (keepA (last_at rfl (by simp))))))))
  have k1 : W8.heap[W1.heap.size + 1]? = some (.cells #[.int .i64 5, .string ⟨#[120]⟩, .string ⟨#[]⟩, .int .i64 0, .slice none 0 0] 28) := by
    rw [hW8]
    exact keepA (keepA (keepA (keepA (keepA (keepA (last_at rfl (by simp)))))))
  have k2 : W8.heap[W1.heap.size + 1 + 1]? = some (.cells #[.int .i64 12, .string ⟨#[64]⟩, .string ⟨#[]⟩, .int .i64 0, .slice (some ⟨W1.heap.size + 1, 0, none⟩) 1 1] 28) := by
    rw [hW8]
    exact keepA (keepA (keepA (keepA (keepA (last_at rfl (by simp))))))
  have k3 : W8.heap[W1.heap.size + 1 + 1 + 1]? = some (.cells #[.int .i64 12, .string ⟨#[64]⟩, .string ⟨#[]⟩, .int .i64 0, .slice (some ⟨W1.heap.size + 1, 0, none⟩) 1 1, .int .i64 1, .string ⟨#[]⟩, .string ⟨#[]⟩, .int .i64 1, .slice none 0 0] 28) := by
    rw [hW8]
    exact keepA (keepA (keepA (keepA (last_at rfl (by simp)))))
  have k4 : W8.heap[W1.heap.size + 1 + 1 + 1 + 1]? = some (.cells #[.int .i64 8, .string ⟨#[]⟩, .string ⟨#[]⟩, .int .i64 0, .slice (some ⟨W1.heap.size + 1 + 1 + 1, 0, none⟩) 2 2] 28) := by
    rw [hW8]
    exact keepA (keepA (keepA (last_at rfl (by simp))))
  have k5 : W8.heap[W1.heap.size + 1 + 1 + 1 + 1 + 1]? = some (.cells #[.int .i64 8, .string ⟨#[]⟩, .string ⟨#[]⟩, .int .i64 0, .slice (some ⟨W1.heap.size + 1 + 1 + 1, 0, none⟩) 2 2] 28) := by
    rw [hW8]
    exact keepA (keepA (last_at rfl (by simp)))
  have k6 : W8.heap[W1.heap.size + 1 + 1 + 1 + 1 + 1 + 1]? = some (.cells #[.int .i64 12, .string ⟨#[64]⟩, .string ⟨#[]⟩, .int .i64 0, .slice (some ⟨W1.heap.size + 1 + 1 + 1 + 1 + 1, 0, none⟩) 1 1, .int .i64 1, .string ⟨#[]⟩, .string ⟨#[]⟩, .int .i64 2, .slice none 0 0] 28) := by
    rw [hW8]
    exact keepA (last_at rfl (by simp))
  have k7 : W8.heap[W1.heap.size + 1 + 1 + 1 + 1 + 1 + 1 + 1]? = some (.cells #[.int .i64 8, .string ⟨#[]⟩, .string ⟨#[]⟩, .int .i64 0, .slice (some ⟨W1.heap.size + 1 + 1 + 1 + 1 + 1 + 1, 0, none⟩) 2 2] 28) := by
    rw [hW8]
    exact last_at rfl (by simp)
  have hb8 : Below W1.heap.size W1 W8 := by
    rw [hW8]
    exact ((((((((Below.refl _ _).alloc (by first | exact Nat.le_refl _ | (simp; done) | (simp; omega)) _).alloc (by first | exact Nat.le_refl _ | (simp; done) | (simp; omega)) _).alloc (by first | exact Nat.le_refl _ | (simp; done) | (simp; omega)) _).alloc (by first | exact Nat.le_refl _ | (simp; done) | (simp; omega)) _).alloc (by first | exact Nat.le_refl _ | (simp; done) | (simp; omega)) _).alloc (by first | exact Nat.le_refl _ | (simp; done) | (simp; omega)) _).alloc (by first | exact Nat.le_refl _ | (simp; done) | (simp; omega)) _).alloc (by first | exact Nat.le_refl _ | (simp; done) | (simp; omega)) _
  have HX8 : Hid (NkAt W1.heap.size (.int .i64 8) (.string ⟨#[]⟩) (.string ⟨#[]⟩) (.int .i64 0) (.slice la ln lc) W8) := k0
  have HY8 : Hid (NkAt (W1.heap.size + 1 + 1 + 1 + 1 + 1 + 1 + 1) (.int .i64 8) (.string ⟨#[]⟩) (.string ⟨#[]⟩) (.int .i64 0) (.slice (some ⟨W1.heap.size + 1 + 1 + 1 + 1 + 1 + 1, 0, none⟩) 2 2) W8) := k7
  have HW8 := Lib.hid (want_at W8 0 W8 _ _ _ _ _ _ _ _ k1 k3 k5 k6)
  have HN8 := Lib.hid (HN1.out.move (S' := fun _ => True) fun g h1 h2 => ⟨hb8.block g h2, trivial⟩)
  have HB8 := Lib.hid (HB1.out.trans (hb8.mono HB1.out.size))
  have HG8 := Lib.hid (HG.out.block (HB8.out.block _ HG.out.lt))
  clear k0 k1 k2 k3 k4 k5 k6 k7 hb8 HB1 HN1 HG H1
  go_wp2_with fail
  rw [← hW8]
  clear hW8
  generalize W1.heap.size + 1 + 1 + 1 + 1 + 1 + 1 + 1 = Y at *
  generalize W1.heap.size + 1 + 1 + 1 + 1 + 1 + 1 = Z at *
  generalize W1.heap.size = X at *
  refine (Parse_b _ HG8.out).mono ?_
  rintro e1 W9 ⟨v, rfl, hn, hb⟩
  have HX9 := Lib.hid (HX8.out.below hb)
  have HY9 := Lib.hid (HY8.out.below hb)
  have HW9 := Lib.hid (HW8.out.move (S' := fun _ => True) fun g h1 h2 => ⟨hb.block g h2, trivial⟩)
  have HN9 := Lib.hid (HN8.out.move (S' := fun _ => True) fun g h1 h2 => ⟨hb.block g h2, trivial⟩)
  have HB9 := Lib.hid (HB8.out.trans (hb.mono HB8.out.size))
  have HG9 := Lib.hid (HG8.out.block (hb.block _ HG8.out.lt))
  clear hb hn HX8 HY8 HW8 HN8 HB8 HG8
  go_wp2_with fail
  refine (Parse_c _ HG9.out).mono ?_
  rintro e1 W10 ⟨rfl, hb⟩
  have HX10 := Lib.hid (HX9.out.below hb)
  have HY10 := Lib.hid (HY9.out.below hb)
  have HW10 := Lib.hid (HW9.out.move (S' := fun _ => True) fun g h1 h2 => ⟨hb.block g h2, trivial⟩)
  have HN10 := Lib.hid (HN9.out.move (S' := fun _ => True) fun g h1 h2 => ⟨hb.block g h2, trivial⟩)
  have HB10 := Lib.hid (HB9.out.trans (hb.mono HB9.out.size))
  have HG10 := Lib.hid (HG9.out.block (hb.block _ HG9.out.lt))
  clear hb  HX9 HY9 HW9 HN9 HB9 HG9
  obtain ⟨x0, x1, x2, x3, x4⟩ := HX10.out.cells
  obtain ⟨y0, y1, y2, y3, y4⟩ := HY10.out.cells
  go_wp2_with fail
  refine (sameNode_any _ _ (nI (nI nX (nN 1)) (nN 2)) (nI (nI nX (nN 1)) (nN 2)) _ _ _ (by decide) HN10.out HW10.out).mono ?_
  rw [eqN_self]
  rintro e1 W11 ⟨rfl, hb⟩
  have HB11 := Lib.hid (HB10.out.trans (hb.mono HB10.out.size))
  clear hb
  go_wp2
  go_ret
  exact HP.out _ HB11.out

end Go.Proofs.YtaocbhfehncdcaaGreatDoor
