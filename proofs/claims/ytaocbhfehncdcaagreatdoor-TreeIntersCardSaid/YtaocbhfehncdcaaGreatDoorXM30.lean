/-
  What tree's law knows is so. Conditions: the row of signs holds what the program's text lays. TreeInters: the law's walk. Conditions: the row of signs is laid, and the variable strconv.ErrSyntax holds an error. From the rows' condition to what the walks ask of the world: the row of signs, the error strconv.ErrSyntax. No condition beside.
-/
import Derived.Test.YtaocbhfehncdcaaGreatDoorXSm2
import Derived.Test.YtaocbhfehncdcaaGreatDoorXM29
import Derived.Test.YtaocbhfehncdcaaGreatDoorRows
import Derived.Lib.LaidTab
import Derived.MakeChecks
import Derived.Stop.LaidErr
namespace Go.Proofs.YtaocbhfehncdcaaGreatDoor
open Go.RowKit

/-- The law's own tree: rows behind block T. -/
theorem want_at (W : World) (H : Nat) (w : World) (a1 a2 a3 a4 : Nat) (t1 t2 t3 t4 : TypeId)
    (h1 : w.heap[a1]? = some (.cells #[.int .i64 5, .string ⟨#[120]⟩, .string ⟨#[]⟩, .int .i64 0, .slice none 0 0] t1 (0, 0)))
    (h2 : w.heap[a2]? = some (.cells #[.int .i64 12, .string ⟨#[64]⟩, .string ⟨#[]⟩, .int .i64 0, .slice (some ⟨a1, 0, none⟩) 1 1, .int .i64 1, .string ⟨#[]⟩, .string ⟨#[]⟩, .int .i64 1, .slice none 0 0] t2 (0, 0)))
    (h3 : w.heap[a3]? = some (.cells #[.int .i64 8, .string ⟨#[]⟩, .string ⟨#[]⟩, .int .i64 0, .slice (some ⟨a2, 0, none⟩) 2 2] t3 (0, 0)))
    (h4 : w.heap[a4]? = some (.cells #[.int .i64 12, .string ⟨#[64]⟩, .string ⟨#[]⟩, .int .i64 0, .slice (some ⟨a3, 0, none⟩) 1 1, .int .i64 1, .string ⟨#[]⟩, .string ⟨#[]⟩, .int .i64 2, .slice none 0 0] t4 (0, 0))) :
    NdAt (fun _ => True) w (nI (nI nX (nN 1)) (nN 2)) (.agg #[.int .i64 8, .string ⟨#[]⟩, .string ⟨#[]⟩, .int .i64 0, .slice (some ⟨a4, 0, none⟩) 2 2]) :=
  .mk (.some trivial h4 (.cons (.some trivial h3 (.cons (.some trivial h2 (.cons (.some trivial h1 (.cons .none .nil) rfl (by decide)) (.cons .none .nil)) rfl (by decide)) .nil) rfl (by decide)) (.cons .none .nil)) rfl (by decide))

theorem keepA {W : World} {o x : Obj} {k : Nat} (h : W.heap[k]? = some x) : (W.alloc o).heap[k]? = some x := (((Below.refl _ _).alloc (Nat.le_refl _) o).block k (Array.getElem?_eq_some_iff.1 h).1).trans h
def TrT (w : World) (e : Ending) (w' : World) : Prop := e = .returned (.bool true) ∧ Below w.heap.size w w'
set_option maxRecDepth 100000 in
set_option maxHeartbeats 16000000 in
theorem known_any (w : World) (hg : SigAt w) : Calls Tryz.prog 6 #[] w (TrT w) := by
  have H1 := Lib.hid (ParseExpr_a w hg)
  have HG := Lib.hid hg
  have HP : Hid (∀ w', Below w.heap.size w w' → TrT w (.returned (.bool true)) w') := fun w' h => ⟨rfl, h⟩
  clear hg
  go_enter Tryz.func6, Tryz.ntmps6
  go_wp2_with fail
  refine H1.out.mono ?_
  rintro e1 W1 ⟨v, rfl, hn, hb1⟩
  obtain ⟨la, ln, lc, rfl⟩ := nd_val hn
  have HB1 := Lib.hid hb1
  have HN1 := Lib.hid hn
  clear hb1 hn
  obtain ⟨W8, hW8⟩ : ∃ W, W = ((((((((W1.alloc (.cells #[.int .i64 8, .string ⟨#[]⟩, .string ⟨#[]⟩, .int .i64 0, .slice la ln lc] 28)).alloc (.cells #[.int .i64 5, .string ⟨#[120]⟩, .string ⟨#[]⟩, .int .i64 0, .slice none 0 0] 28)).alloc (.cells #[.int .i64 12, .string ⟨#[64]⟩, .string ⟨#[]⟩, .int .i64 0, .slice (some ⟨W1.heap.size + 1, 0, none⟩) 1 1] 28)).alloc (.cells #[.int .i64 12, .string ⟨#[64]⟩, .string ⟨#[]⟩, .int .i64 0, .slice (some ⟨W1.heap.size + 1, 0, none⟩) 1 1, .int .i64 1, .string ⟨#[]⟩, .string ⟨#[]⟩, .int .i64 1, .slice none 0 0] 28)).alloc (.cells #[.int .i64 8, .string ⟨#[]⟩, .string ⟨#[]⟩, .int .i64 0, .slice (some ⟨W1.heap.size + 1 + 1 + 1, 0, none⟩) 2 2] 28)).alloc (.cells #[.int .i64 8, .string ⟨#[]⟩, .string ⟨#[]⟩, .int .i64 0, .slice (some ⟨W1.heap.size + 1 + 1 + 1, 0, none⟩) 2 2] 28)).alloc (.cells #[.int .i64 12, .string ⟨#[64]⟩, .string ⟨#[]⟩, .int .i64 0, .slice (some ⟨W1.heap.size + 1 + 1 + 1 + 1 + 1, 0, none⟩) 1 1, .int .i64 1, .string ⟨#[]⟩, .string ⟨#[]⟩, .int .i64 2, .slice none 0 0] 28)).alloc (.cells #[.int .i64 8, .string ⟨#[]⟩, .string ⟨#[]⟩, .int .i64 0, .slice (some ⟨W1.heap.size + 1 + 1 + 1 + 1 + 1 + 1, 0, none⟩) 2 2] 28)) := ⟨_, rfl⟩
  have k0 : W8.heap[W1.heap.size]? = some (.cells #[.int .i64 8, .string ⟨#[]⟩, .string ⟨#[]⟩, .int .i64 0, .slice la ln lc] 28) := by
    rw [hW8]
    exact keepA (keepA (keepA (keepA (keepA (keepA (keepA (last_at rfl (by simp))))))))
  have k1 : W8.heap[W1.heap.size + 1]? = some (.cells #[.int .i64 5, .string ⟨#[120]⟩, .string ⟨#[]⟩, .int .i64 0, .slice none 0 0] 28) := by
    rw [hW8]
    exact keepA (keepA (keepA (keepA (keepA (keepA (last_at rfl (by simp)))))))
  have k2 : W8.heap[W1.heap.size + 1 + 1]? = some (.cells #[.int .i64 12, .string ⟨#[64]⟩, .string ⟨#[]⟩, .int .i64 0, .slice (some ⟨W1.heap.size + 1, 0, none⟩) 1 1] 28) := by
    rw [hW8]
    exact keepA (keepA (keepA (keepA (keepA (last_at rfl (by simp))))))
  have k3 : W8.heap[W1.heap.size + 1 + 1 + 1]? = some (.cells #[.int .i64 12, .string ⟨#[64]⟩, .string ⟨#[]⟩, .int .i64 0, .slice (some ⟨W1.heap.size + 1, 0, none⟩) 1 1, .int .i64 1, .string ⟨#[]⟩, .string ⟨#[]⟩, .int .i64 1, .slice none 0 0] 28) := by
    rw [hW8]
    exact keepA (keepA (keepA (keepA (last_at rfl (by simp)))))
  have k4 : W8.heap[W1.heap.size + 1 + 1 + 1 + 1]? = some (.cells #[.int .i64 8, .string ⟨#[]⟩, .string ⟨#[]⟩, .int .i64 0, .slice (some ⟨W1.heap.size + 1 + 1 + 1, 0, none⟩) 2 2] 28) := by
    rw [hW8]
    exact keepA (keepA (keepA (last_at rfl (by simp))))
  have k5 : W8.heap[W1.heap.size + 1 + 1 + 1 + 1 + 1]? = some (.cells #[.int .i64 8, .string ⟨#[]⟩, .string ⟨#[]⟩, .int .i64 0, .slice (some ⟨W1.heap.size + 1 + 1 + 1, 0, none⟩) 2 2] 28) := by
    rw [hW8]
    exact keepA (keepA (last_at rfl (by simp)))
  have k6 : W8.heap[W1.heap.size + 1 + 1 + 1 + 1 + 1 + 1]? = some (.cells #[.int .i64 12, .string ⟨#[64]⟩, .string ⟨#[]⟩, .int .i64 0, .slice (some ⟨W1.heap.size + 1 + 1 + 1 + 1 + 1, 0, none⟩) 1 1, .int .i64 1, .string ⟨#[]⟩, .string ⟨#[]⟩, .int .i64 2, .slice none 0 0] 28) := by
    rw [hW8]
    exact keepA (last_at rfl (by simp))
  have k7 : W8.heap[W1.heap.size + 1 + 1 + 1 + 1 + 1 + 1 + 1]? = some (.cells #[.int .i64 8, .string ⟨#[]⟩, .string ⟨#[]⟩, .int .i64 0, .slice (some ⟨W1.heap.size + 1 + 1 + 1 + 1 + 1 + 1, 0, none⟩) 2 2] 28) := by
    rw [hW8]
    exact last_at rfl (by simp)
  have hb8 : Below W1.heap.size W1 W8 := by
    rw [hW8]
    exact ((((((((Below.refl _ _).alloc (by first | exact Nat.le_refl _ | (simp; done) | (simp; omega)) _).alloc (by first | exact Nat.le_refl _ | (simp; done) | (simp; omega)) _).alloc (by first | exact Nat.le_refl _ | (simp; done) | (simp; omega)) _).alloc (by first | exact Nat.le_refl _ | (simp; done) | (simp; omega)) _).alloc (by first | exact Nat.le_refl _ | (simp; done) | (simp; omega)) _).alloc (by first | exact Nat.le_refl _ | (simp; done) | (simp; omega)) _).alloc (by first | exact Nat.le_refl _ | (simp; done) | (simp; omega)) _).alloc (by first | exact Nat.le_refl _ | (simp; done) | (simp; omega)) _
  have HX8 : Hid (NkAt W1.heap.size (.int .i64 8) (.string ⟨#[]⟩) (.string ⟨#[]⟩) (.int .i64 0) (.slice la ln lc) W8) := k0
  have HY8 : Hid (NkAt (W1.heap.size + 1 + 1 + 1 + 1 + 1 + 1 + 1) (.int .i64 8) (.string ⟨#[]⟩) (.string ⟨#[]⟩) (.int .i64 0) (.slice (some ⟨W1.heap.size + 1 + 1 + 1 + 1 + 1 + 1, 0, none⟩) 2 2) W8) := k7
  have HW8 := Lib.hid (want_at W8 0 W8 _ _ _ _ _ _ _ _ k1 k3 k5 k6)
  have HN8 := Lib.hid (HN1.out.move (S' := fun _ => True) fun g h1 h2 => ⟨hb8.block g h2, trivial⟩)
  have HB8 := Lib.hid (HB1.out.trans (hb8.mono HB1.out.size))
  have HG8 := Lib.hid (HG.out.block (HB8.out.block _ HG.out.lt))
  clear k0 k1 k2 k3 k4 k5 k6 k7 hb8 HB1 HN1 HG H1
  go_wp2_with fail
  rw [← hW8]
  clear hW8
  generalize W1.heap.size + 1 + 1 + 1 + 1 + 1 + 1 + 1 = Y at *
  generalize W1.heap.size + 1 + 1 + 1 + 1 + 1 + 1 = Z at *
  generalize W1.heap.size = X at *
  refine (Parse_b _ HG8.out).mono ?_
  rintro e1 W9 ⟨v, rfl, hn, hb⟩
  have HX9 := Lib.hid (HX8.out.below hb)
  have HY9 := Lib.hid (HY8.out.below hb)
  have HW9 := Lib.hid (HW8.out.move (S' := fun _ => True) fun g h1 h2 => ⟨hb.block g h2, trivial⟩)
  have HN9 := Lib.hid (HN8.out.move (S' := fun _ => True) fun g h1 h2 => ⟨hb.block g h2, trivial⟩)
  have HB9 := Lib.hid (HB8.out.trans (hb.mono HB8.out.size))
  have HG9 := Lib.hid (HG8.out.block (hb.block _ HG8.out.lt))
  clear hb hn HX8 HY8 HW8 HN8 HB8 HG8
  go_wp2_with fail
  refine (Parse_c _ HG9.out).mono ?_
  rintro e1 W10 ⟨rfl, hb⟩
  have HX10 := Lib.hid (HX9.out.below hb)
  have HY10 := Lib.hid (HY9.out.below hb)
  have HW10 := Lib.hid (HW9.out.move (S' := fun _ => True) fun g h1 h2 => ⟨hb.block g h2, trivial⟩)
  have HN10 := Lib.hid (HN9.out.move (S' := fun _ => True) fun g h1 h2 => ⟨hb.block g h2, trivial⟩)
  have HB10 := Lib.hid (HB9.out.trans (hb.mono HB9.out.size))
  have HG10 := Lib.hid (HG9.out.block (hb.block _ HG9.out.lt))
  clear hb  HX9 HY9 HW9 HN9 HB9 HG9
  obtain ⟨x0, x1, x2, x3, x4⟩ := HX10.out.cells
  obtain ⟨y0, y1, y2, y3, y4⟩ := HY10.out.cells
  go_wp2_with fail
  refine (sameNode_any _ _ (nI (nI nX (nN 1)) (nN 2)) (nI (nI nX (nN 1)) (nN 2)) _ _ _ (by decide) HN10.out HW10.out).mono ?_
  rw [eqN_self]
  rintro e1 W11 ⟨rfl, hb⟩
  have HB11 := Lib.hid (HB10.out.trans (hb.mono HB10.out.size))
  clear hb
  go_wp2
  go_ret
  exact HP.out _ HB11.out

end Go.Proofs.YtaocbhfehncdcaaGreatDoor

namespace Go.Proofs.YtaocbhfehncdcaaGreatDoor
open Go.RowKit

theorem sameNode_free (S S' : Nat → Prop) (a b : Nd) (va vb : Value) (w : World) (h : NdAt S w a va) (h' : NdAt S' w b vb) : Calls Tryz.prog 13 #[va, vb] w (LkP (.bool (eqN a b)) w) := by
  obtain ⟨o, s, t, n, l⟩ := a
  obtain ⟨o2, s2, t2, n2, l2⟩ := b
  cases h with
  | mk h =>
    cases h' with
    | mk h' =>
      obtain ⟨la, lk, lc, rfl⟩ := h.val
      obtain ⟨ma, mk, mc, rfl⟩ := h'.val
      exact node_step _ _ _ _ _ _ _ _ _ _ _ _ _ _ _ _ w fun W hW => same_any S S' (szL l) l l2 _ _ W (Nat.le_refl _) (h.move fun g h1 h2 => ⟨hW.block g h2, h1⟩) (h'.move fun g h1 h2 => ⟨hW.block g h2, h1⟩)
set_option maxRecDepth 100000 in
set_option maxHeartbeats 8000000 in
theorem treeInters_walk (s : ByteArray) (_hs : s.size ≤ maxLen) (w : World) (hg : SigAt w) (hE : ErrAt w) : Calls Tryz.prog 4 #[.string s] w (TrT w) := by
  have HK : Hid (∀ W, Below w.heap.size w W → Calls Tryz.prog 6 #[] W (TrT W)) := fun W hb => known_any W (hg.block (hb.block _ hg.lt))
  have HP : Hid (∀ w', Below w.heap.size w w' → TrT w (.returned (.bool true)) w') := fun w' h => ⟨rfl, h⟩
  clear hg
  by_cases hlt : 20000 < s.size
  · have x1 : (20000 : Int) < (s.size : Int) := by omega
    clear hE
    go_enter Tryz.func4, Tryz.ntmps4
    go_wp2_with fail
    refine (HK.out _ (Below.refl _ _)).mono ?_
    rintro e1 W1 ⟨rfl, hb⟩
    have HB := Lib.hid hb
    clear hb
    go_wp2
    go_ret
    exact HP.out _ HB.out
  · have x1 : (s.size : Int) ≤ (20000 : Int) := by omega
    have hl : s.data.toList.length ≤ 20000 := by rw [← Lib.size_eq]; omega
    have HI := Lib.hid (fun w hE => tInter_any s.data.toList hl w hE)
    have HR := Lib.hid (fun w => rInter_any s.data.toList hl w)
    rw [bs_of] at HI HR
    have HE := Lib.hid hE
    have HEQ : Hid (eqN (irV s.data.toList).1 (irV s.data.toList).1 = true) := eqN_self _
    clear hE hl hlt
    unfold IrP at HI HR
    generalize (irV s.data.toList).1 = x at *
    generalize (irV s.data.toList).2 = er at *
    have y1 : (er == er) = true := by simp
    go_enter Tryz.func4, Tryz.ntmps4
    go_wp2_with fail
    refine (HI.out _ HE.out).mono ?_
    rintro e1 W1 ⟨o1, n1, s1, t1, a1, k1, c1, rfl, hb1, hn1⟩
    have hX1 := NkAt.new W1 (.int .i64 o1) (.string s1) (.string t1) (.int .i64 n1) (.slice a1 k1 c1)
    have hb2 : Below w.heap.size w (W1.alloc (.cells #[.int .i64 o1, .string s1, .string t1, .int .i64 n1, .slice a1 k1 c1] 28)) := hb1.alloc hb1.size _
    have hn2 := hn1.move (S' := fun _ => True) (w' := W1.alloc (.cells #[.int .i64 o1, .string s1, .string t1, .int .i64 n1, .slice a1 k1 c1] 28)) fun g _ h2 => ⟨Lib.alloc_old W1 _ g h2, trivial⟩
    have HX1 := Lib.hid hX1
    have HB2 := Lib.hid hb2
    have HN2 := Lib.hid hn2
    clear hX1 hb2 hn2 hb1 hn1
    go_wp2_with fail
    generalize W1.alloc _ = W2 at *
    generalize W1.heap.size = X at *
    refine (HR.out _).mono ?_
    rintro e1 W3 ⟨o2, n2, s2, t2, a2, k2, c2, rfl, hb3, hn3⟩
    have hX3 := NkAt.new W3 (.int .i64 o2) (.string s2) (.string t2) (.int .i64 n2) (.slice a2 k2 c2)
    have hb4 : Below w.heap.size w (W3.alloc (.cells #[.int .i64 o2, .string s2, .string t2, .int .i64 n2, .slice a2 k2 c2] 28)) := (HB2.out.trans (hb3.mono HB2.out.size)).alloc (Nat.le_trans HB2.out.size hb3.size) _
    have hba : Below W3.heap.size W3 (W3.alloc (.cells #[.int .i64 o2, .string s2, .string t2, .int .i64 n2, .slice a2 k2 c2] 28)) := (Below.refl _ _).alloc (Nat.le_refl _) _
    have HX4 := Lib.hid ((HX1.out.below hb3).below hba)
    have HY4 := Lib.hid hX3
    have HB4 := Lib.hid hb4
    have HN4 := Lib.hid ((HN2.out.move (S' := fun _ => True) (w' := W3) fun g _ h2 => ⟨hb3.block g h2, trivial⟩).move (S' := fun _ => True) fun g _ h2 => ⟨hba.block g h2, trivial⟩)
    have HM4 := Lib.hid (hn3.move (S' := fun _ => True) fun g _ h2 => ⟨hba.block g h2, trivial⟩)
    clear hX3 hb4 hba hb3 hn3 HX1 HN2 HB2
    obtain ⟨u0, u1, u2, u3, u4⟩ := HX4.out.cells
    obtain ⟨v0, v1, v2, v3, v4⟩ := HY4.out.cells
    have HS := Lib.hid (sameNode_free _ _ _ _ _ _ _ HN4.out HM4.out)
    rw [HEQ.out] at HS
    clear HN4 HM4
    go_wp2_with fail
    refine HS.out.mono ?_
    rintro e1 W5 ⟨rfl, hb5⟩
    have HB5 : Hid (Below w.heap.size w W5) := HB4.out.trans (hb5.mono HB4.out.size)
    clear hb5 HS
    go_wp2_with fail
    refine (HK.out _ HB5.out).mono ?_
    rintro e1 W6 ⟨rfl, hb6⟩
    have HB6 : Hid (Below w.heap.size w W6) := HB5.out.trans (hb6.mono HB5.out.size)
    clear hb6
    go_wp2
    go_ret
    exact HP.out _ HB6.out

end Go.Proofs.YtaocbhfehncdcaaGreatDoor

namespace Go.Proofs.YtaocbhfehncdcaaGreatDoor
open Go.RowKit

/-- An array of texts that reads as these holds these, cell for cell. -/
theorem cells_of_strs {H : Type} {enc : TypeId × Value → H} {P : Program} {w : World} {base : Nat} {sp : Nat → Bool} {held : Bool} {fuel : Nat} {t e : TypeId} {n : Nat} {cs : List Value} {zs : List (List UInt8)} {p : List MemPlace}
    (ht : P.underlying t = some (.array n e)) (he : P.underlying e = some .string) (hce : P.cellsOf e = 1) (hct : P.cellsOf t = n)
    (h : DataW.trod enc P w base sp held fuel t cs = some (.agg (zs.map fun z => .lit (.string z)), p)) : cs = zs.map fun z => Value.string (bs z) := by
  cases fuel with
  | zero => simp [DataW.trod] at h
  | succ fuel =>
    simp only [DataW.trod, ht, hce, hct, Nat.mul_one] at h
    split at h
    · rename_i hl
      obtain ⟨xs, hm, hx⟩ := Option.map_eq_some_iff.1 h
      have hxs : xs.map (·.1) = zs.map fun z => (DataW.lit (.string z) : DataW H) := by
        have := congrArg Prod.fst hx
        simpa using this
      have hxl : xs.length = n := by simpa using Lib.mapM_length hm
      have hzl : zs.length = n := by
        have := congrArg List.length hxs
        simp at this
        omega
      apply List.ext_getElem?
      intro i
      by_cases hi : i < n
      · obtain ⟨b, hb, hf⟩ := Lib.mapM_at hm i i (by simp [hi])
        obtain ⟨z, hc, rfl, _⟩ := DataW.trod_string he hf
        have h1 : cs[i]? = some (.string z) := by
          have := congrArg (·[0]?) hc
          simpa [List.getElem?_take, List.getElem?_drop] using this
        have h2 : (xs.map (·.1))[i]? = some (DataW.lit (.string z.data.toList) : DataW H) := by simp [hb]
        rw [hxs] at h2
        simp only [List.getElem?_map, Option.map_eq_some_iff, DataW.lit.injEq, Lit.string.injEq] at h2
        obtain ⟨z', hz', hzz⟩ := h2
        simp [h1, hz', hzz, bs_of]
      · rw [List.getElem?_eq_none (by omega), List.getElem?_eq_none (by simp; omega)]
    · cases h
theorem gSigType : (Tryz.prog.globals[0]?).map (·.type) = some 145 := by kernel_rfl
theorem cellsSig : Tryz.prog.cellsOf 145 = 48 := by kernel_rfl
theorem cellsStr1 : Tryz.prog.cellsOf 9 = 1 := by kernel_rfl
theorem sig_datum {H : Type} : (Rows.laid_motley_lex_signs : DataW H) = .agg (sgAll.map fun z => .lit (.string z)) := rfl
theorem sig_of_head {W : World} {rest : List (String × DataW Unit)} (h : laidMet Tryz.prog (("motley/lex.signs", Rows.laid_motley_lex_signs) :: rest) W) : SigAt W := by
  obtain ⟨ps, ⟨g', t', cs, fuel, p, q, hg', ht', hvar, hd, _, _⟩, _⟩ := h
  obtain rfl := Option.some.inj (gSig.symm.trans hg')
  obtain rfl := Option.some.inj (gSigType.symm.trans ht')
  unfold SigAt sgC
  rw [sig_datum] at hd
  have hc := cells_of_strs Tryz.underlying145 Tryz.underlying9 cellsStr1 cellsSig hd
  rw [hvar]
  exact congrArg some (Array.ext' (by rw [hc]))
theorem sig_of_tree {W : World} (h : laidMetH Tryz.prog Rows.treeIntersRow.laid W) : SigAt W := by
  rw [MakeChecks.laidMetH_plain _ _ _ (by kernel_rfl)] at h
  exact sig_of_head (laidMet.tail (laidMet.tail (laidMet.tail (laidMet.tail (laidMet.tail (laidMet.tail (laidMet.tail (laidMet.tail h))))))))
theorem gErrS : Tryz.prog.globalNamed "strconv.ErrSyntax" = some 2 := by kernel_rfl
theorem gErrSType : (Tryz.prog.globals[2]?).map (·.type) = some 60 := by kernel_rfl
theorem starErrS : "*" ++ "errors.errorString" = "*errors.errorString" := by decide
theorem rowErrS (u : TypeId) (h : Tryz.prog.typeName? 3 u = some "*errors.errorString") : u = 171 :=
  typeName_ptr_named (nm := "errors.errorString") (by rw [starErrS]; kernel_rfl) (by kernel_rfl) (by decide) u (by rw [starErrS]; exact h)
theorem cellsErrS : Tryz.prog.cellsOf 173 = 1 := by kernel_rfl
theorem err_of_laid {W : World} (h : laidMetH Tryz.prog Rows.treeIntersRow.laid W) : ErrAt W := by
  rw [MakeChecks.laidMetH_plain _ _ _ (by kernel_rfl)] at h
  have h2 := laidMet.tail (laidMet.tail (laidMet.tail (laidMet.tail (laidMet.tail h))))
  obtain ⟨a0, s0, hv0, _, _, _⟩ := laid_sentinel h2 gErrS gErrSType Tryz.underlying60 rowErrS Tryz.underlying171 Tryz.underlying173 rfl rfl Tryz.underlying9 cellsErrS cellsStr1
  exact ⟨_, by simpa using World.var?_cell gErrS hv0 0, .inr ⟨_, _, rfl⟩⟩

end Go.Proofs.YtaocbhfehncdcaaGreatDoor
