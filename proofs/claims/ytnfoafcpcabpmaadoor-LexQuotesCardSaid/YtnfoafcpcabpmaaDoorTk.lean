/-
  A token that is stored in a block of its own; no heredoc, no sign of a term, a variable. Conditions: a text of at most 100000 bytes.
-/
import Derived.Test.YtnfoafcpcabpmaaDoorCt2
namespace Go.Proofs.YtnfoafcpcabpmaaDoor
open Go.RowKit

/-- The cells of a token. -/
def tkC (k a : Int) (x y z : ByteArray) (o : Int) : Array Value := #[.int .i64 k, .int .i64 a, .string x, .string y, .string z, .int .i64 o]
/-- A world behind the store of a token in block T. -/
def tkW (W : World) (T : Nat) (v0 v1 v2 v3 v4 v5 : Value) : World :=
  (((((W.setCell ⟨T, 0, none⟩ v0).setCell ⟨T, 1, none⟩ v1).setCell ⟨T, 2, none⟩ v2).setCell ⟨T, 3, none⟩ v3).setCell ⟨T, 4, none⟩ v4).setCell ⟨T, 5, none⟩ v5
def TkAt (T : Nat) (v0 v1 v2 v3 v4 v5 : Value) (W : World) : Prop := W.heap[T]? = some (.cells #[v0, v1, v2, v3, v4, v5] 33 (0, 0))
theorem TkAt.cells {T : Nat} {v0 v1 v2 v3 v4 v5 : Value} {W : World} (h : TkAt T v0 v1 v2 v3 v4 v5 W) : W.cell? ⟨T, 0, none⟩ = some v0 ∧ W.cell? ⟨T, 1, none⟩ = some v1 ∧ W.cell? ⟨T, 2, none⟩ = some v2 ∧ W.cell? ⟨T, 3, none⟩ = some v3 ∧ W.cell? ⟨T, 4, none⟩ = some v4 ∧ W.cell? ⟨T, 5, none⟩ = some v5 := by
  unfold TkAt at h
  refine ⟨?_, ?_, ?_, ?_, ?_, ?_⟩ <;> (rw [Lib.cell_of_heap h]; rfl)
theorem TkAt.frozen {T : Nat} {v0 v1 v2 v3 v4 v5 : Value} {W : World} (h : TkAt T v0 v1 v2 v3 v4 v5 W) (i : Nat) : W.frozen? ⟨T, i, none⟩ = false := Lib.frozen_of_heap h i
theorem TkAt.later {T : Nat} {v0 v1 v2 v3 v4 v5 : Value} {W W' : World} (h : TkAt T v0 v1 v2 v3 v4 v5 W) (hb : W'.heap[T]? = W.heap[T]?) : TkAt T v0 v1 v2 v3 v4 v5 W' := hb.trans h
theorem TkAt.lt {T : Nat} {v0 v1 v2 v3 v4 v5 : Value} {W : World} (h : TkAt T v0 v1 v2 v3 v4 v5 W) : T < W.heap.size := (Array.getElem?_eq_some_iff.1 h).1
theorem TkAt.put {T : Nat} {c0 c1 c2 c3 c4 c5 : Value} {W : World} (h : TkAt T c0 c1 c2 c3 c4 c5 W) (v0 v1 v2 v3 v4 v5 : Value) : TkAt T v0 v1 v2 v3 v4 v5 (tkW W T v0 v1 v2 v3 v4 v5) := by
  have q0 := heap_setCell_same W T 0 _ _ v0 h
  have q1 := heap_setCell_same _ T 1 _ _ v1 q0
  have q2 := heap_setCell_same _ T 2 _ _ v2 q1
  have q3 := heap_setCell_same _ T 3 _ _ v3 q2
  have q4 := heap_setCell_same _ T 4 _ _ v4 q3
  exact heap_setCell_same _ T 5 _ _ v5 q4
theorem tkW_below (W : World) (T : Nat) (v0 v1 v2 v3 v4 v5 : Value) : Below T W (tkW W T v0 v1 v2 v3 v4 v5) :=
  ((((((Below.refl T W).setCell (p := ⟨T, 0, none⟩) (Nat.le_refl _) v0).setCell (p := ⟨T, 1, none⟩) (Nat.le_refl _) v1).setCell (p := ⟨T, 2, none⟩) (Nat.le_refl _) v2).setCell (p := ⟨T, 3, none⟩) (Nat.le_refl _) v3).setCell (p := ⟨T, 4, none⟩) (Nat.le_refl _) v4).setCell (p := ⟨T, 5, none⟩) (Nat.le_refl _) v5
/-- The block of a token that has just been laid. -/
theorem TkAt.fresh (w : World) : TkAt w.heap.size (.int .i64 0) (.int .i64 0) (.string ⟨#[]⟩) (.string ⟨#[]⟩) (.string ⟨#[]⟩) (.int .i64 0) (w.alloc (.cells #[.int .i64 0, .int .i64 0, .string ⟨#[]⟩, .string ⟨#[]⟩, .string ⟨#[]⟩, .int .i64 0] 33)) :=
  (Go.MapKept.heap_alloc w _).1
/-- What is left where no token begins. -/
def noTok : Value := .tuple #[tokV 0 ⟨#[]⟩, .bool false]
theorem drop_list (s : ByteArray) (k : Nat) : (s.extract k s.size).data.toList = s.data.toList.drop k := by
  rw [Lib.extract_data]
  exact List.take_of_length_le (by rw [List.length_drop, ← Lib.size_eq]; omega)

set_option maxRecDepth 100000 in
set_option maxHeartbeats 4000000 in
theorem heredoc_none (W0 B : Nat) (σ : Sf) (ρ : Sr) (w : World) (h : IsSc W0 B σ ρ w) (hs : σ.s.size ≤ 100000) (ha : σ.a ≤ σ.s.size) (hno : ([60, 60] : List UInt8).isPrefixOf (σ.s.data.toList.drop σ.a) = false) :
    Calls Tryd.prog 53 #[.pointer (some ⟨B, 0, none⟩)] w (ScP W0 B noTok σ ρ w) := by
  have hl0 := h.ltSize
  have h1 := h.later ((Below.refl _ _).alloc (Nat.le_refl _) (.cells #[.int .i64 0, .int .i64 0, .string ⟨#[]⟩, .string ⟨#[]⟩, .string ⟨#[]⟩, .int .i64 0] 33))
  have hb1 : But B w (w.alloc (.cells #[.int .i64 0, .int .i64 0, .string ⟨#[]⟩, .string ⟨#[]⟩, .string ⟨#[]⟩, .int .i64 0] 33)) := But.of ((Below.refl _ _).alloc (Nat.le_refl _) _)
  have HT0 := Lib.hid (TkAt.fresh w)
  have HCP : Hid (∀ w, Calls Tryd.prog 71 #[.string (σ.s.extract σ.a σ.s.size), .string ⟨#[60, 60]⟩] w fun e w' => e = .returned (.tuple #[.string (σ.s.extract σ.a σ.s.size), .bool false]) ∧ w' = w) := fun w => by
    have := cpre_miss (σ.s.data.toList.drop σ.a) [60, 60] hno w
    rw [← drop_list, bs_of] at this
    exact this.mono fun _ _ h => ⟨h.1, h.2.symm⟩
  have HP : Hid (∀ w', IsSc W0 B σ ρ w' → But B w w' → ScP W0 B noTok σ ρ w (.returned noTok) w') := fun w' h1 h2 => ⟨rfl, h1, h2⟩
  obtain ⟨s, a, b, e, t, tk, tm, op, M⟩ := σ
  dsimp only at hs ha HCP
  have HLT := Lib.hid hl0
  obtain ⟨c0, c1, c2, c3, c4, c5, c6, c7, c8⟩ := h1.sc.fields
  dsimp only at c0 c1 c2 c3 c4 c5 c6 c7 c8
  have H1 := Lib.hid h1
  have HB1 := Lib.hid hb1
  have hai : (a : Int) ≤ (s.size : Int) := by omega
  clear c2 c3 c4 c5 c6 c7 c8 h h1 hb1 hl0 hno
  go_enter Tryd.func53, Tryd.ntmps53
  go_wp2
  generalize w.alloc (.cells #[.int .i64 0, .int .i64 0, .string ⟨#[]⟩, .string ⟨#[]⟩, .string ⟨#[]⟩, .int .i64 0] 33) = W1 at *
  generalize hTT : w.heap.size = T at *
  have HTT := Lib.hid hTT
  clear hTT
  go_quiet ((go_at_call 71; exact Calls.quiet_of_same (HCP.out _)))
  have H2 : Hid (IsSc W0 B ⟨s, a, b, e, t, tk, tm, op, M⟩ ρ (W1.drewN nq)) := H1.out.drew _
  have HB2 : Hid (But B w (W1.drewN nq)) := HB1.out.drewN _
  have HT2 : Hid (TkAt T (.int .i64 0) (.int .i64 0) (.string ⟨#[]⟩) (.string ⟨#[]⟩) (.string ⟨#[]⟩) (.int .i64 0) (W1.drewN nq)) := HT0.out.later rfl
  clear c0 c1 H1 HB1 HT0
  generalize W1.drewN nq = W2 at *
  obtain ⟨t0, t1, t2, t3, t4, t5⟩ := HT2.out.cells
  have z0 := HT2.out.frozen 0
  have z1 := HT2.out.frozen 1
  have z2 := HT2.out.frozen 2
  have z3 := HT2.out.frozen 3
  have z4 := HT2.out.frozen 4
  have z5 := HT2.out.frozen 5
  go_wp2
  have HT4 := HT2.out.put (.int .i64 0) (.int .i64 0) (.string ⟨#[]⟩) (.string ⟨#[]⟩) (.string ⟨#[]⟩) (.int .i64 0)
  obtain ⟨r0, r1, r2, r3, r4, r5⟩ := HT4.cells
  have hbe := tkW_below W2 T (.int .i64 0) (.int .i64 0) (.string ⟨#[]⟩) (.string ⟨#[]⟩) (.string ⟨#[]⟩) (.int .i64 0)
  change bodyPost _ _ _ _ _ (tkW W2 T (.int .i64 0) (.int .i64 0) (.string ⟨#[]⟩) (.string ⟨#[]⟩) (.string ⟨#[]⟩) (.int .i64 0))
  clear t0 t1 t2 t3 t4 t5 z0 z1 z2 z3 z4 z5
  refine bodyPost_ret (v := noTok) ?_ rfl (HP.out _ (H2.out.below HLT.out hbe) (HB2.out.more (by rw [HTT.out]; exact hbe)))
  generalize tkW W2 T (.int .i64 0) (.int .i64 0) (.string ⟨#[]⟩) (.string ⟨#[]⟩) (.string ⟨#[]⟩) (.int .i64 0) = W4 at *
  simp [results, Tryd.results53, go_sem, noTok, tokV, r0, r1, r2, r3, r4, r5]

end Go.Proofs.YtnfoafcpcabpmaaDoor
