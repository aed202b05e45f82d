/-
  A scanner's word and cut. Conditions: a text of at most 100000 bytes. A token that is stored in a block of its own; no heredoc, no sign of a term, a variable. Conditions: a text of at most 100000 bytes.
-/
import Derived.Test.YtaocbhfehncdcaaGreatDoorXM06
import Derived.StillTailTactics
import Derived.IntWalk
namespace Go.Proofs.YtaocbhfehncdcaaGreatDoor
open Go.RowKit

set_option maxRecDepth 100000 in
theorem word_ok (B : Nat) (s : ByteArray) (w : World) (hs : s.size ≤ 100000) (h12 : wsz s.data.toList ≤ 12) :
    Calls Tryz.prog 152 #[.pointer (some ⟨B, 0, none⟩), .string s] w (InS (wsz s.data.toList) w) := by
  have HW := Lib.hid (fun w => wordSize_any s w (by omega))
  have HP : Hid (∀ w, InS (wsz s.data.toList) w (.returned (.int .i64 (wsz s.data.toList : Nat))) w) := fun w => ⟨rfl, rfl⟩
  have h12i : ((wsz s.data.toList : Nat) : Int) ≤ 12 := by omega
  clear h12
  generalize ((wsz s.data.toList : Nat) : Int) = n at *
  go_enter Tryz.func152, Tryz.ntmps152
  go_wp2_with fail
  refine (HW.out _).mono ?_
  rintro e w' ⟨rfl, rfl⟩
  go_wp2
  go_ret
  exact HP.out _
set_option maxRecDepth 100000 in
theorem word_no (W0 B : Nat) (σ : Sf) (ρ : Sr) (s : ByteArray) (w : World) (h : IsSc W0 B σ ρ w) (hs : s.size ≤ 100000) (h12 : 12 < wsz s.data.toList) :
    Calls Tryz.prog 152 #[.pointer (some ⟨B, 0, none⟩), .string s] w (Wrong B σ.b w) := by
  obtain ⟨s', a, b, e, t, tk, tm, op, M⟩ := σ
  have HW := Lib.hid (fun w => wordSize_any s w (by omega))
  obtain ⟨c0, c1, c2, c3, c4, c5, c6, c7, c8⟩ := h.sc.fields
  dsimp only at c0 c1 c2 c3 c4 c5 c6 c7 c8
  clear c0 c1 c3 c4 c5 c6 c7 c8 h
  have HP : Hid (∀ w, Wrong B b w (.panicked [{ v := .iface 130 (.int .i64 (b : Int)), recovered := false }]) w) := fun w => ⟨rfl, But.refl _ _⟩
  have h12i : 12 < ((wsz s.data.toList : Nat) : Int) := by omega
  clear h12
  generalize ((wsz s.data.toList : Nat) : Int) = n at *
  go_enter Tryz.func152, Tryz.ntmps152
  go_wp2_with fail
  refine (HW.out _).mono ?_
  rintro e w' ⟨rfl, rfl⟩
  go_wp2
  exact ⟨rfl, HP.out _⟩

/-- A token of a kind with a text. -/
def tokV (k : Int) (x : ByteArray) : Value := .agg #[.int .i64 k, .int .i64 0, .string x, .string ⟨#[]⟩, .string ⟨#[]⟩, .int .i64 0]

set_option maxRecDepth 100000 in
set_option maxHeartbeats 4000000 in
theorem cut_any (W0 B : Nat) (σ : Sf) (ρ : Sr) (k : Int) (n : Nat) (w : World) (h : IsSc W0 B σ ρ w) (hs : σ.s.size ≤ 100000) (hn : σ.a + n ≤ σ.s.size) (_hk0 : 0 ≤ k) (_hk1 : k ≤ 9) :
    Calls Tryz.prog 153 #[.pointer (some ⟨B, 0, none⟩), .int .i64 k, .int .i64 n] w (ScP W0 B (tokV k (σ.s.extract σ.a (σ.a + n))) { σ with a := σ.a + n } ρ w) := by
  obtain ⟨s, a, b, e, t, tk, tm, op, M⟩ := σ
  dsimp only at hs hn
  have hlt := h.sc.lt
  have h1 := h.later ((Below.refl _ _).alloc (Nat.le_refl _) (.cells #[.int .i64 0, .int .i64 0, .string ⟨#[]⟩, .string ⟨#[]⟩, .string ⟨#[]⟩, .int .i64 0] 101))
  obtain ⟨c0, c1, c2, c3, c4, c5, c6, c7, c8⟩ := h1.sc.fields
  dsimp only at c0 c1 c2 c3 c4 c5 c6 c7 c8
  have fz := h1.sc.frozen 1
  have HP : Hid (∀ w', IsSc W0 B ⟨s, a + n, b, e, t, tk, tm, op, M⟩ ρ w' → But B w w' → ScP W0 B (tokV k (s.extract a (a + n))) ⟨s, a + n, b, e, t, tk, tm, op, M⟩ ρ w (.returned (tokV k (s.extract a (a + n)))) w') := fun w' h1 h2 => ⟨rfl, h1, h2⟩
  have h2 := (h.setA (a + n)).later ((Below.refl _ _).alloc (Nat.le_refl _) (.cells #[.int .i64 0, .int .i64 0, .string ⟨#[]⟩, .string ⟨#[]⟩, .string ⟨#[]⟩, .int .i64 0] 101))
  obtain ⟨d0, d1, d2, d3, d4, d5, d6, d7, d8⟩ := h2.sc.fields
  have hb2 := ((But.refl B w).set 1 (.int .i64 ((a + n : Nat) : Int))).trans (But.of ((Below.refl _ _).alloc (Nat.le_refl _) (.cells #[.int .i64 0, .int .i64 0, .string ⟨#[]⟩, .string ⟨#[]⟩, .string ⟨#[]⟩, .int .i64 0] 101)))
  dsimp only at d0 d1 d2 d3 d4 d5 d6 d7 d8
  rw [show ((a + n : Nat) : Int) = (a : Int) + (n : Int) from rfl] at *
  have H2 := Lib.hid h2
  have HB2 := Lib.hid hb2
  have hl0 := h.ltSize
  have HLT : Hid (ScLt w.heap.size B ⟨s, a + n, b, e, t, tk, tm, op, M⟩) := ⟨hl0.b, hl0.tk, hl0.tm, hl0.op, hl0.m⟩
  have hT : ((w.setCell ⟨B, 1, none⟩ (.int .i64 ((a : Int) + (n : Int)))).alloc (.cells #[.int .i64 0, .int .i64 0, .string ⟨#[]⟩, .string ⟨#[]⟩, .string ⟨#[]⟩, .int .i64 0] 101)).heap[w.heap.size]? = some (.cells #[.int .i64 0, .int .i64 0, .string ⟨#[]⟩, .string ⟨#[]⟩, .string ⟨#[]⟩, .int .i64 0] 101 (0, 0)) := by
    have := (Go.MapKept.heap_alloc (w.setCell ⟨B, 1, none⟩ (.int .i64 ((a : Int) + (n : Int)))) (.cells #[.int .i64 0, .int .i64 0, .string ⟨#[]⟩, .string ⟨#[]⟩, .string ⟨#[]⟩, .int .i64 0] 101)).1
    rwa [World.size_setCell] at this
  clear c0 c2 c3 c4 c5 c6 c7 c8 d2 d3 d4 d5 d6 d7 d8 h h1 h2 hb2 hl0
  have HT := Lib.hid hT
  clear hT
  go_enter Tryz.func153, Tryz.ntmps153
  go_wp2
  generalize (w.setCell ⟨B, 1, none⟩ (.int .i64 ((a : Int) + (n : Int)))).alloc (.cells #[.int .i64 0, .int .i64 0, .string ⟨#[]⟩, .string ⟨#[]⟩, .string ⟨#[]⟩, .int .i64 0] 101) = W2 at *
  generalize hTT : w.heap.size = T at *
  have HTT := Lib.hid hTT
  clear hTT
  have x2 : IntKind.i64.wrap (a : Int) = (a : Int) := IntWalk.i64_in _ (by omega)
  have x3 : (a : Int) + (n : Int) ≤ (s.size : Int) := by omega
  have x4 : ((a : Int) + (n : Int)).toNat = a + n := by omega
  have x5 : (a : Int) ≤ (a : Int) + (n : Int) := by omega
  go_still_tail 17, (by kernel_rfl)
  clear x2 x3 x4 x5
  change wpList _ _ _ _ _ W2.drew
  have H3 : Hid (IsSc W0 B ⟨s, a + n, b, e, t, tk, tm, op, M⟩ ρ W2.drew) := H2.out.later (Below.refl _ _).drew
  have HB3 : Hid (But B w W2.drew) := HB2.out.trans (But.of (Below.refl _ _).drew)
  have HT3 : Hid (W2.drew.heap[T]? = some (.cells #[.int .i64 0, .int .i64 0, .string ⟨#[]⟩, .string ⟨#[]⟩, .string ⟨#[]⟩, .int .i64 0] 101 (0, 0))) := HT.out
  clear H2 HB2 HT d0 d1
  generalize W2.drew = W3 at *
  have t0 : W3.cell? ⟨T, 0, none⟩ = some (.int .i64 0) := by rw [Lib.cell_of_heap HT3.out]; rfl
  have t1 : W3.cell? ⟨T, 1, none⟩ = some (.int .i64 0) := by rw [Lib.cell_of_heap HT3.out]; rfl
  have t2 : W3.cell? ⟨T, 2, none⟩ = some (.string ⟨#[]⟩) := by rw [Lib.cell_of_heap HT3.out]; rfl
  have t3 : W3.cell? ⟨T, 3, none⟩ = some (.string ⟨#[]⟩) := by rw [Lib.cell_of_heap HT3.out]; rfl
  have t4 : W3.cell? ⟨T, 4, none⟩ = some (.string ⟨#[]⟩) := by rw [Lib.cell_of_heap HT3.out]; rfl
  have t5 : W3.cell? ⟨T, 5, none⟩ = some (.int .i64 0) := by rw [Lib.cell_of_heap HT3.out]; rfl
  have z0 := Lib.frozen_of_heap HT3.out 0
  have z1 := Lib.frozen_of_heap HT3.out 1
  have z2 := Lib.frozen_of_heap HT3.out 2
  have z3 := Lib.frozen_of_heap HT3.out 3
  have z4 := Lib.frozen_of_heap HT3.out 4
  have z5 := Lib.frozen_of_heap HT3.out 5
  have hbt : ∀ x0 x1 x2 x3 x4 x5, Below T W3 ((((((W3.setCell ⟨T, 0, none⟩ x0).setCell ⟨T, 1, none⟩ x1).setCell ⟨T, 2, none⟩ x2).setCell ⟨T, 3, none⟩ x3).setCell ⟨T, 4, none⟩ x4).setCell ⟨T, 5, none⟩ x5) := fun x0 x1 x2 x3 x4 x5 =>
    ((((((Below.refl T W3).setCell (p := ⟨T, 0, none⟩) (Nat.le_refl _) x0).setCell (p := ⟨T, 1, none⟩) (Nat.le_refl _) x1).setCell (p := ⟨T, 2, none⟩) (Nat.le_refl _) x2).setCell (p := ⟨T, 3, none⟩) (Nat.le_refl _) x3).setCell (p := ⟨T, 4, none⟩) (Nat.le_refl _) x4).setCell (p := ⟨T, 5, none⟩) (Nat.le_refl _) x5
  have HBT := Lib.hid hbt
  clear hbt
  go_wp2
  have q0 := heap_setCell_same W3 T 0 _ _ (.int .i64 k) HT3.out
  have q1 := heap_setCell_same _ T 1 _ _ (.int .i64 0) q0
  have q2 := heap_setCell_same _ T 2 _ _ (.string (s.extract a (a + n))) q1
  have q3 := heap_setCell_same _ T 3 _ _ (.string ⟨#[]⟩) q2
  have q4 := heap_setCell_same _ T 4 _ _ (.string ⟨#[]⟩) q3
  have q5 := heap_setCell_same _ T 5 _ _ (.int .i64 0) q4
  have r0 := Lib.cell_of_heap q5 0
  have r1 := Lib.cell_of_heap q5 1
  have r2 := Lib.cell_of_heap q5 2
  have r3 := Lib.cell_of_heap q5 3
  have r4 := Lib.cell_of_heap q5 4
  have r5 := Lib.cell_of_heap q5 5
  clear q0 q1 q2 q3 q4 q5 t0 t1 t2 t3 t4 t5 z0 z1 z2 z3 z4 z5
  refine bodyPost_ret (v := tokV k (s.extract a (a + n))) ?_ rfl (HP.out _ (H3.out.below HLT.out (HBT.out _ _ _ _ _ _)) (HB3.out.more (by rw [HTT.out]; exact HBT.out _ _ _ _ _ _)))
  generalize (((((W3.setCell ⟨T, 0, none⟩ (.int .i64 k)).setCell ⟨T, 1, none⟩ (.int .i64 0)).setCell ⟨T, 2, none⟩ (.string (s.extract a (a + n)))).setCell ⟨T, 3, none⟩ (.string ⟨#[]⟩)).setCell ⟨T, 4, none⟩ (.string ⟨#[]⟩)).setCell ⟨T, 5, none⟩ (.int .i64 0) = W4 at *
  simp at r0 r1 r2 r3 r4 r5
  simp [results, Tryz.results153, go_sem, tokV, r0, r1, r2, r3, r4, r5]

end Go.Proofs.YtaocbhfehncdcaaGreatDoor

namespace Go.Proofs.YtaocbhfehncdcaaGreatDoor
open Go.RowKit

/-- The cells of a token. -/
def tkC (k a : Int) (x y z : ByteArray) (o : Int) : Array Value := #[.int .i64 k, .int .i64 a, .string x, .string y, .string z, .int .i64 o]
/-- A world behind the store of a token in block T. -/
def tkW (W : World) (T : Nat) (v0 v1 v2 v3 v4 v5 : Value) : World :=
  (((((W.setCell ⟨T, 0, none⟩ v0).setCell ⟨T, 1, none⟩ v1).setCell ⟨T, 2, none⟩ v2).setCell ⟨T, 3, none⟩ v3).setCell ⟨T, 4, none⟩ v4).setCell ⟨T, 5, none⟩ v5
def TkAt (T : Nat) (v0 v1 v2 v3 v4 v5 : Value) (W : World) : Prop := W.heap[T]? = some (.cells #[v0, v1, v2, v3, v4, v5] 101 (0, 0))
theorem TkAt.cells {T : Nat} {v0 v1 v2 v3 v4 v5 : Value} {W : World} (h : TkAt T v0 v1 v2 v3 v4 v5 W) : W.cell? ⟨T, 0, none⟩ = some v0 ∧ W.cell? ⟨T, 1, none⟩ = some v1 ∧ W.cell? ⟨T, 2, none⟩ = some v2 ∧ W.cell? ⟨T, 3, none⟩ = some v3 ∧ W.cell? ⟨T, 4, none⟩ = some v4 ∧ W.cell? ⟨T, 5, none⟩ = some v5 := by
  unfold TkAt at h
  refine ⟨?_, ?_, ?_, ?_, ?_, ?_⟩ <;> (rw [Lib.cell_of_heap h]; rfl)
theorem TkAt.frozen {T : Nat} {v0 v1 v2 v3 v4 v5 : Value} {W : World} (h : TkAt T v0 v1 v2 v3 v4 v5 W) (i : Nat) : W.frozen? ⟨T, i, none⟩ = false := Lib.frozen_of_heap h i
theorem TkAt.later {T : Nat} {v0 v1 v2 v3 v4 v5 : Value} {W W' : World} (h : TkAt T v0 v1 v2 v3 v4 v5 W) (hb : W'.heap[T]? = W.heap[T]?) : TkAt T v0 v1 v2 v3 v4 v5 W' := hb.trans h
theorem TkAt.lt {T : Nat} {v0 v1 v2 v3 v4 v5 : Value} {W : World} (h : TkAt T v0 v1 v2 v3 v4 v5 W) : T < W.heap.size := (Array.getElem?_eq_some_iff.1 h).1
theorem TkAt.put {T : Nat} {c0 c1 c2 c3 c4 c5 : Value} {W : World} (h : TkAt T c0 c1 c2 c3 c4 c5 W) (v0 v1 v2 v3 v4 v5 : Value) : TkAt T v0 v1 v2 v3 v4 v5 (tkW W T v0 v1 v2 v3 v4 v5) := by
  have q0 := heap_setCell_same W T 0 _ _ v0 h
  have q1 := heap_setCell_same _ T 1 _ _ v1 q0
  have q2 := heap_setCell_same _ T 2 _ _ v2 q1
  have q3 := heap_setCell_same _ T 3 _ _ v3 q2
  have q4 := heap_setCell_same _ T 4 _ _ v4 q3
  exact heap_setCell_same _ T 5 _ _ v5 q4
theorem tkW_below (W : World) (T : Nat) (v0 v1 v2 v3 v4 v5 : Value) : Below T W (tkW W T v0 v1 v2 v3 v4 v5) :=
  ((((((Below.refl T W).setCell (p := ⟨T, 0, none⟩) (Nat.le_refl _) v0).setCell (p := ⟨T, 1, none⟩) (Nat.le_refl _) v1).setCell (p := ⟨T, 2, none⟩) (Nat.le_refl _) v2).setCell (p := ⟨T, 3, none⟩) (Nat.le_refl _) v3).setCell (p := ⟨T, 4, none⟩) (Nat.le_refl _) v4).setCell (p := ⟨T, 5, none⟩) (Nat.le_refl _) v5
/-- The block of a token that has just been laid. -/
theorem TkAt.fresh (w : World) : TkAt w.heap.size (.int .i64 0) (.int .i64 0) (.string ⟨#[]⟩) (.string ⟨#[]⟩) (.string ⟨#[]⟩) (.int .i64 0) (w.alloc (.cells #[.int .i64 0, .int .i64 0, .string ⟨#[]⟩, .string ⟨#[]⟩, .string ⟨#[]⟩, .int .i64 0] 101)) :=
  (Go.MapKept.heap_alloc w _).1
/-- What is left where no token begins. -/
def noTok : Value := .tuple #[tokV 0 ⟨#[]⟩, .bool false]
theorem drop_list (s : ByteArray) (k : Nat) : (s.extract k s.size).data.toList = s.data.toList.drop k := by
  rw [Lib.extract_data]
  exact List.take_of_length_le (by rw [List.length_drop, ← Lib.size_eq]; omega)

set_option maxRecDepth 100000 in
set_option maxHeartbeats 4000000 in
theorem heredoc_none (W0 B : Nat) (σ : Sf) (ρ : Sr) (w : World) (h : IsSc W0 B σ ρ w) (hs : σ.s.size ≤ 100000) (ha : σ.a ≤ σ.s.size) (hno : ([60, 60] : List UInt8).isPrefixOf (σ.s.data.toList.drop σ.a) = false) :
    Calls Tryz.prog 150 #[.pointer (some ⟨B, 0, none⟩)] w (ScP W0 B noTok σ ρ w) := by
  have hl0 := h.ltSize
  have h1 := h.later ((Below.refl _ _).alloc (Nat.le_refl _) (.cells #[.int .i64 0, .int .i64 0, .string ⟨#[]⟩, .string ⟨#[]⟩, .string ⟨#[]⟩, .int .i64 0] 101))
  have hb1 : But B w (w.alloc (.cells #[.int .i64 0, .int .i64 0, .string ⟨#[]⟩, .string ⟨#[]⟩, .string ⟨#[]⟩, .int .i64 0] 101)) := But.of ((Below.refl _ _).alloc (Nat.le_refl _) _)
  have HT0 := Lib.hid (TkAt.fresh w)
  have HCP : Hid (∀ w, Calls Tryz.prog 96 #[.string (σ.s.extract σ.a σ.s.size), .string ⟨#[60, 60]⟩] w fun e w' => e = .returned (.tuple #[.string (σ.s.extract σ.a σ.s.size), .bool false]) ∧ w' = w) := fun w => by
    have := cpre_miss (σ.s.data.toList.drop σ.a) [60, 60] hno w
    rw [← drop_list, bs_of] at this
    exact this.mono fun _ _ h => ⟨h.1, h.2.symm⟩
  have HP : Hid (∀ w', IsSc W0 B σ ρ w' → But B w w' → ScP W0 B noTok σ ρ w (.returned noTok) w') := fun w' h1 h2 => ⟨rfl, h1, h2⟩
  obtain ⟨s, a, b, e, t, tk, tm, op, M⟩ := σ
  dsimp only at hs ha HCP
  have HLT := Lib.hid hl0
  obtain ⟨c0, c1, c2, c3, c4, c5, c6, c7, c8⟩ := h1.sc.fields
  dsimp only at c0 c1 c2 c3 c4 c5 c6 c7 c8
  have H1 := Lib.hid h1
  have HB1 := Lib.hid hb1
  have hai : (a : Int) ≤ (s.size : Int) := by omega
  clear c2 c3 c4 c5 c6 c7 c8 h h1 hb1 hl0 hno
  go_enter Tryz.func150, Tryz.ntmps150
  go_wp2
  generalize w.alloc (.cells #[.int .i64 0, .int .i64 0, .string ⟨#[]⟩, .string ⟨#[]⟩, .string ⟨#[]⟩, .int .i64 0] 101) = W1 at *
  generalize hTT : w.heap.size = T at *
  have HTT := Lib.hid hTT
  clear hTT
  go_quiet ((go_at_call 96; exact Calls.quiet_of_same (HCP.out _)))
  have H2 : Hid (IsSc W0 B ⟨s, a, b, e, t, tk, tm, op, M⟩ ρ (W1.drewN nq)) := H1.out.drew _
  have HB2 : Hid (But B w (W1.drewN nq)) := HB1.out.drewN _
  have HT2 : Hid (TkAt T (.int .i64 0) (.int .i64 0) (.string ⟨#[]⟩) (.string ⟨#[]⟩) (.string ⟨#[]⟩) (.int .i64 0) (W1.drewN nq)) := HT0.out.later rfl
  clear c0 c1 H1 HB1 HT0
  generalize W1.drewN nq = W2 at *
  obtain ⟨t0, t1, t2, t3, t4, t5⟩ := HT2.out.cells
  have z0 := HT2.out.frozen 0
  have z1 := HT2.out.frozen 1
  have z2 := HT2.out.frozen 2
  have z3 := HT2.out.frozen 3
  have z4 := HT2.out.frozen 4
  have z5 := HT2.out.frozen 5
  go_wp2
  have HT4 := HT2.out.put (.int .i64 0) (.int .i64 0) (.string ⟨#[]⟩) (.string ⟨#[]⟩) (.string ⟨#[]⟩) (.int .i64 0)
  obtain ⟨r0, r1, r2, r3, r4, r5⟩ := HT4.cells
  have hbe := tkW_below W2 T (.int .i64 0) (.int .i64 0) (.string ⟨#[]⟩) (.string ⟨#[]⟩) (.string ⟨#[]⟩) (.int .i64 0)
  change bodyPost _ _ _ _ _ (tkW W2 T (.int .i64 0) (.int .i64 0) (.string ⟨#[]⟩) (.string ⟨#[]⟩) (.string ⟨#[]⟩) (.int .i64 0))
  clear t0 t1 t2 t3 t4 t5 z0 z1 z2 z3 z4 z5
  refine bodyPost_ret (v := noTok) ?_ rfl (HP.out _ (H2.out.below HLT.out hbe) (HB2.out.more (by rw [HTT.out]; exact hbe)))
  generalize tkW W2 T (.int .i64 0) (.int .i64 0) (.string ⟨#[]⟩) (.string ⟨#[]⟩) (.string ⟨#[]⟩) (.int .i64 0) = W4 at *
  simp [results, Tryz.results150, go_sem, noTok, tokV, r0, r1, r2, r3, r4, r5]

end Go.Proofs.YtaocbhfehncdcaaGreatDoor
