/-
  A token that is stored in a block of its own; no heredoc, no sign of a term, a variable. Conditions: a text of at most 100000 bytes. A sign of a term: none, and a variable with a word. Conditions: a text of at most 100000 bytes. A scanner's flags; a text whose pieces are replaced; unslashed. Conditions: texts of at most 100000 bytes.
-/
import Derived.Test.YtaocbhfehncdcaaGreatDoorXM05
namespace Go.Proofs.YtaocbhfehncdcaaGreatDoor
open Go.RowKit

/-- The cells of a token. -/
def tkC (k a : Int) (x y z : ByteArray) (o : Int) : Array Value := #[.int .i64 k, .int .i64 a, .string x, .string y, .string z, .int .i64 o]
/-- A world behind the store of a token in block T. -/
def tkW (W : World) (T : Nat) (v0 v1 v2 v3 v4 v5 : Value) : World :=
  (((((W.setCell ⟨T, 0, none⟩ v0).setCell ⟨T, 1, none⟩ v1).setCell ⟨T, 2, none⟩ v2).setCell ⟨T, 3, none⟩ v3).setCell ⟨T, 4, none⟩ v4).setCell ⟨T, 5, none⟩ v5
def TkAt (T : Nat) (v0 v1 v2 v3 v4 v5 : Value) (W : World) : Prop := W.heap[T]? = some (.cells #[v0, v1, v2, v3, v4, v5] 101 (0, 0))
theorem TkAt.cells {T : Nat} {v0 v1 v2 v3 v4 v5 : Value} {W : World} (h : TkAt T v0 v1 v2 v3 v4 v5 W) : W.cell? ⟨T, 0, none⟩ = some v0 ∧ W.cell? ⟨T, 1, none⟩ = some v1 ∧ W.cell? ⟨T, 2, none⟩ = some v2 ∧ W.cell? ⟨T, 3, none⟩ = some v3 ∧ W.cell? ⟨T, 4, none⟩ = some v4 ∧ W.cell? ⟨T, 5, none⟩ = some v5 := by
  unfold TkAt at h
  refine ⟨?_, ?_, ?_, ?_, ?_, ?_⟩ <;> (rw [Lib.cell_of_heap h]; rfl)
theorem TkAt.frozen {T : Nat} {v0 v1 v2 v3 v4 v5 : Value} {W : World} (h : TkAt T v0 v1 v2 v3 v4 v5 W) (i : Nat) : W.frozen? ⟨T, i, none⟩ = false := Lib.frozen_of_heap h i
theorem TkAt.later {T : Nat} {v0 v1 v2 v3 v4 v5 : Value} {W W' : World} (h : TkAt T v0 v1 v2 v3 v4 v5 W) (hb : W'.heap[T]? = W.heap[T]?) : TkAt T v0 v1 v2 v3 v4 v5 W' := hb.trans h
theorem TkAt.lt {T : Nat} {v0 v1 v2 v3 v4 v5 : Value} {W : World} (h : TkAt T v0 v1 v2 v3 v4 v5 W) : T < W.heap.size := (Array.getElem?_eq_some_iff.1 h).1
theorem TkAt.put {T : Nat} {c0 c1 c2 c3 c4 c5 : Value} {W : World} (h : TkAt T c0 c1 c2 c3 c4 c5 W) (v0 v1 v2 v3 v4 v5 : Value) : TkAt T v0 v1 v2 v3 v4 v5 (tkW W T v0 v1 v2 v3 v4 v5) := by
  have q0 := heap_setCell_same W T 0 _ _ v0 h
  have q1 := heap_setCell_same _ T 1 _ _ v1 q0
  have q2 := heap_setCell_same _ T 2 _ _ v2 q1
  have q3 := heap_setCell_same _ T 3 _ _ v3 q2
  have q4 := heap_setCell_same _ T 4 _ _ v4 q3
  exact heap_setCell_same _ T 5 _ _ v5 q4
theorem tkW_below (W : World) (T : Nat) (v0 v1 v2 v3 v4 v5 : Value) : Below T W (tkW W T v0 v1 v2 v3 v4 v5) :=
  ((((((Below.refl T W).setCell (p := ⟨T, 0, none⟩) (Nat.le_refl _) v0).setCell (p := ⟨T, 1, none⟩) (Nat.le_refl _) v1).setCell (p := ⟨T, 2, none⟩) (Nat.le_refl _) v2).setCell (p := ⟨T, 3, none⟩) (Nat.le_refl _) v3).setCell (p := ⟨T, 4, none⟩) (Nat.le_refl _) v4).setCell (p := ⟨T, 5, none⟩) (Nat.le_refl _) v5
/-- The block of a token that has just been laid. -/
theorem TkAt.fresh (w : World) : TkAt w.heap.size (.int .i64 0) (.int .i64 0) (.string ⟨#[]⟩) (.string ⟨#[]⟩) (.string ⟨#[]⟩) (.int .i64 0) (w.alloc (.cells #[.int .i64 0, .int .i64 0, .string ⟨#[]⟩, .string ⟨#[]⟩, .string ⟨#[]⟩, .int .i64 0] 101)) :=
  (Go.MapKept.heap_alloc w _).1
/-- What is left where no token begins. -/
def noTok : Value := .tuple #[tokV 0 ⟨#[]⟩, .bool false]
theorem drop_list (s : ByteArray) (k : Nat) : (s.extract k s.size).data.toList = s.data.toList.drop k := by
  rw [Lib.extract_data]
  exact List.take_of_length_le (by rw [List.length_drop, ← Lib.size_eq]; omega)

set_option maxRecDepth 100000 in
set_option maxHeartbeats 4000000 in
theorem heredoc_none (W0 B : Nat) (σ : Sf) (ρ : Sr) (w : World) (h : IsSc W0 B σ ρ w) (hs : σ.s.size ≤ 100000) (ha : σ.a ≤ σ.s.size) (hno : ([60, 60] : List UInt8).isPrefixOf (σ.s.data.toList.drop σ.a) = false) :
    Calls Tryz.prog 150 #[.pointer (some ⟨B, 0, none⟩)] w (ScP W0 B noTok σ ρ w) := by
  have hl0 := h.ltSize
  have h1 := h.later ((Below.refl _ _).alloc (Nat.le_refl _) (.cells #[.int .i64 0, .int .i64 0, .string ⟨#[]⟩, .string ⟨#[]⟩, .string ⟨#[]⟩, .int .i64 0] 101))
  have hb1 : But B w (w.alloc (.cells #[.int .i64 0, .int .i64 0, .string ⟨#[]⟩, .string ⟨#[]⟩, .string ⟨#[]⟩, .int .i64 0] 101)) := But.of ((Below.refl _ _).alloc (Nat.le_refl _) _)
  have HT0 := Lib.hid (TkAt.fresh w)
  have HCP : Hid (∀ w, Calls Tryz.prog 96 #[.string (σ.s.extract σ.a σ.s.size), .string ⟨#[60, 60]⟩] w fun e w' => e = .returned (.tuple #[.string (σ.s.extract σ.a σ.s.size), .bool false]) ∧ w' = w) := fun w => by
    have := cpre_miss (σ.s.data.toList.drop σ.a) [60, 60] hno w
    rw [← drop_list, bs_of] at this
    exact this.mono fun _ _ h => ⟨h.1, h.2.symm⟩
  have HP : Hid (∀ w', IsSc W0 B σ ρ w' → But B w w' → ScP W0 B noTok σ ρ w (.returned noTok) w') := fun w' h1 h2 => ⟨rfl, h1, h2⟩
  obtain ⟨s, a, b, e, t, tk, tm, op, M⟩ := σ
  dsimp only at hs ha HCP
  have HLT := Lib.hid hl0
  obtain ⟨c0, c1, c2, c3, c4, c5, c6, c7, c8⟩ := h1.sc.fields
  dsimp only at c0 c1 c2 c3 c4 c5 c6 c7 c8
  have H1 := Lib.hid h1
  have HB1 := Lib.hid hb1
  have hai : (a : Int) ≤ (s.size : Int) := by omega
  clear c2 c3 c4 c5 c6 c7 c8 h h1 hb1 hl0 hno
  go_enter Tryz.func150, Tryz.ntmps150
  go_wp2
  generalize w.alloc (.cells #[.int .i64 0, .int .i64 0, .string ⟨#[]⟩, .string ⟨#[]⟩, .string ⟨#[]⟩, .int .i64 0] 101) = W1 at *
  generalize hTT : w.heap.size = T at *
  have HTT := Lib.hid hTT
  clear hTT
  go_quiet ((go_at_call 96; exact Calls.quiet_of_same (HCP.out _)))
  have H2 : Hid (IsSc W0 B ⟨s, a, b, e, t, tk, tm, op, M⟩ ρ (W1.drewN nq)) := H1.out.drew _
  have HB2 : Hid (But B w (W1.drewN nq)) := HB1.out.drewN _
  have HT2 : Hid (TkAt T (.int .i64 0) (.int .i64 0) (.string ⟨#[]⟩) (.string ⟨#[]⟩) (.string ⟨#[]⟩) (.int .i64 0) (W1.drewN nq)) := HT0.out.later rfl
  clear c0 c1 H1 HB1 HT0
  generalize W1.drewN nq = W2 at *
  obtain ⟨t0, t1, t2, t3, t4, t5⟩ := HT2.out.cells
  have z0 := HT2.out.frozen 0
  have z1 := HT2.out.frozen 1
  have z2 := HT2.out.frozen 2
  have z3 := HT2.out.frozen 3
  have z4 := HT2.out.frozen 4
  have z5 := HT2.out.frozen 5
  go_wp2
  have HT4 := HT2.out.put (.int .i64 0) (.int .i64 0) (.string ⟨#[]⟩) (.string ⟨#[]⟩) (.string ⟨#[]⟩) (.int .i64 0)
  obtain ⟨r0, r1, r2, r3, r4, r5⟩ := HT4.cells
  have hbe := tkW_below W2 T (.int .i64 0) (.int .i64 0) (.string ⟨#[]⟩) (.string ⟨#[]⟩) (.string ⟨#[]⟩) (.int .i64 0)
  change bodyPost _ _ _ _ _ (tkW W2 T (.int .i64 0) (.int .i64 0) (.string ⟨#[]⟩) (.string ⟨#[]⟩) (.string ⟨#[]⟩) (.int .i64 0))
  clear t0 t1 t2 t3 t4 t5 z0 z1 z2 z3 z4 z5
  refine bodyPost_ret (v := noTok) ?_ rfl (HP.out _ (H2.out.below HLT.out hbe) (HB2.out.more (by rw [HTT.out]; exact hbe)))
  generalize tkW W2 T (.int .i64 0) (.int .i64 0) (.string ⟨#[]⟩) (.string ⟨#[]⟩) (.string ⟨#[]⟩) (.int .i64 0) = W4 at *
  simp [results, Tryz.results150, go_sem, noTok, tokV, r0, r1, r2, r3, r4, r5]

end Go.Proofs.YtaocbhfehncdcaaGreatDoor

namespace Go.Proofs.YtaocbhfehncdcaaGreatDoor
open Go.RowKit

def sgL : List UInt8 := [36, 64, 37, 38]
theorem But.tok {B T : Nat} {v0 v1 v2 v3 v4 v5 : Value} {w w' : World} (h : TkAt T v0 v1 v2 v3 v4 v5 w) (hb : But B w w') (hT : B < T) : TkAt T v0 v1 v2 v3 v4 v5 w' := h.later (hb.block T h.lt (by omega))

set_option maxRecDepth 100000 in
set_option maxHeartbeats 4000000 in
theorem termSign_none (W0 B : Nat) (σ : Sf) (ρ : Sr) (w : World) (h : IsSc W0 B σ ρ w) (hs : σ.s.size ≤ 100000) (ha : σ.a < σ.s.size) (hno : σ.s[σ.a] ∉ sgL) :
    Calls Tryz.prog 151 #[.pointer (some ⟨B, 0, none⟩)] w (ScP W0 B noTok σ ρ w) := by
  have hl0 := h.ltSize
  have h1 := h.later ((Below.refl _ _).alloc (Nat.le_refl _) (.cells #[.int .i64 0, .int .i64 0, .string ⟨#[]⟩, .string ⟨#[]⟩, .string ⟨#[]⟩, .int .i64 0] 101))
  have hb1 : But B w (w.alloc (.cells #[.int .i64 0, .int .i64 0, .string ⟨#[]⟩, .string ⟨#[]⟩, .string ⟨#[]⟩, .int .i64 0] 101)) := But.of ((Below.refl _ _).alloc (Nat.le_refl _) _)
  have HT0 := Lib.hid (TkAt.fresh w)
  have HIX : Hid (∀ w, Calls Tryz.prog 181 #[.string ⟨#[36, 64, 37, 38]⟩, .int .u8 σ.s[σ.a].toNat] w fun e w' => e = .returned (.int .i64 (-1)) ∧ w = w') := fun w => by
    have := idxB_any ⟨#[36, 64, 37, 38]⟩ σ.s[σ.a] w
    rwa [show Lib.indexByte (ByteArray.mk #[36, 64, 37, 38]).data.toList σ.s[σ.a] = -1 from ixB_miss _ _ hno] at this
  have HP : Hid (∀ w', IsSc W0 B σ ρ w' → But B w w' → ScP W0 B noTok σ ρ w (.returned noTok) w') := fun w' h1 h2 => ⟨rfl, h1, h2⟩
  obtain ⟨s, a, b, e, t, tk, tm, op, M⟩ := σ
  dsimp only at hs ha HIX hno
  have HLT := Lib.hid hl0
  obtain ⟨c0, c1, c2, c3, c4, c5, c6, c7, c8⟩ := h1.sc.fields
  dsimp only at c0 c1 c2 c3 c4 c5 c6 c7 c8
  have H1 := Lib.hid h1
  have HB1 := Lib.hid hb1
  have hai : (a : Int) < (s.size : Int) := by omega
  have x2 : IntKind.i64.wrap ((a : Int) + 1) = (a : Int) + 1 := IntWalk.i64_in _ (by omega)
  have x3 : (a : Int) + 1 ≤ (s.size : Int) := by omega
  have x4 : ((a : Int) + 1).toNat = a + 1 := by omega
  have x5 : 0 ≤ (a : Int) + 1 := by omega
  clear c2 c3 c4 c5 c6 c7 c8 h h1 hb1 hl0 hno
  go_enter Tryz.func151, Tryz.ntmps151
  go_wp2
  generalize w.alloc (.cells #[.int .i64 0, .int .i64 0, .string ⟨#[]⟩, .string ⟨#[]⟩, .string ⟨#[]⟩, .int .i64 0] 101) = W1 at *
  generalize hTT : w.heap.size = T at *
  have HTT := Lib.hid hTT
  clear hTT
  go_quiet (fail)
  have H2 : Hid (IsSc W0 B ⟨s, a, b, e, t, tk, tm, op, M⟩ ρ (W1.drewN nq)) := H1.out.drew _
  have HB2 : Hid (But B w (W1.drewN nq)) := HB1.out.drewN _
  have HT2 : Hid (TkAt T (.int .i64 0) (.int .i64 0) (.string ⟨#[]⟩) (.string ⟨#[]⟩) (.string ⟨#[]⟩) (.int .i64 0) (W1.drewN nq)) := HT0.out.later rfl
  clear c0 c1 H1 HB1 HT0 x2 x4
  generalize W1.drewN nq = W2 at *
  obtain ⟨t0, t1, t2, t3, t4, t5⟩ := HT2.out.cells
  have z0 := HT2.out.frozen 0
  have z1 := HT2.out.frozen 1
  have z2 := HT2.out.frozen 2
  have z3 := HT2.out.frozen 3
  have z4 := HT2.out.frozen 4
  have z5 := HT2.out.frozen 5
  go_wp2_with fail
  refine (HIX.out _).mono ?_
  rintro e1 w' ⟨rfl, rfl⟩
  go_wp2
  have HT4 := HT2.out.put (.int .i64 0) (.int .i64 0) (.string ⟨#[]⟩) (.string ⟨#[]⟩) (.string ⟨#[]⟩) (.int .i64 0)
  obtain ⟨r0, r1, r2, r3, r4, r5⟩ := HT4.cells
  have hbe := tkW_below W2 T (.int .i64 0) (.int .i64 0) (.string ⟨#[]⟩) (.string ⟨#[]⟩) (.string ⟨#[]⟩) (.int .i64 0)
  change bodyPost _ _ _ _ _ (tkW W2 T (.int .i64 0) (.int .i64 0) (.string ⟨#[]⟩) (.string ⟨#[]⟩) (.string ⟨#[]⟩) (.int .i64 0))
  clear t0 t1 t2 t3 t4 t5 z0 z1 z2 z3 z4 z5
  refine bodyPost_ret (v := noTok) ?_ rfl (HP.out _ (H2.out.below HLT.out hbe) (HB2.out.more (by rw [HTT.out]; exact hbe)))
  generalize tkW W2 T (.int .i64 0) (.int .i64 0) (.string ⟨#[]⟩) (.string ⟨#[]⟩) (.string ⟨#[]⟩) (.int .i64 0) = W4 at *
  simp [results, Tryz.results151, go_sem, noTok, tokV, r0, r1, r2, r3, r4, r5]

set_option maxRecDepth 100000 in
set_option maxHeartbeats 4000000 in
/-- A variable whose name is a word. -/
theorem termSign_word (W0 B : Nat) (σ : Sf) (ρ : Sr) (w : World) (h : IsSc W0 B σ ρ w) (hs : σ.s.size ≤ 100000) (ha : σ.a < σ.s.size) (hsg : σ.s[σ.a] ∈ sgL)
    (n : Nat) (hn : wsz (σ.s.data.toList.drop (σ.a + 1)) = n) (hn0 : 0 < n) (hn1 : n ≤ 12) :
    Calls Tryz.prog 151 #[.pointer (some ⟨B, 0, none⟩)] w (ScP W0 B (.tuple #[tokV 2 (σ.s.extract σ.a (σ.a + (1 + n))), .bool true]) { σ with a := σ.a + (1 + n) } ρ w) := by
  have hl0 := h.ltSize
  have hBT := h.sc.lt
  have h1 := h.later ((Below.refl _ _).alloc (Nat.le_refl _) (.cells #[.int .i64 0, .int .i64 0, .string ⟨#[]⟩, .string ⟨#[]⟩, .string ⟨#[]⟩, .int .i64 0] 101))
  have hb1 : But B w (w.alloc (.cells #[.int .i64 0, .int .i64 0, .string ⟨#[]⟩, .string ⟨#[]⟩, .string ⟨#[]⟩, .int .i64 0] 101)) := But.of ((Below.refl _ _).alloc (Nat.le_refl _) _)
  have HT0 := Lib.hid (TkAt.fresh w)
  obtain ⟨s, a, b, e, t, tk, tm, op, M⟩ := σ
  dsimp only at hs ha hsg hn
  have hnl : n ≤ s.size - (a + 1) := by
    have := wsz_le (s.data.toList.drop (a + 1))
    rw [hn, List.length_drop, ← Lib.size_eq] at this
    exact this
  obtain ⟨i, hi, hi0⟩ : ∃ i : Int, Lib.indexByte sgL s[a] = i ∧ 0 ≤ i := ⟨_, rfl, (ixB_ge s[a] sgL).1.2 hsg⟩
  have HIX : Hid (∀ w, Calls Tryz.prog 181 #[.string ⟨#[36, 64, 37, 38]⟩, .int .u8 s[a].toNat] w fun e w' => e = .returned (.int .i64 i) ∧ w = w') := fun w => by
    have := idxB_any ⟨#[36, 64, 37, 38]⟩ s[a] w
    rwa [show Lib.indexByte (ByteArray.mk #[36, 64, 37, 38]).data.toList s[a] = i from hi] at this
  have HWD : Hid (∀ w, Calls Tryz.prog 152 #[.pointer (some ⟨B, 0, none⟩), .string (s.extract (a + 1) s.size)] w (InS n w)) := fun w => by
    have h2 : (s.extract (a + 1) s.size).size ≤ 100000 := by rw [Lib.size_eq, drop_list, List.length_drop, ← Lib.size_eq]; omega
    have := word_ok B (s.extract (a + 1) s.size) w h2 (by rw [drop_list, hn]; exact hn1)
    rwa [drop_list, hn] at this
  have hrest : (s.extract (a + 1) s.size).toList.isEmpty = false := by
    rw [Lib.toList_data, List.isEmpty_eq_false_iff, drop_list]
    intro e2
    rw [e2] at hn
    rw [← hn] at hn0
    exact absurd hn0 (by decide)
  have HCU := Lib.hid (fun w' (h : IsSc W0 B ⟨s, a, b, e, t, tk, tm, op, M⟩ ρ w') => cut_any W0 B ⟨s, a, b, e, t, tk, tm, op, M⟩ ρ 2 (1 + n) w' h hs (by dsimp only; omega) (by decide) (by decide))
  dsimp only at HCU
  have HP : Hid (∀ w', IsSc W0 B ⟨s, a + (1 + n), b, e, t, tk, tm, op, M⟩ ρ w' → But B w w' → ScP W0 B (.tuple #[tokV 2 (s.extract a (a + (1 + n))), .bool true]) ⟨s, a + (1 + n), b, e, t, tk, tm, op, M⟩ ρ w (.returned (.tuple #[tokV 2 (s.extract a (a + (1 + n))), .bool true])) w') := fun w' h1 h2 => ⟨rfl, h1, h2⟩
  have HLT : Hid (ScLt w.heap.size B ⟨s, a + (1 + n), b, e, t, tk, tm, op, M⟩) := ⟨hl0.b, hl0.tk, hl0.tm, hl0.op, hl0.m⟩
  obtain ⟨c0, c1, c2, c3, c4, c5, c6, c7, c8⟩ := h1.sc.fields
  dsimp only at c0 c1 c2 c3 c4 c5 c6 c7 c8
  have H1 := Lib.hid h1
  have HB1 := Lib.hid hb1
  have HBT := Lib.hid hBT
  have hai : (a : Int) < (s.size : Int) := by omega
  have x2 : IntKind.i64.wrap ((a : Int) + 1) = (a : Int) + 1 := IntWalk.i64_in _ (by omega)
  have x3 : (a : Int) + 1 ≤ (s.size : Int) := by omega
  have x4 : ((a : Int) + 1).toNat = a + 1 := by omega
  have x5 : 0 ≤ (a : Int) + 1 := by omega
  have x6 : (0 : Int) < (n : Int) := by omega
  have x7 : (n : Int) ≤ 12 := by omega
  have HCA : Hid ((1 : Int) + (n : Int) = ((1 + n : Nat) : Int)) := by show _ = _; omega
  clear c2 c3 c4 c5 c6 c7 c8 h h1 hb1 hl0 hsg hi hn hBT
  go_enter Tryz.func151, Tryz.ntmps151
  go_wp2
  generalize w.alloc (.cells #[.int .i64 0, .int .i64 0, .string ⟨#[]⟩, .string ⟨#[]⟩, .string ⟨#[]⟩, .int .i64 0] 101) = W1 at *
  generalize hTT : w.heap.size = T at *
  have HTT := Lib.hid hTT
  clear hTT
  go_quiet (fail)
  have H2 : Hid (IsSc W0 B ⟨s, a, b, e, t, tk, tm, op, M⟩ ρ (W1.drewN nq)) := H1.out.drew _
  have HB2 : Hid (But B w (W1.drewN nq)) := HB1.out.drewN _
  have HT2 : Hid (TkAt T (.int .i64 0) (.int .i64 0) (.string ⟨#[]⟩) (.string ⟨#[]⟩) (.string ⟨#[]⟩) (.int .i64 0) (W1.drewN nq)) := HT0.out.later rfl
  clear c0 c1 H1 HB1 HT0 x2 x4
  generalize W1.drewN nq = W2 at *
  generalize s.extract (a + 1) s.size = rest at *
  go_wp2_with fail
  refine (HIX.out _).mono ?_
  rintro e1 w' ⟨rfl, rfl⟩
  go_wp2_with fail
  refine (HWD.out _).mono ?_
  rintro e1 w' ⟨rfl, rfl⟩
  go_wp2_with fail
  rw [HCA.out]
  refine (HCU.out _ H2.out).mono ?_
  rintro e1 W3 ⟨rfl, hs3, hb3⟩
  have H3 := Lib.hid hs3
  have HB3 : Hid (But B w W3) := HB2.out.trans hb3
  have HT3 : Hid (TkAt T (.int .i64 0) (.int .i64 0) (.string ⟨#[]⟩) (.string ⟨#[]⟩) (.string ⟨#[]⟩) (.int .i64 0) W3) := But.tok HT2.out hb3 HBT.out
  clear hs3 hb3
  obtain ⟨t0, t1, t2, t3, t4, t5⟩ := HT3.out.cells
  have z0 := HT3.out.frozen 0
  have z1 := HT3.out.frozen 1
  have z2 := HT3.out.frozen 2
  have z3 := HT3.out.frozen 3
  have z4 := HT3.out.frozen 4
  have z5 := HT3.out.frozen 5
  generalize s.extract a (a + (1 + n)) = X at *
  unfold tokV at *
  go_wp2
  have HT4 := HT3.out.put (.int .i64 2) (.int .i64 0) (.string X) (.string ⟨#[]⟩) (.string ⟨#[]⟩) (.int .i64 0)
  obtain ⟨r0, r1, r2, r3, r4, r5⟩ := HT4.cells
  have hbe := tkW_below W3 T (.int .i64 2) (.int .i64 0) (.string X) (.string ⟨#[]⟩) (.string ⟨#[]⟩) (.int .i64 0)
  change bodyPost _ _ _ _ _ (tkW W3 T (.int .i64 2) (.int .i64 0) (.string X) (.string ⟨#[]⟩) (.string ⟨#[]⟩) (.int .i64 0))
  clear t0 t1 t2 t3 t4 t5 z0 z1 z2 z3 z4 z5
  refine bodyPost_ret (v := .tuple #[.agg #[.int .i64 2, .int .i64 0, .string X, .string ⟨#[]⟩, .string ⟨#[]⟩, .int .i64 0], .bool true]) ?_ rfl (HP.out _ (H3.out.below HLT.out hbe) (HB3.out.more (by rw [HTT.out]; exact hbe)))
  generalize tkW W3 T (.int .i64 2) (.int .i64 0) (.string X) (.string ⟨#[]⟩) (.string ⟨#[]⟩) (.int .i64 0) = W4 at *
  simp [results, Tryz.results151, go_sem, r0, r1, r2, r3, r4, r5]

end Go.Proofs.YtaocbhfehncdcaaGreatDoor

namespace Go.Proofs.YtaocbhfehncdcaaGreatDoor
open Go.RowKit

/-- Behind the flags, each once at most, in their order. -/
def flg (s : ByteArray) : List UInt8 → Nat → Nat
  | [], a => a
  | c :: r, a => flg s r (if a < s.size ∧ by0 s.data.toList a = c then a + 1 else a)
theorem flg_le (s : ByteArray) : ∀ (l : List UInt8) (a : Nat), a ≤ s.size → a ≤ flg s l a ∧ flg s l a ≤ s.size
  | [], a, h => ⟨Nat.le_refl _, h⟩
  | c :: r, a, h => by
    unfold flg
    split
    · rename_i hc
      have := flg_le s r (a + 1) (by omega)
      exact ⟨by omega, this.2⟩
    · exact flg_le s r a h
set_option maxRecDepth 100000 in
set_option maxHeartbeats 4000000 in
theorem flags_any (W0 B : Nat) (σ : Sf) (ρ : Sr) (al : ByteArray) (w : World) (h : IsSc W0 B σ ρ w) (hs : σ.s.size ≤ 100000) (ha : σ.a ≤ σ.s.size) (hal : al.size ≤ 100) :
    Calls Tryz.prog 177 #[.pointer (some ⟨B, 0, none⟩), .string al] w (ScP W0 B (.string (σ.s.extract σ.a (flg σ.s al.data.toList σ.a))) { σ with a := flg σ.s al.data.toList σ.a } ρ w) := by
  obtain ⟨s, a0, b, e, t, tk, tm, op, M⟩ := σ
  dsimp only at hs ha
  obtain ⟨L, hL⟩ : ∃ L, al.data.toList = L := ⟨_, rfl⟩
  have hLs : al.size = L.length := by rw [← hL, ← Lib.size_eq]
  rw [hL]
  have HP : Hid (∀ w', IsSc W0 B ⟨s, flg s L a0, b, e, t, tk, tm, op, M⟩ ρ w' → But B w w' → ScP W0 B (.string (s.extract a0 (flg s L a0))) ⟨s, flg s L a0, b, e, t, tk, tm, op, M⟩ ρ w (.returned (.string (s.extract a0 (flg s L a0)))) w') := fun w' h1 h2 => ⟨rfl, h1, h2⟩
  have HLE : Hid (a0 ≤ flg s L a0 ∧ flg s L a0 ≤ s.size) := flg_le s L a0 ha
  have HAT : Hid (∀ a (h : a < s.size), by0 s.data.toList a = s[a]) := fun a h => by0_at s a h
  have HST : Hid (∀ k (h : k < al.size) a, flg s (L.drop k) a = flg s (L.drop (k + 1)) (if a < s.size ∧ by0 s.data.toList a = al[k] then a + 1 else a)) := fun k h a => by
    rw [drop_at al L hL k h]
    rfl
  have HEN : Hid (∀ k a, al.size ≤ k → flg s (L.drop k) a = a) := fun k a h => by
    rw [List.drop_eq_nil_of_le (by omega)]
    rfl
  have H00 : Hid (flg s L a0 = flg s (L.drop 0) a0) := rfl
  have H0 := Lib.hid h
  have HB0 := Lib.hid (But.refl B w)
  obtain ⟨c0, c1, c2, c3, c4, c5, c6, c7, c8⟩ := h.sc.fields
  dsimp only at c0 c1 c2 c3 c4 c5 c6 c7 c8
  clear c0 c2 c3 c4 c5 c6 c7 c8 h hL hLs
  generalize flg s L a0 = aE at *
  go_enter Tryz.func177, Tryz.ntmps177
  go_wp2
  clear c1
  go_loopw [13] (fun iv wr => ∃ (k a : Nat), k ≤ al.size ∧ a ≤ s.size ∧ iv = .int .i64 k ∧ Hid (aE = flg s (L.drop k) a) ∧ Hid (IsSc W0 B ⟨s, a, b, e, t, tk, tm, op, M⟩ ρ wr) ∧ Hid (But B w wr)) (fun iv _ => al.size - (intOf iv).toNat)
  case atStart => exact ⟨0, a0, by omega, ha, rfl, H00, H0, HB0⟩
  case round =>
    obtain ⟨k, a, hk, hal2, rfl, hfl, hsc, hbu⟩ := hrel
    obtain ⟨c0, c1, c2, c3, c4, c5, c6, c7, c8⟩ := hsc.out.sc.fields
    dsimp only at c0 c1 c2 c3 c4 c5 c6 c7 c8
    have fz := hsc.out.sc.frozen 1
    clear c2 c3 c4 c5 c6 c7 c8
    by_cases hlt : k < al.size
    · have hki : (k : Int) < (al.size : Int) := by omega
      have HSk := Lib.hid (HST.out k hlt a)
      by_cases hla : a < s.size
      · have hlai : (a : Int) < (s.size : Int) := by omega
        have hat := HAT.out a hla
        by_cases heq : s[a] = al[k]
        · have f1 := u8_eq heq
          have HN : Hid (aE = flg s (L.drop (k + 1)) (a + 1)) := by
            show _ = _
            rw [hfl.out, HSk.out, if_pos ⟨hla, by rw [hat, heq]⟩]
          clear hat heq
          go_wp2
          go_quiet (fail)
          have HSq : Hid (IsSc W0 B ⟨s, a + 1, b, e, t, tk, tm, op, M⟩ ρ ((wr.drewN nq).setCell ⟨B, 1, none⟩ (.int .i64 ((a : Int) + 1)))) := (hsc.out.drew nq).setA (a + 1)
          have HBq : Hid (But B w ((wr.drewN nq).setCell ⟨B, 1, none⟩ (.int .i64 ((a : Int) + 1)))) := (hbu.out.drewN nq).set 1 _
          go_wp2
          go_roundw
          case rel => exact ⟨k + 1, a + 1, by omega, by omega, by go_num, HN, HSq, HBq⟩
          case measure => simp [intOf]; omega
        · have f1 := u8_ne heq
          have HN : Hid (aE = flg s (L.drop (k + 1)) a) := by
            show _ = _
            rw [hfl.out, HSk.out, if_neg (by rw [hat]; exact fun h => heq h.2)]
          clear hat heq
          go_wp2
          go_quiet (fail)
          go_wp2
          go_roundw
          case rel => exact ⟨k + 1, a, by omega, hal2, by go_num, HN, hsc.out.drew _, hbu.out.drewN _⟩
          case measure => simp [intOf]; omega
      · have hlai : (s.size : Int) ≤ (a : Int) := by omega
        have HN : Hid (aE = flg s (L.drop (k + 1)) a) := by
          show _ = _
          rw [hfl.out, HSk.out, if_neg (fun h => hla h.1)]
        have hdf : decide ((a : Int) < (s.size : Int)) = false := decide_eq_false (by omega)
        go_wp2
        go_quiet (fail)
        go_wp2
        go_roundw
        case rel => exact ⟨k + 1, a, by omega, hal2, by go_num, HN, hsc.out.drew _, hbu.out.drewN _⟩
        case measure => simp [intOf]; omega
    · have hki : (al.size : Int) ≤ (k : Int) := by omega
      have he : aE = a := by rw [hfl.out, HEN.out k a (by omega)]
      have hle := HLE.out
      subst he
      have hai1 : (a0 : Int) ≤ (aE : Int) := by omega
      have hai2 : (aE : Int) ≤ (s.size : Int) := by omega
      go_wp2
      go_quiet (fail)
      go_wp2
      go_ret
      exact HP.out _ (hsc.out.drew _) (hbu.out.drewN _)

end Go.Proofs.YtaocbhfehncdcaaGreatDoor
