/-
  A scanner whose rows grow: what an append to one of them leaves of the others. Conditions: none beside those stated. A scanner's read where an operator is expected: a word. Conditions: a text of at most 100000 bytes.
-/
import Derived.Test.YtaocbhfehncdcaaGreatDoorXM09
import Derived.Test.YtaocbhfehncdcaaGreatDoorXM08
namespace Go.Proofs.YtaocbhfehncdcaaGreatDoor
open Go.RowKit

theorem own_lt {w : World} {W0 : Nat} {E : TypeId} {size n : Nat} {v : Value} {xs : List Value} (h : w.ownsRow W0 E size v n xs) {g : Nat} (hv : v.ownBlock = some g) : g < w.heap.size ∧ W0 ≤ g := by
  rcases h.2 with ⟨h0, _⟩ | ⟨g', cap, cur, h0, h1, hg, _⟩
  · rw [h0] at hv
    simp [Value.ownBlock] at hv
  · rw [h0] at hv
    simp only [Value.ownBlock, Option.some.injEq] at hv
    subst hv
    exact ⟨(Array.getElem?_eq_some_iff.1 hg).1, h1⟩
theorem row_keep {w w' : World} {W0 : Nat} {E : TypeId} {size n : Nat} {v : Value} {xs : List Value} (h : w.ownsRow W0 E size v n xs) (hb : ∀ g, v.ownBlock = some g → w'.heap[g]? = w.heap[g]?) : w'.ownsRow W0 E size v n xs := by
  refine ⟨h.1, ?_⟩
  rcases h.2 with h0 | ⟨g, cap, cur, h0, h1, hg, h2⟩
  · exact .inl h0
  · exact .inr ⟨g, cap, cur, h0, h1, (hb g (by rw [h0]; rfl)).trans hg, h2⟩
theorem row_apart {w : World} {W0 W1 : Nat} {E F : TypeId} {s s' n n' : Nat} {v v' : Value} {xs ys : List Value} (h : w.ownsRow W0 E s v n xs) (h' : w.ownsRow W1 F s' v' n' ys) (hE : E ≠ F) {g : Nat} (hv : v.ownBlock = some g) : some g ≠ v'.ownBlock := by
  intro hv'
  rcases h.2 with ⟨h0, _⟩ | ⟨a, cap, cur, h0, _, hg, _⟩
  · rw [h0] at hv
    simp [Value.ownBlock] at hv
  · rcases h'.2 with ⟨k0, _⟩ | ⟨b, cap', cur', k0, _, kg, _⟩
    · rw [k0] at hv'
      simp [Value.ownBlock] at hv'
    · rw [h0] at hv
      rw [k0] at hv'
      simp only [Value.ownBlock, Option.some.injEq] at hv hv'
      subst hv
      subst hv'
      rw [hg] at kg
      simp only [Option.some.injEq, Obj.cells.injEq] at kg
      exact hE kg.2.1
theorem map_row {w : World} {W0 M : Nat} {E : TypeId} {size n : Nat} {v : Value} {xs : List Value} {l : List (Nat × Nat)} (h : w.ownsRow W0 E size v n xs) (hm : IMap M l w) : some M ≠ v.ownBlock := by
  intro hv
  obtain ⟨es, cl, h1, _⟩ := hm
  rcases h.2 with ⟨h0, _⟩ | ⟨a, cap, cur, h0, _, hg, _⟩
  · rw [h0] at hv
    simp [Value.ownBlock] at hv
  · rw [h0] at hv
    simp only [Value.ownBlock, Option.some.injEq] at hv
    subst hv
    rw [hg] at h1
    cases h1

theorem IsSc.scTk {W0 B : Nat} {σ : Sf} {ρ : Sr} {W w2 : World} (h : IsSc W0 B σ ρ W) (hg : W.grownBy w2 σ.tk.ownBlock) : Sc B σ w2 := (hg.block B h.sc.lt (row_ne h.tk h.sc (by decide))).trans h.sc
theorem IsSc.scTm {W0 B : Nat} {σ : Sf} {ρ : Sr} {W w2 : World} (h : IsSc W0 B σ ρ W) (hg : W.grownBy w2 σ.tm.ownBlock) : Sc B σ w2 := (hg.block B h.sc.lt (row_ne h.tm h.sc (by decide))).trans h.sc
/-- The tokens have grown, and the scanner's block has been told. -/
theorem IsSc.growTk {W0 B : Nat} {σ : Sf} {ρ : Sr} {W w2 : World} (h : IsSc W0 B σ ρ W) {g cap m : Nat} {ys : List Value} (ho : w2.ownsRow W0 101 6 (.slice (some ⟨g, 0, none⟩) m cap) m ys) (hg : W.grownBy w2 σ.tk.ownBlock) :
    IsSc W0 B { σ with tk := .slice (some ⟨g, 0, none⟩) m cap } { ρ with n := m, tc := ys } (w2.setCell ⟨B, 5, none⟩ (.slice (some ⟨g, 0, none⟩) m cap)) ∧ Below W0 W (w2.setCell ⟨B, 5, none⟩ (.slice (some ⟨g, 0, none⟩) m cap)) ∧
    ∀ T, T < W.heap.size → T ≠ B → some T ≠ σ.tk.ownBlock → (w2.setCell ⟨B, 5, none⟩ (.slice (some ⟨g, 0, none⟩) m cap)).heap[T]? = W.heap[T]? := by
  have hs2 : Sc B σ w2 := (hg.block B h.sc.lt (row_ne h.tk h.sc (by decide))).trans h.sc
  have htm : w2.ownsRow W0 4 1 σ.tm ρ.tl.length (boolCells ρ.tl) := row_keep h.tm fun k hk => hg.block k (own_lt h.tm hk).1 (row_apart h.tm h.tk (by decide) hk)
  have hop : w2.ownsRow W0 3 1 σ.op ρ.ol.length (intCells ρ.ol) := row_keep h.op fun k hk => hg.block k (own_lt h.op hk).1 (row_apart h.op h.tk (by decide) hk)
  have hmp : IMap σ.M ρ.ml w2 := h.mp.block (hg.block _ h.mp.lt (map_row h.tk h.mp))
  refine ⟨⟨h.base, hs2.setTk _, row_set ho (row_ne ho hs2 (by decide)) 5 _, row_set htm (row_ne htm hs2 (by decide)) 5 _, row_set hop (row_ne hop hs2 (by decide)) 5 _, hmp.block (Below.heap_setCell w2 ⟨B, 5, none⟩ _ σ.M h.mapNe), h.mb⟩, ?_, ?_⟩
  · exact ((Below.refl W0 W).grown hg h.le fun k e => (own_lt h.tk e).2).setCell h.base _
  · intro T hT hB hr
    exact (Below.heap_setCell w2 ⟨B, 5, none⟩ _ T hB).trans (hg.block T hT hr)
/-- The terms have grown. -/
theorem IsSc.growTm {W0 B : Nat} {σ : Sf} {ρ : Sr} {W w2 : World} (h : IsSc W0 B σ ρ W) {g cap m : Nat} {ls : List Bool} {ys : List Value} (ho : w2.ownsRow W0 4 1 (.slice (some ⟨g, 0, none⟩) m cap) m ys) (hm : m = ls.length) (hy : ys = boolCells ls) (hg : W.grownBy w2 σ.tm.ownBlock) :
    IsSc W0 B { σ with tm := .slice (some ⟨g, 0, none⟩) m cap } { ρ with tl := ls } (w2.setCell ⟨B, 6, none⟩ (.slice (some ⟨g, 0, none⟩) m cap)) ∧ Below W0 W (w2.setCell ⟨B, 6, none⟩ (.slice (some ⟨g, 0, none⟩) m cap)) ∧
    ∀ T, T < W.heap.size → T ≠ B → some T ≠ σ.tm.ownBlock → (w2.setCell ⟨B, 6, none⟩ (.slice (some ⟨g, 0, none⟩) m cap)).heap[T]? = W.heap[T]? := by
  subst hm
  subst hy
  have hs2 : Sc B σ w2 := (hg.block B h.sc.lt (row_ne h.tm h.sc (by decide))).trans h.sc
  have htk : w2.ownsRow W0 101 6 σ.tk ρ.n ρ.tc := row_keep h.tk fun k hk => hg.block k (own_lt h.tk hk).1 (row_apart h.tk h.tm (by decide) hk)
  have hop : w2.ownsRow W0 3 1 σ.op ρ.ol.length (intCells ρ.ol) := row_keep h.op fun k hk => hg.block k (own_lt h.op hk).1 (row_apart h.op h.tm (by decide) hk)
  have hmp : IMap σ.M ρ.ml w2 := h.mp.block (hg.block _ h.mp.lt (map_row h.tm h.mp))
  refine ⟨⟨h.base, hs2.setTm _, row_set htk (row_ne htk hs2 (by decide)) 6 _, row_set ho (row_ne ho hs2 (by decide)) 6 _, row_set hop (row_ne hop hs2 (by decide)) 6 _, hmp.block (Below.heap_setCell w2 ⟨B, 6, none⟩ _ σ.M h.mapNe), h.mb⟩, ?_, ?_⟩
  · exact ((Below.refl W0 W).grown hg h.le fun k e => (own_lt h.tm e).2).setCell h.base _
  · intro T hT hB hr
    exact (Below.heap_setCell w2 ⟨B, 6, none⟩ _ T hB).trans (hg.block T hT hr)
/-- The block of a token is not the block of the terms. -/
theorem TkAt.apart {T : Nat} {v0 v1 v2 v3 v4 v5 : Value} {W : World} {W0 n s : Nat} {E : TypeId} {v : Value} {xs : List Value} (h : TkAt T v0 v1 v2 v3 v4 v5 W) (hr : W.ownsRow W0 E s v n xs) (hE : E ≠ 101) : some T ≠ v.ownBlock := by
  intro hv
  rcases hr.2 with ⟨h0, _⟩ | ⟨a, cap, cur, h0, _, hg, _⟩
  · rw [h0] at hv
    simp [Value.ownBlock] at hv
  · rw [h0] at hv
    simp only [Value.ownBlock, Option.some.injEq] at hv
    subst hv
    unfold TkAt at h
    rw [h] at hg
    simp only [Option.some.injEq, Obj.cells.injEq] at hg
    exact hE hg.2.1.symm
theorem TkAt.ne {T B : Nat} {v0 v1 v2 v3 v4 v5 : Value} {W : World} {σ : Sf} (h : TkAt T v0 v1 v2 v3 v4 v5 W) (hs : Sc B σ W) : T ≠ B := by
  rintro rfl
  unfold TkAt at h
  unfold Sc at hs
  rw [h] at hs
  simp [Sf.cells] at hs

/-- Below W0 nothing has turned, and of the other blocks only the scanner's own, its tokens' and its terms' row. -/
structure Bw (W0 B : Nat) (tk tm : Value) (w w' : World) : Prop where
  low : Below W0 w w'
  far : ∀ T, T < w.heap.size → T ≠ B → some T ≠ tk.ownBlock → some T ≠ tm.ownBlock → w'.heap[T]? = w.heap[T]?
theorem Bw.trans {W0 B : Nat} {tk tm : Value} {a b c : World} (h : Bw W0 B tk tm a b) (k : Bw W0 B tk tm b c) : Bw W0 B tk tm a c :=
  ⟨h.low.trans k.low, fun T h1 h2 h3 h4 => (k.far T (Nat.lt_of_lt_of_le h1 h.low.size) h2 h3 h4).trans (h.far T h1 h2 h3 h4)⟩
theorem Bw.below {W0 B : Nat} {tk tm : Value} {w w' : World} (h : Below w.heap.size w w') (hW : W0 ≤ w.heap.size) : Bw W0 B tk tm w w' := ⟨h.mono hW, fun T h1 _ _ _ => h.block T h1⟩
theorem Bw.set {W0 B : Nat} {tk tm : Value} {w w' : World} (h : Bw W0 B tk tm w w') (hB : W0 ≤ B) (i : Nat) (u : Value) : Bw W0 B tk tm w (w'.setCell ⟨B, i, none⟩ u) :=
  ⟨h.low.setCell hB u, fun T h1 h2 h3 h4 => (Below.heap_setCell w' ⟨B, i, none⟩ u T h2).trans (h.far T h1 h2 h3 h4)⟩
/-- A row's new block is its old one, or is beyond all that was there. -/
theorem nr_of {v : Value} {g H T : Nat} (hG : v.ownBlock = some g ∨ g = H) (hT : T ≤ H) : ∀ T', T' < T → some T' ≠ v.ownBlock → T' ≠ g := by
  rintro T' h1 h2 rfl
  rcases hG with h | h
  · exact h2 h.symm
  · omega

end Go.Proofs.YtaocbhfehncdcaaGreatDoor

namespace Go.Proofs.YtaocbhfehncdcaaGreatDoor
open Go.RowKit

set_option maxRecDepth 100000 in
set_option maxHeartbeats 4000000 in
theorem read_word (W0 B : Nat) (σ : Sf) (ρ : Sr) (w : World) (h : IsSc W0 B σ ρ w) (hs : σ.s.size ≤ 100000) (ha : σ.a ≤ σ.s.size) (ht : σ.t = false) (n : Nat) (hn : wsz (σ.s.data.toList.drop σ.a) = n) (hn0 : 0 < n) (hn1 : n ≤ 12) :
    Calls Tryz.prog 133 #[.pointer (some ⟨B, 0, none⟩)] w (ScP W0 B (tokV 0 (σ.s.extract σ.a (σ.a + n))) { σ with a := σ.a + n } ρ w) := by
  have hl0 := h.ltSize
  have hBT := h.sc.lt
  have h1 := h.later ((Below.refl _ _).alloc (Nat.le_refl _) (.cells #[.int .i64 0, .int .i64 0, .string ⟨#[]⟩, .string ⟨#[]⟩, .string ⟨#[]⟩, .int .i64 0] 101))
  have hb1 : But B w (w.alloc (.cells #[.int .i64 0, .int .i64 0, .string ⟨#[]⟩, .string ⟨#[]⟩, .string ⟨#[]⟩, .int .i64 0] 101)) := But.of ((Below.refl _ _).alloc (Nat.le_refl _) _)
  have HT0 := Lib.hid (TkAt.fresh w)
  obtain ⟨s, a, b, e, t, tk, tm, op, M⟩ := σ
  dsimp only at hs ha hn ht
  subst ht
  have hnl : n ≤ s.size - a := by
    have := wsz_le (s.data.toList.drop a)
    rw [hn, List.length_drop, ← Lib.size_eq] at this
    exact this
  have HWD : Hid (∀ w, Calls Tryz.prog 152 #[.pointer (some ⟨B, 0, none⟩), .string (s.extract a s.size)] w (InS n w)) := fun w => by
    have h2 : (s.extract a s.size).size ≤ 100000 := by rw [Lib.size_eq, drop_list, List.length_drop, ← Lib.size_eq]; omega
    have := word_ok B (s.extract a s.size) w h2 (by rw [drop_list, hn]; exact hn1)
    rwa [drop_list, hn] at this
  have HCU := Lib.hid (fun w' (h : IsSc W0 B ⟨s, a, b, e, false, tk, tm, op, M⟩ ρ w') => cut_any W0 B ⟨s, a, b, e, false, tk, tm, op, M⟩ ρ 0 n w' h hs (by dsimp only; omega) (by decide) (by decide))
  dsimp only at HCU
  have HP : Hid (∀ w', IsSc W0 B ⟨s, a + n, b, e, false, tk, tm, op, M⟩ ρ w' → But B w w' → ScP W0 B (tokV 0 (s.extract a (a + n))) ⟨s, a + n, b, e, false, tk, tm, op, M⟩ ρ w (.returned (tokV 0 (s.extract a (a + n)))) w') := fun w' h1 h2 => ⟨rfl, h1, h2⟩
  have HLT : Hid (ScLt w.heap.size B ⟨s, a + n, b, e, false, tk, tm, op, M⟩) := ⟨hl0.b, hl0.tk, hl0.tm, hl0.op, hl0.m⟩
  obtain ⟨c0, c1, c2, c3, c4, c5, c6, c7, c8⟩ := h1.sc.fields
  dsimp only at c0 c1 c2 c3 c4 c5 c6 c7 c8
  have H1 := Lib.hid h1
  have HB1 := Lib.hid hb1
  have HBT := Lib.hid hBT
  have hai : (a : Int) ≤ (s.size : Int) := by omega
  have x6 : (0 : Int) < (n : Int) := by omega
  clear c2 c3 c5 c6 c7 c8 h h1 hb1 hl0 hn hBT
  go_enter Tryz.func133, Tryz.ntmps133
  go_wp2
  generalize w.alloc (.cells #[.int .i64 0, .int .i64 0, .string ⟨#[]⟩, .string ⟨#[]⟩, .string ⟨#[]⟩, .int .i64 0] 101) = W1 at *
  generalize hTT : w.heap.size = T at *
  have HTT := Lib.hid hTT
  clear hTT
  go_quiet (fail)
  have H2 : Hid (IsSc W0 B ⟨s, a, b, e, false, tk, tm, op, M⟩ ρ (W1.drewN nq)) := H1.out.drew _
  have HB2 : Hid (But B w (W1.drewN nq)) := HB1.out.drewN _
  have HT2 : Hid (TkAt T (.int .i64 0) (.int .i64 0) (.string ⟨#[]⟩) (.string ⟨#[]⟩) (.string ⟨#[]⟩) (.int .i64 0) (W1.drewN nq)) := HT0.out.later rfl
  clear c0 c1 c4 H1 HB1 HT0
  generalize W1.drewN nq = W2 at *
  generalize s.extract a s.size = rest at *
  go_wp2_with fail
  refine (HWD.out _).mono ?_
  rintro e1 w' ⟨rfl, rfl⟩
  go_wp2_with fail
  refine (HCU.out _ H2.out).mono ?_
  rintro e1 W3 ⟨rfl, hs3, hb3⟩
  have H3 := Lib.hid hs3
  have HB3 : Hid (But B w W3) := HB2.out.trans hb3
  have HT3 : Hid (TkAt T (.int .i64 0) (.int .i64 0) (.string ⟨#[]⟩) (.string ⟨#[]⟩) (.string ⟨#[]⟩) (.int .i64 0) W3) := But.tok HT2.out hb3 HBT.out
  clear hs3 hb3
  obtain ⟨t0, t1, t2, t3, t4, t5⟩ := HT3.out.cells
  have z0 := HT3.out.frozen 0
  have z1 := HT3.out.frozen 1
  have z2 := HT3.out.frozen 2
  have z3 := HT3.out.frozen 3
  have z4 := HT3.out.frozen 4
  have z5 := HT3.out.frozen 5
  generalize s.extract a (a + n) = X at *
  unfold tokV at *
  go_wp2
  have HT4 := HT3.out.put (.int .i64 0) (.int .i64 0) (.string X) (.string ⟨#[]⟩) (.string ⟨#[]⟩) (.int .i64 0)
  obtain ⟨r0, r1, r2, r3, r4, r5⟩ := HT4.cells
  have hbe := tkW_below W3 T (.int .i64 0) (.int .i64 0) (.string X) (.string ⟨#[]⟩) (.string ⟨#[]⟩) (.int .i64 0)
  change bodyPost _ _ _ _ _ (tkW W3 T (.int .i64 0) (.int .i64 0) (.string X) (.string ⟨#[]⟩) (.string ⟨#[]⟩) (.int .i64 0))
  clear t0 t1 t2 t3 t4 t5 z0 z1 z2 z3 z4 z5
  refine bodyPost_ret (v := .agg #[.int .i64 0, .int .i64 0, .string X, .string ⟨#[]⟩, .string ⟨#[]⟩, .int .i64 0]) ?_ rfl (HP.out _ (H3.out.below HLT.out hbe) (HB3.out.more (by rw [HTT.out]; exact hbe)))
  generalize tkW W3 T (.int .i64 0) (.int .i64 0) (.string X) (.string ⟨#[]⟩) (.string ⟨#[]⟩) (.int .i64 0) = W4 at *
  simp [results, Tryz.results133, go_sem, r0, r1, r2, r3, r4, r5]

end Go.Proofs.YtaocbhfehncdcaaGreatDoor
