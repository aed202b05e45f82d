/-
  The document's reader: what flush and put leave. Conditions: rows of at most 1000000 parts.
-/
import Derived.Test.YtaocbhfehncdcaaGreatDoorXDi
namespace Go.Proofs.YtaocbhfehncdcaaGreatDoor
open Go.RowKit

theorem rw_far {B n cap g k : Nat} {w w2 : World} {v : Value} {xs : List Value} {z0 z1 z2 z3 z4 : Value} (h : w2.ownsRow B 28 5 (.slice (some ⟨g, 0, none⟩) (n + 1) cap) (n + 1) (xs ++ [z0, z1, z2, z3, z4])) (hl : xs.length = n * 5) (v0 v1 v2 v3 v4 : Value)
    (hg : ∀ k, k < w.heap.size → some k ≠ v.ownBlock → w2.heap[k]? = w.heap[k]?) (hs : w.heap.size ≤ w2.heap.size) (hG : v.ownBlock = some g ∨ w.heap.size ≤ g) (hk : k < w.heap.size) (hne : some k ≠ v.ownBlock) : (rwW w2 g (n * 5) v0 v1 v2 v3 v4).heap[k]? = w.heap[k]? := by
  refine ((row_five h hl v0 v1 v2 v3 v4).2.block k (Nat.lt_of_lt_of_le hk hs) fun e => ?_).trans (hg k hk hne)
  injection e with e
  subst e
  rcases hG with h1 | h1
  · exact hne h1.symm
  · omega
theorem tail_cells {B n cap g : Nat} {w : World} {xs : List Value} {z0 z1 z2 z3 z4 : Value} (h : w.ownsRow B 28 5 (.slice (some ⟨g, 0, none⟩) (n + 1) cap) (n + 1) (xs ++ [z0, z1, z2, z3, z4])) (hl : xs.length = n * 5) :
    w.cell? ⟨g, n * 5, none⟩ = some z0 ∧ w.cell? ⟨g, n * 5 + 1, none⟩ = some z1 ∧ w.cell? ⟨g, n * 5 + 2, none⟩ = some z2 ∧ w.cell? ⟨g, n * 5 + 3, none⟩ = some z3 ∧ w.cell? ⟨g, n * 5 + 4, none⟩ = some z4 := by
  have h0 := h.cellAt (n * 5) (by omega)
  have h1 := h.cellAt (n * 5 + 1) (by omega)
  have h2 := h.cellAt (n * 5 + 2) (by omega)
  have h3 := h.cellAt (n * 5 + 3) (by omega)
  have h4 := h.cellAt (n * 5 + 4) (by omega)
  rw [← hl] at h0 h1 h2 h3 h4 ⊢
  rw [h0, h1, h2, h3, h4]
  simp [List.getElem?_append]
/-- A part behind the parts: the row, grown by a zero part, into which the part was put. -/
theorem parts_put {B g cap : Nat} {w w2 : World} {lv L : Value} {l m : List Nd} {op n : Int} {s t : ByteArray} {xs : List Value} (hlen : xs.length = l.length * 5) (hc : NcAt (Fz B lv w) w l xs) (hL : NsAt (Fz B lv w) w m L)
    (hg : ∀ k, k < w.heap.size → some k ≠ lv.ownBlock → w2.heap[k]? = w.heap[k]?) (hs : w.heap.size ≤ w2.heap.size) (hG : lv.ownBlock = some g ∨ w.heap.size ≤ g)
    (ho : w2.ownsRow B 28 5 (.slice (some ⟨g, 0, none⟩) (l.length + 1) cap) (l.length + 1) (xs ++ [.int .i64 0, .string ⟨#[]⟩, .string ⟨#[]⟩, .int .i64 0, .slice none 0 0])) :
    Rws B (.slice (some ⟨g, 0, none⟩) (l.length + 1) cap) (l ++ [.mk op s t n m]) (rwW w2 g (l.length * 5) (.int .i64 op) (.string s) (.string t) (.int .i64 n) L) := by
  rcases hG with h | h
  · exact rws_put (H := w.heap.size) (v := lv) (w := w) hlen hc hL (fun k h1 h2 => rw_far ho hlen _ _ _ _ _ hg hs (.inl h) h1 h2) (.inl h.symm) (Nat.le_refl _) (row_five ho hlen _ _ _ _ _).1
  · exact rws_put (H := g) (v := lv) (w := w) hlen hc hL (fun k h1 h2 => rw_far ho hlen _ _ _ _ _ hg hs (.inr h) h1 h2) (.inr rfl) h (row_five ho hlen _ _ _ _ _).1
theorem set_comm (w : World) (p q : Addr) (u v : Value) (h : p.block ≠ q.block) : (w.setCell p u).setCell q v = (w.setCell q v).setCell p u := by
  unfold World.setCell
  simp only [World.mk.injEq, and_true, true_and]
  apply Array.ext_getElem?
  intro k
  simp only [Array.getElem?_modify]
  by_cases h1 : q.block = k <;> by_cases h2 : p.block = k
  · exact absurd (h2.trans h1.symm) h
  · simp [h1, h2]
  · simp [h1, h2]
  · simp [h1, h2]
theorem rw_comm (w : World) (g p R : Nat) (h : R ≠ g) (x v0 v1 v2 v3 v4 : Value) : rwW (w.setCell ⟨R, 3, none⟩ x) g p v0 v1 v2 v3 v4 = (rwW w g p v0 v1 v2 v3 v4).setCell ⟨R, 3, none⟩ x := by
  unfold rwW
  rw [set_comm _ ⟨g, p + 4, none⟩ ⟨R, 3, none⟩ _ _ (Ne.symm h), set_comm _ ⟨g, p + 3, none⟩ ⟨R, 3, none⟩ _ _ (Ne.symm h), set_comm _ ⟨g, p + 2, none⟩ ⟨R, 3, none⟩ _ _ (Ne.symm h), set_comm _ ⟨g, p + 1, none⟩ ⟨R, 3, none⟩ _ _ (Ne.symm h), set_comm _ ⟨g, p, none⟩ ⟨R, 3, none⟩ _ _ (Ne.symm h)]
/-- The reader with other parts, and what stayed. -/
def PsQ (B R : Nat) (src : List UInt8) (a : Nat) (tx : List UInt8) (l2 : List Nd) (tv v2 lv : Value) (w W : World) : Prop :=
  DiAt B R src a tx l2 tv v2 W ∧ Below B w W ∧ (∀ k, k < w.heap.size → k ≠ R → some k ≠ lv.ownBlock → W.heap[k]? = w.heap[k]?) ∧ (v2.ownBlock = lv.ownBlock ∨ ∃ g, v2.ownBlock = some g ∧ w.heap.size ≤ g)
/-- A part put behind the parts, in whichever order the two stores are done. -/
theorem psq_of {B R a g cap : Nat} {src tx : List UInt8} {ps m : List Nd} {tv lv L : Value} {w w2 : World} {op n : Int} {s t : ByteArray} {xs : List Value} (H : DiAt B R src a tx ps tv lv w) (hown : w.ownsRow B 28 5 lv ps.length xs) (hc : NcAt (Fz B lv w) w ps xs) (hL : NsAt (Fz B lv w) w m L)
    (hgw : ∀ k, k < w.heap.size → some k ≠ lv.ownBlock → w2.heap[k]? = w.heap[k]?) (hsw : w.heap.size ≤ w2.heap.size) (hGw : lv.ownBlock = some g ∨ w.heap.size ≤ g) (hbw : Below B w w2) (hB : B ≤ w.heap.size)
    (ho : w2.ownsRow B 28 5 (.slice (some ⟨g, 0, none⟩) (ps.length + 1) cap) (ps.length + 1) (xs ++ [.int .i64 0, .string ⟨#[]⟩, .string ⟨#[]⟩, .int .i64 0, .slice none 0 0])) :
    R ≠ g ∧ PsQ B R src a tx (ps ++ [.mk op s t n m]) tv (.slice (some ⟨g, 0, none⟩) (ps.length + 1) cap) lv w ((rwW w2 g (ps.length * 5) (.int .i64 op) (.string s) (.string t) (.int .i64 n) L).setCell ⟨R, 3, none⟩ (.slice (some ⟨g, 0, none⟩) (ps.length + 1) cap)) ∧
    PsQ B R src a tx (ps ++ [.mk op s t n m]) tv (.slice (some ⟨g, 0, none⟩) (ps.length + 1) cap) lv w (rwW (w2.setCell ⟨R, 3, none⟩ (.slice (some ⟨g, 0, none⟩) (ps.length + 1) cap)) g (ps.length * 5) (.int .i64 op) (.string s) (.string t) (.int .i64 n) L) := by
  have hne : R ≠ g := fun e => by
    subst e
    rcases hGw with h1 | h1
    · exact H.psFar h1.symm
    · exact absurd H.lt (by omega)
  have hPP := parts_put (op := op) (n := n) (s := s) (t := t) (L := L) hown.1 hc hL hgw hsw hGw ho
  have hRF : ∀ k, k < w.heap.size → some k ≠ lv.ownBlock → (rwW w2 g (ps.length * 5) (.int .i64 op) (.string s) (.string t) (.int .i64 n) L).heap[k]? = w.heap[k]? := fun k h1 h2 => rw_far ho hown.1 _ _ _ _ _ hgw hsw hGw h1 h2
  have hBB : Below B w (rwW w2 g (ps.length * 5) (.int .i64 op) (.string s) (.string t) (.int .i64 n) L) := hbw.grown (row_five ho hown.1 _ _ _ _ _).2 (Nat.le_trans hB hsw) fun k hk => by
    injection hk with hk
    subst hk
    exact (ho.lt g rfl).1
  have h1 : PsQ B R src a tx (ps ++ [.mk op s t n m]) tv (.slice (some ⟨g, 0, none⟩) (ps.length + 1) cap) lv w ((rwW w2 g (ps.length * 5) (.int .i64 op) (.string s) (.string t) (.int .i64 n) L).setCell ⟨R, 3, none⟩ (.slice (some ⟨g, 0, none⟩) (ps.length + 1) cap)) :=
    ⟨H.setPs hPP hRF, hBB.setCell (p := ⟨R, 3, none⟩) H.lo _, fun k h1 h2 h3 => (Below.heap_setCell _ ⟨R, 3, none⟩ _ k h2).trans (hRF k h1 h3), hGw.imp (fun h => h.symm) fun h => ⟨g, rfl, h⟩⟩
  refine ⟨hne, h1, ?_⟩
  rw [rw_comm _ _ _ _ hne]
  exact h1
theorem leaf_is (tx : List UInt8) : leafN 2 tx = .mk 2 (bs tx) ⟨#[]⟩ 0 [] := rfl
/-- What flush leaves: no text, and the parts with it. -/
def FlP (B R : Nat) (src : List UInt8) (a : Nat) (tx : List UInt8) (ps : List Nd) (lv : Value) (w : World) (e : Ending) (w' : World) : Prop :=
  e = .returned (.tuple #[]) ∧ ∃ tv' lv', DiAt B R src a [] (flN ps tx) tv' lv' w' ∧ Below B w w' ∧ (∀ g, g < w.heap.size → g ≠ R → some g ≠ lv.ownBlock → w'.heap[g]? = w.heap[g]?) ∧ (lv'.ownBlock = lv.ownBlock ∨ ∃ g, lv'.ownBlock = some g ∧ w.heap.size ≤ g)
set_option maxRecDepth 100000 in
set_option maxHeartbeats 8000000 in
theorem flush_any (B R : Nat) (src : List UInt8) (a : Nat) (tx : List UInt8) (ps : List Nd) (tv lv : Value) (w : World) (h : DiAt B R src a tx ps tv lv w) (hB : B ≤ w.heap.size) (hl : ps.length ≤ 1000000) :
    Calls Tryz.prog 48 #[.pointer (some ⟨R, 0, none⟩)] w (FlP B R src a tx ps lv w) := by
  obtain ⟨i0, hi, hz0, hz1, hz2⟩ := info_parts infoR
  obtain ⟨ta, tc, rfl⟩ := h.btx.form
  obtain ⟨la, lc, rfl, _⟩ := h.bps.form
  obtain ⟨c0, c1, c2, c3⟩ := h.cells
  by_cases htx : tx = []
  · subst htx
    have HP : Hid (FlP B R src a [] ps (.slice la ps.length lc) w (.returned (.tuple #[])) w) := ⟨rfl, _, _, by rw [flN_nil]; exact h, Below.refl _ _, fun _ _ _ _ => rfl, .inl rfl⟩
    rw [List.length_nil] at c2
    clear h
    go_enter Tryz.func48, Tryz.ntmps48
    go_wp2
    go_end0
    exact HP.out
  · have x1 : (0 : Int) < (tx.length : Int) := by
      have := List.length_pos_iff.2 htx
      omega
    obtain ⟨xs, hown, hnc⟩ := h.bps.ex
    have hcvA : (convert 52 9 (.slice ta tx.length tc)).run Tryz.prog w.drew = .ok (.string (bs tx)) w.drew := (h.btx.stay (keep_drew _ w)).back
    have hcvB : (convert 52 9 (.slice ta tx.length tc)).run Tryz.prog (w.alloc (.cells #[.int .i64 0, .string ⟨#[]⟩, .string ⟨#[]⟩, .int .i64 0, .slice none 0 0] 28)).drew = .ok (.string (bs tx)) (w.alloc (.cells #[.int .i64 0, .string ⟨#[]⟩, .string ⟨#[]⟩, .int .i64 0, .slice none 0 0] 28)).drew := ((h.btx.stay (keep_alloc _ w _)).stay (keep_drew _ _)).back
    obtain ⟨d0, d1, d2, d3⟩ := (h.alloc (.cells #[.int .i64 0, .string ⟨#[]⟩, .string ⟨#[]⟩, .int .i64 0, .slice none 0 0] 28)).cells
    have H := Lib.hid h
    have HOWN := Lib.hid hown
    have HNC := Lib.hid hnc
    have HFN := Lib.hid (flN_some ps htx)
    have y0 : (0 : Int) ≤ (ps.length : Int) := by omega
    have y1 : (ps.length : Int) < (ps.length : Int) + 1 := by omega
    clear h hown hnc htx
    go_enter Tryz.func48, Tryz.ntmps48
    go_wp2
    rename_i K hK
    have TAIL : ∀ (g cap : Nat) (W6 : World), Hid (PsQ B R src a tx (flN ps tx) (.slice ta tx.length tc) (.slice (some ⟨g, 0, none⟩) (ps.length + 1) cap) (.slice la ps.length lc) w W6) →
        K { tmps := #[.pointer (some ⟨R, 0, none⟩), undef, .pointer (some ⟨R, 0, none⟩), .pointer (some ⟨R, 0, none⟩), .pointer (some ⟨R, 2, none⟩), .slice ta tx.length tc, .int .i64 (tx.length : Int), .bool true, .pointer (some ⟨R, 0, none⟩), .pointer (some ⟨R, 0, none⟩), .pointer (some ⟨R, 3, none⟩), .slice la ps.length lc, .pointer (some ⟨R, 0, none⟩), .pointer (some ⟨R, 0, none⟩), .pointer (some ⟨R, 2, none⟩), .slice ta tx.length tc, .string (bs tx), .agg #[.int .i64 2, .string (bs tx), .string ⟨#[]⟩, .int .i64 0, .slice none 0 0], .int .i64 (ps.length : Int), .slice (some ⟨w.heap.size, 0, none⟩) 1 1, .slice (some ⟨g, 0, none⟩) (ps.length + 1) cap, .pointer (some ⟨g, ps.length * 5, none⟩), .pointer (some ⟨R, 0, none⟩), .pointer (some ⟨R, 3, none⟩), undef, undef, undef], defers := [] } W6 := by
      intro g cap W6 HQ
      apply hK
      obtain ⟨m0, m1, m2, m3⟩ := HQ.out.1.cells
      have mf := HQ.out.1.frozen 2
      clear m0 m1 m3 c0 c1 c2 c3 d0 d1 d2 d3 hcvA hcvB
      go_wp2
      go_end0
      obtain ⟨q1, q2, q3, q4⟩ := HQ.out
      exact ⟨rfl, _, _, q1.setTx (World.ownsRow_nil _ _ _ _) fun _ _ _ => rfl, q2.setCell (p := ⟨R, 2, none⟩) q1.lo _, fun k h1 h2 h3 => (Below.heap_setCell _ ⟨R, 2, none⟩ _ k h2).trans (q3 k h1 h2 h3), q4⟩
    go_region_law (first
      | (refine step_append_lies _ rfl (.tmp 11) (.tmp 19) 26 rfl B 28 i0 _ 5 72 (by kernel_rfl) hi hz0 hz1 hz2 rfl (by decide) (.slice la ps.length lc) ps.length xs (by simp [Act.eval, Act.put]) (HOWN.out.alloc _) ⟨w.heap.size, 0, none⟩ 1 1 [.int .i64 0, .string ⟨#[]⟩, .string ⟨#[]⟩, .int .i64 0, .slice none 0 0] (by simp [Act.eval, Act.put]) rfl (World.news_of_block (Go.MapKept.heap_alloc _ _).1) (cell5 rfl rfl rfl rfl) (by decide) (by unfold maxLen; omega) (by omega) (Nat.le_trans hB (by simp)) _ rfl ?_
         intro g cap w2 ho hg hG hlt
         have hgw : ∀ k, k < w.heap.size → some k ≠ (Value.slice la ps.length lc).ownBlock → w2.heap[k]? = w.heap[k]? := fun k h1 h2 => (hg.block k (Nat.lt_of_lt_of_le h1 (by simp)) h2).trans (Lib.alloc_old w _ k h1)
         have hsw : w.heap.size ≤ w2.heap.size := Nat.le_trans (by simp) hg.size
         have hGw : (Value.slice la ps.length lc).ownBlock = some g ∨ w.heap.size ≤ g := hG.imp id fun e => by rw [e]; simp
         have hbw : Below B w w2 := (((Below.refl B w).alloc hB _).drew).grown hg (Nat.le_trans hB (by simp)) fun k hk => (HOWN.out.lt k hk).1
         obtain ⟨hne1, hq1, hq2⟩ := psq_of (op := 2) (n := 0) (s := bs tx) (t := ⟨#[]⟩) (L := .slice none 0 0) H.out HOWN.out HNC.out NsAt.none hgw hsw hGw hbw hB ho
         rw [← leaf_is, ← HFN.out] at hq1 hq2
         unfold rwW at hq1 hq2
         have HQ1 := Lib.hid hq1
         have HQ2 := Lib.hid hq2
         have hblk := (hgw R H.out.lt H.out.psFar).trans H.out.blk
         have e3 : w2.cell? ⟨R, 3, none⟩ = some (.slice la ps.length lc) := by rw [Lib.cell_of_heap hblk]; rfl
         have f3 : w2.frozen? ⟨R, 3, none⟩ = false := Lib.frozen_of_heap hblk 3
         have a0 := ho.frozenAt (ps.length * 5)
         have a1 := ho.frozenAt (ps.length * 5 + 1)
         have a2 := ho.frozenAt (ps.length * 5 + 2)
         have a3 := ho.frozenAt (ps.length * 5 + 3)
         have a4 := ho.frozenAt (ps.length * 5 + 4)
         obtain ⟨b0, b1, b2, b3, b4⟩ := tail_cells ho HOWN.out.1
         have hne2 : g ≠ R := fun e => hne1 e.symm
         clear ho hg hG hlt hgw hsw hGw hbw hblk hq1 hq2))
    all_goals (change K _ _; first | with_reducible exact TAIL _ _ _ HQ1 | with_reducible exact TAIL _ _ _ HQ2)

end Go.Proofs.YtaocbhfehncdcaaGreatDoor
