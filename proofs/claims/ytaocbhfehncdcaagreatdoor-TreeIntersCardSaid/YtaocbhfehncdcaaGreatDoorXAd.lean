/-
  A scanner's add. Conditions: a text of at most 100000 bytes, at most 100000 tokens.
-/
import Derived.Test.YtaocbhfehncdcaaGreatDoorXM07
import Derived.Deep.AppendLies
import Derived.Deep.RegionLaw
import Derived.BigRegion
namespace Go.Proofs.YtaocbhfehncdcaaGreatDoor
open Go.RowKit

theorem infoT : (Tryz.prog.info? 101).map (fun i => (i.zero, i.size, i.bytes)) = some (some (.agg #[.int .i64 0, .int .i64 0, .string ⟨#[]⟩, .string ⟨#[]⟩, .string ⟨#[]⟩, .int .i64 0]), 6, 72) := by kernel_rfl
theorem infoO : (Tryz.prog.info? 4).map (fun i => (i.zero, i.size, i.bytes)) = some (some (.bool false), 1, 1) := by kernel_rfl

/-- What add leaves: a further token, what was expected before it, what is expected behind it. -/
def AdP (W0 B : Nat) (σ : Sf) (ρ : Sr) (k : Int) (x : List UInt8) (y z : ByteArray) (o : Int) (w : World) (e : Ending) (w' : World) : Prop :=
  e = .returned (.tuple #[]) ∧ ∃ v5 v6, IsSc W0 B ⟨σ.s, σ.a, σ.b, σ.a, exB k x o σ.t, v5, v6, σ.op, σ.M⟩ ⟨ρ.tc ++ [.int .i64 k, .int .i64 (σ.b : Int), .string (bs x), .string y, .string z, .int .i64 o], ρ.n + 1, ρ.tl ++ [σ.t], ρ.ol, ρ.ml⟩ w' ∧ Bw W0 B σ.tk σ.tm w w' ∧ (∀ T', T' < w.heap.size → some T' ≠ σ.tk.ownBlock → some T' ≠ v5.ownBlock) ∧ ∀ T', T' < w.heap.size → some T' ≠ σ.tm.ownBlock → some T' ≠ v6.ownBlock

set_option maxRecDepth 100000 in
set_option maxHeartbeats 8000000 in
theorem add_plain (W0 B : Nat) (σ : Sf) (ρ : Sr) (w : World) (h : IsSc W0 B σ ρ w) (k a' : Int) (x : List UInt8) (y z : ByteArray) (o : Int) (hk : k ≠ 3) (hn : ρ.n ≤ 100000) (ht : ρ.tl.length = ρ.n) :
    Calls Tryz.prog 132 #[.pointer (some ⟨B, 0, none⟩), .agg #[.int .i64 k, .int .i64 a', .string (bs x), .string y, .string z, .int .i64 o]] w (AdP W0 B σ ρ k x y z o w) := by
  obtain ⟨s, a, b, e, t, tk, tm, op, M⟩ := σ
  obtain ⟨i0, hi, hz0, hz1, hz2⟩ := info_parts infoT
  have HTL := Lib.hid ht
  clear ht
  have hl0 := h.ltSize
  have f3 : (k == 3) = false := by rw [beq_eq_false_iff_ne]; exact hk
  have h1 := h.later ((Below.refl _ _).alloc (Nat.le_refl _) (.cells #[.int .i64 k, .int .i64 a', .string (bs x), .string y, .string z, .int .i64 o] 101))
  obtain ⟨c0, c1, c2, c3, c4, c5, c6, c7, c8⟩ := h1.sc.fields
  dsimp only at c0 c1 c2 c3 c4 c5 c6 c7 c8
  have HT0 : Hid (TkAt w.heap.size (.int .i64 k) (.int .i64 a') (.string (bs x)) (.string y) (.string z) (.int .i64 o) (w.alloc (.cells #[.int .i64 k, .int .i64 a', .string (bs x), .string y, .string z, .int .i64 o] 101))) := (Go.MapKept.heap_alloc w _).1
  have HNT : Hid (some w.heap.size ≠ tk.ownBlock) := fun hv => Nat.lt_irrefl _ (own_lt h.tk hv.symm).1
  have H1 := Lib.hid h1
  have HLT := Lib.hid hl0
  have hBT := h.sc.lt
  have HBA : Hid (Bw W0 B tk tm w (w.alloc (.cells #[.int .i64 k, .int .i64 (b : Int), .string (bs x), .string y, .string z, .int .i64 o] 101))) := Bw.below ((Below.refl _ w).alloc (Nat.le_refl _) (.cells #[.int .i64 k, .int .i64 (b : Int), .string (bs x), .string y, .string z, .int .i64 o] 101)) h.le
  have HP : Hid (∀ v5 v6 w', IsSc W0 B ⟨s, a, b, a, exB k x o t, v5, v6, op, M⟩ ⟨ρ.tc ++ [.int .i64 k, .int .i64 (b : Int), .string (bs x), .string y, .string z, .int .i64 o], ρ.n + 1, ρ.tl ++ [t], ρ.ol, ρ.ml⟩ w' → Bw W0 B tk tm w w' → (∀ T', T' < w.heap.size → some T' ≠ tk.ownBlock → some T' ≠ v5.ownBlock) → (∀ T', T' < w.heap.size → some T' ≠ tm.ownBlock → some T' ≠ v6.ownBlock) → AdP W0 B ⟨s, a, b, e, t, tk, tm, op, M⟩ ρ k x y z o w (.returned (.tuple #[])) w') := fun v5 v6 w' h1 h2 h3 h4 => ⟨rfl, v5, v6, h1, h2, h3, h4⟩
  have h2 := h.later ((Below.refl _ _).alloc (Nat.le_refl _) (.cells #[.int .i64 k, .int .i64 (b : Int), .string (bs x), .string y, .string z, .int .i64 o] 101))
  have HT2 : Hid (TkAt w.heap.size (.int .i64 k) (.int .i64 (b : Int)) (.string (bs x)) (.string y) (.string z) (.int .i64 o) (w.alloc (.cells #[.int .i64 k, .int .i64 (b : Int), .string (bs x), .string y, .string z, .int .i64 o] 101))) := (Go.MapKept.heap_alloc w _).1
  have H2 := Lib.hid h2
  clear h h1 h2 hl0 hk c0 c1 c3 c4 c5 c6 c7 c8
  go_enter Tryz.func132, Tryz.ntmps132
  go_wp2
  clear HT0 H1 c2
  generalize w.alloc (.cells #[.int .i64 k, .int .i64 (b : Int), .string (bs x), .string y, .string z, .int .i64 o] 101) = W1 at *
  generalize hTT : w.heap.size = T at *
  have HTT := Lib.hid hTT
  clear hTT
  obtain ⟨c0, c1, c2, c3, c4, c5, c6, c7, c8⟩ := H2.out.sc.fields
  dsimp only at c0 c1 c2 c3 c4 c5 c6 c7 c8
  obtain ⟨t0, t1, t2, t3, t4, t5⟩ := HT2.out.cells
  have fz := H2.out.sc.frozen 5
  clear c0 c1 c2 c3 c4 c6 c7 c8
  have d5 := (H2.out.later ((Below.refl _ _).alloc (Nat.le_refl _) (.cells #[.int .i64 k, .int .i64 (b : Int), .string (bs x), .string y, .string z, .int .i64 o] 101))).sc.fields.2.2.2.2.2.1
  dsimp only at d5
  rename_i K hK
  have TAIL : ∀ (g cap : Nat) (W3 : World), Hid (IsSc W0 B ⟨s, a, b, e, t, .slice (some ⟨g, 0, none⟩) (ρ.n + 1) cap, tm, op, M⟩ ⟨ρ.tc ++ [.int .i64 k, .int .i64 (b : Int), .string (bs x), .string y, .string z, .int .i64 o], ρ.n + 1, ρ.tl, ρ.ol, ρ.ml⟩ W3) → Hid (Bw W0 B tk tm W1 W3) → Hid (∀ T', T' < T → some T' ≠ tk.ownBlock → T' ≠ g) → Hid (TkAt T (.int .i64 k) (.int .i64 (b : Int)) (.string (bs x)) (.string y) (.string z) (.int .i64 o) W3) →
      K { tmps := #[.pointer (some ⟨B, 0, none⟩), .agg #[.int .i64 k, .int .i64 a', .string (bs x), .string y, .string z, .int .i64 o], undef, .pointer (some ⟨T, 0, none⟩), .pointer (some ⟨B, 0, none⟩), .pointer (some ⟨B, 0, none⟩), .pointer (some ⟨B, 2, none⟩), .int .i64 (b : Int), .pointer (some ⟨T, 1, none⟩), .pointer (some ⟨T, 0, none⟩), .int .i64 k, .bool false, undef, undef, undef, undef, undef, .pointer (some ⟨B, 0, none⟩), .pointer (some ⟨B, 0, none⟩), .pointer (some ⟨B, 0, none⟩), .pointer (some ⟨B, 5, none⟩), tk, .agg #[.int .i64 k, .int .i64 (b : Int), .string (bs x), .string y, .string z, .int .i64 o], .slice (some ⟨W1.heap.size, 0, none⟩) 1 1, .slice (some ⟨g, 0, none⟩) (ρ.n + 1) cap, .pointer (some ⟨B, 0, none⟩), .pointer (some ⟨B, 5, none⟩), undef, undef, undef, undef, undef, undef, undef, undef, undef, undef, undef, undef, undef, undef, undef, undef, undef, undef, undef, undef, undef, undef, undef, undef, undef, undef, undef, undef, undef], defers := [] } W3 := by
    intro g cap W3 H3 HB3 HN3 HT3
    apply hK
    obtain ⟨c0, c1, c2, c3, c4, c5, c6, c7, c8⟩ := H3.out.sc.fields
    dsimp only at c0 c1 c2 c3 c4 c5 c6 c7 c8
    clear c0 c1 c2 c3 c5 c7 c8
    go_wp2
    rename_i K6 hK6
    have TAIL6 : ∀ (g6 cap6 : Nat) (W5 : World), Hid (IsSc W0 B ⟨s, a, b, e, t, .slice (some ⟨g, 0, none⟩) (ρ.n + 1) cap, .slice (some ⟨g6, 0, none⟩) (ρ.tl.length + 1) cap6, op, M⟩ ⟨ρ.tc ++ [.int .i64 k, .int .i64 (b : Int), .string (bs x), .string y, .string z, .int .i64 o], ρ.n + 1, ρ.tl ++ [t], ρ.ol, ρ.ml⟩ W5) → Hid (Bw W0 B tk tm W1 W5) → Hid (∀ T', T' < T → some T' ≠ tm.ownBlock → T' ≠ g6) → Hid (TkAt T (.int .i64 k) (.int .i64 (b : Int)) (.string (bs x)) (.string y) (.string z) (.int .i64 o) W5) →
        K6 { tmps := #[.pointer (some ⟨B, 0, none⟩), .agg #[.int .i64 k, .int .i64 a', .string (bs x), .string y, .string z, .int .i64 o], undef, .pointer (some ⟨T, 0, none⟩), .pointer (some ⟨B, 0, none⟩), .pointer (some ⟨B, 0, none⟩), .pointer (some ⟨B, 2, none⟩), .int .i64 (b : Int), .pointer (some ⟨T, 1, none⟩), .pointer (some ⟨T, 0, none⟩), .int .i64 k, .bool false, undef, undef, undef, undef, undef, .pointer (some ⟨B, 0, none⟩), .pointer (some ⟨B, 0, none⟩), .pointer (some ⟨B, 0, none⟩), .pointer (some ⟨B, 5, none⟩), tk, .agg #[.int .i64 k, .int .i64 (b : Int), .string (bs x), .string y, .string z, .int .i64 o], .slice (some ⟨W1.heap.size, 0, none⟩) 1 1, .slice (some ⟨g, 0, none⟩) (ρ.n + 1) cap, .pointer (some ⟨B, 0, none⟩), .pointer (some ⟨B, 5, none⟩), .pointer (some ⟨B, 0, none⟩), .pointer (some ⟨B, 0, none⟩), .pointer (some ⟨B, 0, none⟩), .pointer (some ⟨B, 6, none⟩), tm, .pointer (some ⟨B, 0, none⟩), .pointer (some ⟨B, 0, none⟩), .pointer (some ⟨B, 4, none⟩), .bool t, .slice (some ⟨W3.heap.size, 0, none⟩) 1 1, .slice (some ⟨g6, 0, none⟩) (ρ.tl.length + 1) cap6, .pointer (some ⟨B, 0, none⟩), .pointer (some ⟨B, 6, none⟩), undef, undef, undef, undef, undef, undef, undef, undef, undef, undef, undef, undef, undef, undef, undef, undef], defers := [] } W5 := by
      intro g6 cap6 W5 H5 HB5 HN5 HT5
      apply hK6
      obtain ⟨c0, c1, c2, c3, c4, c5, c6, c7, c8⟩ := H5.out.sc.fields
      dsimp only at c0 c1 c2 c3 c4 c5 c6 c7 c8
      obtain ⟨t0, t1, t2, t3, t4, t5⟩ := HT5.out.cells
      clear c0 c1 c2 c3 c5 c6 c7 c8
      go_wp2
      go_region_with (go_at_call 148; refine (expects_any k (b : Int) x y z o t _).mono ?_; rintro e w7 ⟨rfl, hb7⟩; have hb8 : Below W5.heap.size W5 w7 := ((Below.refl _ _).drew).trans hb7; have H7 := Lib.hid (H5.out.later hb8); have HB7 := Lib.hid (HB5.out.trans (Bw.below hb8 H5.out.le)); have r4 := H7.out.sc.fields.2.2.2.2.1; have rf := H7.out.sc.frozen 4; clear hb7 hb8)
      all_goals (rename_i K7 hK7; change K7 _ _; apply hK7)
      all_goals (have h8 := H7.out.setT (exB k x o t); have HB8 := Lib.hid (HB7.out.set H7.out.base 4 (.bool (exB k x o t))); dsimp only at h8; have H8 := Lib.hid h8; clear h8 H7 HB7 r4 rf)
      all_goals (generalize w7.setCell ⟨B, 4, none⟩ (.bool (exB k x o t)) = W8 at *)
      all_goals (obtain ⟨c0, c1, c2, c3, c4, c5, c6, c7, c8⟩ := H8.out.sc.fields; dsimp only at c0 c1 c2 c3 c4 c5 c6 c7 c8; have fz := H8.out.sc.frozen 3; clear c0 c2 c4 c5 c6 c7 c8)
      all_goals go_wp2
      all_goals go_end0
      all_goals exact HP.out _ _ _ (H8.out.setE a) (HBA.out.trans (HB8.out.set H8.out.base 3 _)) (fun T' h1 h2 e => HN3.out T' h1 h2 (Option.some.inj e)) (fun T' h1 h2 e => HN5.out T' h1 h2 (Option.some.inj e))
    obtain ⟨j0, hj, hy0, hy1, hy2⟩ := info_parts infoO
    have d4 := (H3.out.later ((Below.refl _ _).alloc (Nat.le_refl _) (.cells #[.bool t] 4))).sc.fields.2.2.2.2.2.2.1
    dsimp only at d4
    go_region_law (refine step_append_lies _ rfl (.tmp 31) (.tmp 36) 93 rfl W0 4 j0 _ 1 1 (by kernel_rfl) hj hy0 hy1 hy2 rfl (by decide) tm ρ.tl.length (boolCells ρ.tl) (by simp [Act.eval]) (H3.out.later (((Below.refl _ _).drew).alloc (Nat.le_refl _) _)).tm ⟨W3.heap.size, 0, none⟩ 1 1 [.bool t] (by simp [Act.eval]) rfl (World.news_of_block (Go.MapKept.heap_alloc _ _).1) (by simp [Value.oneCell']) (by decide) (by have := HTL.out; unfold maxLen; omega) (by have := HTL.out; omega) (Nat.le_trans H3.out.le (by simp)) _ rfl ?_; intro g6 cap6 w2 ho hg hG hlt; have hX := H3.out.later (((Below.refl _ _).drew).alloc (Nat.le_refl _) (.cells #[.bool t] 4)); have HG5 := Lib.hid (hX.growTm (ls := ρ.tl ++ [t]) ho (by simp) (by simp [boolCells]) hg); have HK5 := Lib.hid (HT3.out.later (((hX.growTm (ls := ρ.tl ++ [t]) ho (by simp) (by simp [boolCells]) hg).2.2 T (Nat.lt_of_lt_of_le HT3.out.lt (by simp)) (HT3.out.ne H3.out.sc) (HT3.out.apart H3.out.tm (by decide))).trans ((((Below.refl _ _).drew).alloc (Nat.le_refl _) _).block T HT3.out.lt))); have HN5 := Lib.hid (nr_of (T := T) hG (Nat.le_trans (Nat.le_of_lt HT3.out.lt) (by simp))); have q5 := (hX.scTm hg).fields.2.2.2.2.2.2.1; have qf := (hX.scTm hg).frozen 6; clear ho hg hG hlt hX)
    all_goals exact TAIL6 _ _ _ HG5.out.1 (HB3.out.trans ((Bw.below (((Below.refl _ W3).drew).alloc (Nat.le_refl _) _) H3.out.le).trans ⟨HG5.out.2.1, fun T' h1 h2 _ h4 => HG5.out.2.2 T' h1 h2 h4⟩)) HN5 HK5
  go_region_law (refine step_append_lies _ rfl (.tmp 21) (.tmp 23) 68 rfl W0 101 i0 _ 6 72 (by kernel_rfl) hi hz0 hz1 hz2 rfl (by decide) tk ρ.n ρ.tc (by simp [Act.eval]) (H2.out.later (((Below.refl _ _).drew).alloc (Nat.le_refl _) _)).tk ⟨W1.heap.size, 0, none⟩ 1 1 [.int .i64 k, .int .i64 (b : Int), .string (bs x), .string y, .string z, .int .i64 o] (by simp [Act.eval]) rfl (World.news_of_block (Go.MapKept.heap_alloc _ _).1) (by simp [Value.oneCell']) (by decide) (by unfold maxLen; omega) (by omega) (Nat.le_trans H2.out.le (by simp)) _ rfl ?_; intro g cap w2 ho hg hG hlt; have hX := H2.out.later (((Below.refl _ _).drew).alloc (Nat.le_refl _) (.cells #[.int .i64 k, .int .i64 (b : Int), .string (bs x), .string y, .string z, .int .i64 o] 101)); have HG3 := Lib.hid (hX.growTk ho hg); have HK3 := Lib.hid (HT2.out.later (((hX.growTk ho hg).2.2 T (Nat.lt_of_lt_of_le HT2.out.lt (by simp)) (HT2.out.ne H2.out.sc) HNT.out).trans ((((Below.refl _ _).drew).alloc (Nat.le_refl _) _).block T HT2.out.lt))); have HN3 := Lib.hid (nr_of (T := T) hG (Nat.le_trans (Nat.le_of_lt HT2.out.lt) (by simp))); have q5 := (hX.scTk hg).fields.2.2.2.2.2.1; have qf := (hX.scTk hg).frozen 5; clear ho hg hG hlt hX)
  all_goals exact TAIL _ _ _ HG3.out.1 ((Bw.below (((Below.refl _ W1).drew).alloc (Nat.le_refl _) _) H2.out.le).trans ⟨HG3.out.2.1, fun T' h1 h2 h3 _ => HG3.out.2.2 T' h1 h2 h3⟩) HN3 HK3

end Go.Proofs.YtaocbhfehncdcaaGreatDoor
