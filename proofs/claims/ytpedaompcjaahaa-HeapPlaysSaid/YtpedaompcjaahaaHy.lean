/-
  add of the program's heap: a cell more, and noted. Conditions: fewer than 100 cells; a heap's size (phi) below 2^20.
-/
import Derived.Test.YtpedaompcjaahaaHx
namespace Go.Proofs.Ytpedaompcjaahaa
open Go.RowKit

theorem info_cell : (Try.prog.info? 85).map (fun i => (i.zero, i.size, i.bytes)) = some (some (.agg #[.int .i64 0, .int .i64 0, .int .i64 0, .int .i64 0, .int .i64 0, .int .i64 0, .int .i64 0, .int .i64 0, .int .i64 0, .int .i64 0, .int .i64 0, .int .i64 0, .int .i64 0, .int .i64 0, .int .i64 0, .int .i64 0, .int .i64 0, .bool false, .bool false, .bool false, .int .i64 0, .int .i64 0]), 22, 160) := by kernel_rfl
def newCell (f : Nat) (wt : Bool) : List Value := [.int .i64 0, .int .i64 0, .int .i64 0, .int .i64 0, .int .i64 0, .int .i64 0, .int .i64 0, .int .i64 0, .int .i64 0, .int .i64 0, .int .i64 0, .int .i64 0, .int .i64 0, .int .i64 0, .int .i64 0, .int .i64 0, .int .i64 (f : Nat), .bool wt, .bool false, .bool false, .int .i64 0, .int .i64 0]
theorem newCell_at (f : Nat) (wt : Bool) (j : Nat) (hj : j < 22) : (newCell f wt)[j]? = some (if j = 16 then .int .i64 (f : Nat) else if j = 17 then .bool wt else if j = 18 then .bool false else if j = 19 then .bool false else .int .i64 0) := by
  have : j = 0 ∨ j = 1 ∨ j = 2 ∨ j = 3 ∨ j = 4 ∨ j = 5 ∨ j = 6 ∨ j = 7 ∨ j = 8 ∨ j = 9 ∨ j = 10 ∨ j = 11 ∨ j = 12 ∨ j = 13 ∨ j = 14 ∨ j = 15 ∨ j = 16 ∨ j = 17 ∨ j = 18 ∨ j = 19 ∨ j = 20 ∨ j = 21 := by omega
  rcases this with rfl | rfl | rfl | rfl | rfl | rfl | rfl | rfl | rfl | rfl | rfl | rfl | rfl | rfl | rfl | rfl | rfl | rfl | rfl | rfl | rfl | rfl <;> rfl
theorem newCell_one (f : Nat) (wt : Bool) : ∀ u ∈ newCell f wt, u.oneCell' = true := by
  intro u hu
  simp [newCell] at hu
  rcases hu with h | h | h | h | h <;> (rw [h]; rfl)
/-- A cell more. -/
theorem at_make {S : Nat → Prop} {b : Nat} {s1 s2 : Int} {cs : List Cl} {ct : Nat → Int} {ns : List Nat} {w : World} (h : St S b s1 s2 cs ct ns w) {vc : Value} (hc : w.cell? ⟨b, 4, none⟩ = some vc) (f : Nat) (wt : Bool) (hl : cs.length ≤ 100) (H : Nat) (hH : w.heap.size = H) :
    ∃ ao m c w', (Builtin.append_ #[68, 68] 68 #[vc, .slice (some ⟨H, 0, none⟩) 1 1]).run Try.prog (w.alloc (.cells #[.int .i64 0, .int .i64 0, .int .i64 0, .int .i64 0, .int .i64 0, .int .i64 0, .int .i64 0, .int .i64 0, .int .i64 0, .int .i64 0, .int .i64 0, .int .i64 0, .int .i64 0, .int .i64 0, .int .i64 0, .int .i64 0, .int .i64 (f : Nat), .bool wt, .bool false, .bool false, .int .i64 0, .int .i64 0] 85)) = .ok (.slice ao m c) w' ∧ w'.cell? ⟨b, 4, none⟩ = some vc ∧ w'.frozen? ⟨b, 4, none⟩ = false ∧
      St (New S w.heap.size) b s1 s2 (cs ++ [⟨List.replicate f (0, 0), wt, false, false, 0⟩]) (up ct cs.length 0) ns (w'.setCell ⟨b, 4, none⟩ (.slice ao m c)) ∧ Kp S w (w'.setCell ⟨b, 4, none⟩ (.slice ao m c)) ∧ (∀ vn, w.cell? ⟨b, 5, none⟩ = some vn → (w'.setCell ⟨b, 4, none⟩ (.slice ao m c)).cell? ⟨b, 5, none⟩ = some vn) ∧ H < w'.heap.size ∧ b < w'.heap.size := by
  subst hH
  have hw0 : w.alloc (.cells #[.int .i64 0, .int .i64 0, .int .i64 0, .int .i64 0, .int .i64 0, .int .i64 0, .int .i64 0, .int .i64 0, .int .i64 0, .int .i64 0, .int .i64 0, .int .i64 0, .int .i64 0, .int .i64 0, .int .i64 0, .int .i64 0, .int .i64 (f : Nat), .bool wt, .bool false, .bool false, .int .i64 0, .int .i64 0] 85) = w.alloc (.cells (newCell f wt).toArray 85) := rfl
  rw [hw0]
  have ha : St S b s1 s2 cs ct ns (w.alloc (.cells (newCell f wt).toArray 85)) := h.move fun g a c => ⟨Below.heap_alloc w _ g c, a⟩
  obtain ⟨hb, vc', vn, h1, h2, h3⟩ := ha
  have hbw : b < w.heap.size := by
    obtain ⟨_, _, _, k, _⟩ := h
    exact (Array.getElem?_eq_some_iff.1 k).1
  have hcv : (w.alloc (.cells (newCell f wt).toArray 85)).cell? ⟨b, 4, none⟩ = some vc := by
    rw [World.cell?_of_block (w := w) (Below.heap_alloc w _ b hbw)]
    exact hc
  have e : vc' = vc := by
    have : (w.alloc (.cells (newCell f wt).toArray 85)).cell? ⟨b, 4, none⟩ = some vc' := by simp [World.cell?, h1]
    rw [this] at hcv
    exact Option.some.inj hcv
  subst e
  obtain ⟨i, hi, hz, hsz, hby⟩ := info_of info_cell
  have hne := fun g hg => h2.ne h1 (by decide) (g := g) hg
  have hnr := fun g g' hg hg' => h2.nr h3 (g := g) (g' := g') hg hg'
  obtain ⟨xs, r1, r2, r3⟩ := h2
  obtain ⟨v', w', hr, ho, hg, _, hat⟩ := run_append_own_at (P := Try.prog) _ 0 68 68 85 i _ 22 160 Try.underlying68 hi hz hsz hby rfl (by decide) vc' cs.length xs r1 ⟨w.heap.size, 0, none⟩ 1 1 (newCell f wt) rfl (fun j u hj => by
    rw [Addr.add_lit, Nat.zero_add]
    have hn : (w.alloc (.cells (newCell f wt).toArray 85)).heap[w.heap.size]? = some (.cells (newCell f wt).toArray 85 (0, 0)) := heap_alloc_new w _
    rw [cell_of_row _ _ _ _ _ _ hn]
    simpa using hj) (newCell_one f wt) (by simp [maxLen]; omega) (by omega) (Nat.zero_le _)
  rcases ho.2 with ⟨_, h0⟩ | ⟨g, cap, cur, rfl, _, hgc, _⟩
  · omega
  have hsb : some b ≠ vc'.ownBlock := fun e => hne b e.symm rfl
  have hblt : b < (w.alloc (.cells (newCell f wt).toArray 85)).heap.size := (Array.getElem?_eq_some_iff.1 h1).1
  have hb1 := hg.block b hblt hsb
  have hgb : g ≠ b := blocks_ne hgc (hb1.trans h1) (by decide)
  have hgS : New S w.heap.size g := by
    rcases hat with hat | hat
    · exact Or.inl (r3 g hat.symm)
    · simp [Value.ownBlock] at hat
      exact Or.inr (by omega)
  have hn3 : Rn S vn ns w' := h3.move fun g' a c e => ⟨hg.block g' c (fun e' => hnr g' g' e'.symm e rfl), a⟩
  refine ⟨_, _, _, w', hr, (World.cell?_of_block (a := ⟨b, 4, none⟩) hb1).trans hcv, (World.frozen?_of_block (a := ⟨b, 4, none⟩) hb1).trans (by simp [World.frozen?, h1]), ?_, ?_, ?_, ?_, ?_⟩
  · refine ⟨Or.inl hb, _, vn, heap_setCell_same w' b 4 _ _ _ (hb1.trans h1), ⟨xs ++ newCell f wt, ?_, ?_, ?_⟩, ?_⟩
    · rw [List.length_append]
      exact row_keep ho fun g' e => Below.heap_setCell w' ⟨b, 4, none⟩ _ g' (by simp [Value.ownBlock] at e; subst e; exact hgb)
    · intro a j haj hj
      rw [pcv_app]
      have hxl : xs.length = cs.length * 22 := r1.1
      rw [List.length_append] at haj
      by_cases ha : a = cs.length
      · rw [if_pos ha, ha, List.getElem?_append_right (by omega), hxl, show cs.length * 22 + j - cs.length * 22 = j by omega]
        exact newCell_at f wt j hj
      · have : a < cs.length := by simp at haj; omega
        rw [if_neg ha, List.getElem?_append_left (by omega)]
        exact r2 a j this hj
    · intro g' e
      simp [Value.ownBlock] at e
      subst e
      exact hgS
    · exact hn3.move fun g' a _ e => ⟨Below.heap_setCell w' ⟨b, 4, none⟩ _ g' (hn3.ne (hb1.trans h1) (by decide) e), Or.inl a⟩
  · exact (((Kp.refl S w).alloc _).grown hg fun k e _ => r3 k e).set (Or.inl hb) _
  · intro vn' hv
    rw [World.cell?_setCell_other _ _ _ _ (by simp), World.cell?_of_block (a := ⟨b, 5, none⟩) hb1, World.cell?_of_block (w := w) (Below.heap_alloc w _ b hbw)]
    exact hv
  · exact Nat.lt_of_lt_of_le (by simp) hg.size
  · exact Nat.lt_of_lt_of_le hblt hg.size

set_option maxRecDepth 100000 in
set_option maxHeartbeats 1600000 in
theorem add_hp (S : Nat → Prop) (b : Nat) (s1 s2 : Int) (h : Hp) (f : Nat) (wt : Bool) (w : World) (hs : SH S b s1 s2 h w) (H : Good h) (hl : h.cs.length < 100) (hp : phi h ≤ 1000000) :
    Calls Try.prog 68 #[.pointer (some ⟨b, 4, none⟩), .int .i64 (f : Int), .bool wt] w fun e w' => e = .returned (.int .i64 (h.cs.length : Int)) ∧ SH (New S w.heap.size) b s1 s2 (makeF h f wt) w' ∧ Kp S w w' := by
  have hb := cnt_small hp 0
  obtain ⟨vc, vn, _, _, h4, h5, hf, hbl, hSb, hC, hN⟩ := hs.open
  obtain ⟨ao0, cap0, rfl⟩ := hC.form
  obtain ⟨ao1, m1, c1, w1, hr1, x4, x4f, q1, k1, x5, hlt1, hblt1⟩ := at_make hs h4 f wt (by omega) w.heap.size rfl
  obtain ⟨ao2, m2, c2, w2, hr2, y5, y5f, q2, k2⟩ := at_note q1 (x5 vn h5) h.cs.length hb.2.2.2 w1.heap.size (by simp [World.setCell])
  have y5' := x5 vn h5
  have hP : Hid (SH (New S w.heap.size) b s1 s2 (makeF h f wt) (w2.setCell ⟨b, 5, none⟩ (.slice ao2 m2 c2)) ∧ Kp S w (w2.setCell ⟨b, 5, none⟩ (.slice ao2 m2 c2))) := by
    refine ⟨?_, k1.then k2⟩
    refine St.wide (S := New (New S w.heap.size) (w1.setCell ⟨b, 4, none⟩ (.slice ao1 m1 c1)).heap.size) (q2.count fun i hi => ?_) (fun g a _ => a.elim id fun a => Or.inr (Nat.le_trans k1.size a))
    show ((cnt (h.cs ++ [⟨List.replicate f (0, 0), wt, false, false, 0⟩]) i : Nat) : Int) = if i = h.cs.length then 0 else ((cnt h.cs i : Nat) : Int)
    have h0 : ∀ n, strong n ⟨List.replicate f (0, 0), wt, false, false, 0⟩ = 0 := fun n => by
      unfold strong
      simp [List.countP_replicate]
    rw [List.length_append] at hi
    simp at hi
    rw [cnt_app h.cs _ h0 rfl i (by omega)]
    split
    · rename_i e
      rw [e, cnt_none H]
      rfl
    · rfl
  have f5 : (w1.setCell ⟨b, 4, none⟩ (.slice ao1 m1 c1)).frozen? ⟨b, 5, none⟩ = false := by
    obtain ⟨_, _, _, _, _, _, k, _⟩ := q1.open
    exact k 5
  clear q1 q2 k1 k2 hs hC hN hp x5
  generalize h.cs.length = L at *
  go_enter Try.func68, Try.ntmps68
  go_wp2_with (first | (at_builtin; refine wpList_append_is _ rfl _ _ 68 rfl _ _ (.slice ao1 m1 c1) w1 rfl rfl hr1 ?_) | (at_builtin; refine wpList_append_is _ rfl _ _ 28 rfl _ _ (.slice ao2 m2 c2) w2 rfl rfl hr2 ?_))
  go_ret
  exact ⟨rfl, hP.out⟩

end Go.Proofs.Ytpedaompcjaahaa
