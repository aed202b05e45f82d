/-
  Make of the document's heap. Conditions: a heap's size (phi) below 2^20.
-/
import Derived.Test.YtpedaompcjaahaaRg
namespace Go.Proofs.Ytpedaompcjaahaa
open Go.RowKit

theorem Rf.form {S : Nat → Prop} {v : Value} {k : Nat} {w : World} (h : Rf S v (List.replicate k (0, 0)) w) : ∃ ao cap, v = .slice ao k cap := by
  obtain ⟨ys, y1, _⟩ := h
  rw [List.length_replicate] at y1
  rcases y1.2 with ⟨e, e2⟩ | ⟨_, cap, _, e, _⟩
  · exact ⟨none, 0, by rw [e, e2]⟩
  · exact ⟨_, _, e⟩
set_option maxRecDepth 100000 in
set_option maxHeartbeats 4000000 in
theorem rMake_hp (S : Nat → Prop) (r : Nat) (h : Hp) (f : Int) (wt : Bool) (w : World) (hs : RH S r h w) (_ : Good h) (hp : phi h ≤ 1000000) :
    Calls Try.prog 38 #[.pointer (some ⟨r, 0, none⟩), .int .i64 f, .bool wt] w (RoP S r (makeR h f wt).1 (.tuple #[.int .i64 (makeR h f wt).2.1, .int .i64 (makeR h f wt).2.2]) w) := by
  have hX : Hid (∀ v, RoP S r h v w (.returned v) w) := fun v => ⟨rfl, hs.wide fun g a _ => Or.inl a, Kp.refl S w⟩
  obtain ⟨vc, vn, fv, hI⟩ := hs.tight
  obtain ⟨c0, _, hfr, hrl, ao, cap, rfl⟩ := hI.open
  by_cases h1 : f < 0 ∨ 8 < f
  · have hm : makeR h f wt = (h, 0, 1) := if_pos h1
    rw [hm]
    clear hm hI hs
    by_cases h2 : f < 0
    · clear h1
      go_enter Try.func38, Try.ntmps38
      go_wp2
      go_ret2
      exact hX.out _
    · have h3 := h1.resolve_left h2
      clear h1
      go_enter Try.func38, Try.ntmps38
      go_wp2
      go_ret2
      exact hX.out _
  · have h2 : ¬ f < 0 := fun e => h1 (.inl e)
    have h3 : ¬ 8 < f := fun e => h1 (.inr e)
    by_cases h4 : 100 ≤ h.cs.length
    · have hm : makeR h f wt = (h, 0, 3) := (if_neg h1).trans (if_pos h4)
      rw [hm]
      have h5 : (100 : Int) ≤ ((h.cs.length : Nat) : Int) := by omega
      clear hm hI hs h1 h4
      go_enter Try.func38, Try.ntmps38
      go_wp2
      go_ret2
      exact hX.out _
    · have hm : makeR h f wt = (makeF h f.toNat wt, (h.cs.length : Int), 0) := (if_neg h1).trans (if_neg h4)
      rw [hm]
      obtain ⟨F, rfl⟩ : ∃ F : Nat, f = (F : Int) := ⟨f.toNat, by omega⟩
      rw [Int.toNat_natCast]
      have hF8 : F ≤ 8 := by omega
      have h5 : ¬ (100 : Int) ≤ ((h.cs.length : Nat) : Int) := by omega
      have hb := (cnt_small hp 0).2.2.2
      have hmk : Hid (makeF h F wt = ⟨h.cs ++ [⟨List.replicate F (0, 0), wt, false, false, 0⟩], h.ns ++ [h.cs.length]⟩) := rfl
      have hRS : Hid (RS (fun g => S g ∧ g < w.heap.size) r h.cs h.ns w) := ⟨_, _, _, hI⟩
      have hF0 : Hid (Rf (fun g => w.heap.size + 1 ≤ g) (.slice none 0 0) (List.replicate 0 (0, 0)) (w.alloc (.cells #[.slice none 0 0, .bool wt, .bool false, .bool false, .int .i64 0] 78))) := ⟨[], World.ownsRow_nil _ _ _ _, fun k hk => by simp at hk, fun g e => by simp [Value.ownBlock] at e⟩
      have hL0 : Hid ((w.alloc (.cells #[.slice none 0 0, .bool wt, .bool false, .bool false, .int .i64 0] 78)).heap[w.heap.size]? = some (.cells #[.slice none 0 0, .bool wt, .bool false, .bool false, .int .i64 0] 78 (0, 0))) := heap_alloc_new w _
      have hB0 : Hid (Below w.heap.size w (w.alloc (.cells #[.slice none 0 0, .bool wt, .bool false, .bool false, .int .i64 0] 78))) := (Below.refl _ _).alloc (Nat.le_refl _) _
      have few : h.cs.length ≤ 100 := by omega
      clear hm h1 h4 hI hs hX
      generalize makeF h F wt = hh at *
      go_enter Try.func38, Try.ntmps38
      go_wp2
      go_loopw [9] (fun iv wr => ∃ k : Nat, k ≤ F ∧ iv = .int .i64 k ∧ ∃ v, Hid (wr.heap[w.heap.size]? = some (.cells #[v, .bool wt, .bool false, .bool false, .int .i64 0] 78 (0, 0))) ∧ Hid (Rf (fun g => w.heap.size + 1 ≤ g) v (List.replicate k (0, 0)) wr) ∧ Hid (Below w.heap.size w wr)) (fun iv _ => F - (intOf iv).toNat)
      case atStart => exact ⟨0, Nat.zero_le _, rfl, _, hL0, hF0, hB0⟩
      case round =>
        clear hL0 hF0 hB0 c0
        obtain ⟨k, hk, rfl, v, hL, hF, hB⟩ := hrel
        obtain ⟨ao1, cap1, rfl⟩ := hF.out.form
        have l0 : wr.cell? ⟨w.heap.size, 0, none⟩ = some (.slice ao1 k cap1) := by
          rw [cell_of_row _ _ _ _ _ _ hL.out]
          rfl
        have hfl : ∀ k, wr.frozen? ⟨w.heap.size, k, none⟩ = false := fun k => frozen_of_row _ _ _ _ _ hL.out
        have hlr := (Array.getElem?_eq_some_iff.1 hL.out).1
        by_cases hlt : k < F
        · obtain ⟨ao2, cap2, w3, hr, hF3, hg3⟩ := at_field (w.heap.size + 1) _ k wr hF.out (by omega) wr.heap.size rfl (by omega)
          have hb3 : w3.heap[w.heap.size]? = some (.cells #[.slice ao1 k cap1, .bool wt, .bool false, .bool false, .int .i64 0] 78 (0, 0)) := by
            rw [hg3.block w.heap.size (by simp; omega) (fun e => by have := (hF.out.type e.symm).1; omega), Below.heap_alloc _ _ _ hlr]
            exact hL.out
          have l3 : w3.cell? ⟨w.heap.size, 0, none⟩ = some (.slice ao1 k cap1) := by
            rw [cell_of_row _ _ _ _ _ _ hb3]
            rfl
          have z3 : w3.frozen? ⟨w.heap.size, 0, none⟩ = false := frozen_of_row _ _ _ _ _ hb3
          have HL : Hid ((w3.setCell ⟨w.heap.size, 0, none⟩ (.slice ao2 (k + 1) cap2)).heap[w.heap.size]? = some (.cells #[.slice ao2 (k + 1) cap2, .bool wt, .bool false, .bool false, .int .i64 0] 78 (0, 0))) := heap_setCell_same w3 w.heap.size 0 _ _ _ hb3
          have HF : Hid (Rf (fun g => w.heap.size + 1 ≤ g) (.slice ao2 (k + 1) cap2) (List.replicate (k + 1) (0, 0)) (w3.setCell ⟨w.heap.size, 0, none⟩ (.slice ao2 (k + 1) cap2))) := hF3.move fun g a _ _ => ⟨Below.heap_setCell _ _ _ _ (by intro e; subst e; exact absurd a (by simp)), a⟩
          have HB : Hid (Below w.heap.size w (w3.setCell ⟨w.heap.size, 0, none⟩ (.slice ao2 (k + 1) cap2))) := ((hB.out.alloc hB.out.size _).grown hg3 (by simp; have := hB.out.size; omega) (fun q e => by have := (hF.out.type e).1; omega)).setCell (p := ⟨w.heap.size, 0, none⟩) (Nat.le_refl _) _
          have hw1 : IntKind.wrap .i64 (((k : Nat) : Int) + 1) = ((k : Nat) : Int) + 1 := wrap_ok (by omega) (by omega)
          clear hF3 hg3 hb3 hL hF hB
          go_wp2_with (at_builtin; refine wpList_append_is _ rfl _ _ 76 rfl (.slice ao1 k cap1) _ (.slice ao2 (k + 1) cap2) w3 rfl rfl hr ?_)
          go_roundw
          case rel => exact ⟨k + 1, by omega, rfl, _, HL, HF, HB⟩
          case measure => simp [intOf]; omega
        · have hkF : k = F := by omega
          subst hkF
          have l1 : wr.cell? ⟨w.heap.size, 1, none⟩ = some (.bool wt) := by
            rw [cell_of_row _ _ _ _ _ _ hL.out]
            rfl
          have l2 : wr.cell? ⟨w.heap.size, 2, none⟩ = some (.bool false) := by
            rw [cell_of_row _ _ _ _ _ _ hL.out]
            rfl
          have l3 : wr.cell? ⟨w.heap.size, 3, none⟩ = some (.bool false) := by
            rw [cell_of_row _ _ _ _ _ _ hL.out]
            rfl
          have l4 : wr.cell? ⟨w.heap.size, 4, none⟩ = some (.int .i64 0) := by
            rw [cell_of_row _ _ _ _ _ _ hL.out]
            rfl
          obtain ⟨vc1, vn1, fv1, hI1⟩ := hRS.out.low hB.out
          have c0 := hI1.open.1
          have hfz := hI1.open.2.2.1
          have hFd : Rf (fun g => w.heap.size + 1 ≤ g) (.slice ao1 k cap1) (List.replicate k (0, 0)) wr.drew := hF.out.move fun g a _ _ => ⟨rfl, a⟩
          obtain ⟨ao4, m4, cap4, w4, hr4, y4, z4, q4, k4⟩ := at_rmake hI1.drew hFd (fun g a b => by have := b.2; omega) wt few wr.heap.size rfl
          generalize hW5 : w4.setCell ⟨r, 0, none⟩ (.slice ao4 m4 cap4) = w5 at *
          obtain ⟨vc5, vn5, fv5, hI5⟩ := q4
          obtain ⟨e0, e1, ez, erl, ao5, cap5, rfl⟩ := hI5.open
          rw [List.length_append] at e0
          simp only [List.length_singleton] at e0
          obtain ⟨ao6, m6, cap6, w6, hr6, y6, z6, q6, k6⟩ := at_rnote hI5.drew h.cs.length hb w5.heap.size rfl
          obtain ⟨vc7, vn7, fv7, hI7⟩ := id q6
          have e7 := hI7.open.1
          obtain ⟨_, _, _, _, ao7, cap7, rfl⟩ := hI7.open
          rw [List.length_append] at e7
          simp only [List.length_singleton] at e7
          have hFin : Hid (RoP S r hh (.tuple #[.int .i64 ((h.cs.length : Nat) : Int), .int .i64 0]) w (.returned (.tuple #[.int .i64 ((h.cs.length : Nat) : Int), .int .i64 0])) (w6.setCell ⟨r, 1, none⟩ (.slice ao6 m6 cap6))) := by
            rw [hmk.out]
            have hBs := hB.out.size
            refine ⟨rfl, q6.wide fun g a _ => ?_, ?_⟩
            · rcases a with a | a
              · rcases a with a | a | a
                · exact Or.inl a.1
                · exact Or.inr (by omega)
                · exact Or.inr (Nat.le_trans hBs a)
              · exact Or.inr (Nat.le_trans (Nat.le_trans hBs k4.size) a)
            · have k5 : Kp S w w5 := (Kp.below hB.out).trans (Kp.drew (S := S).trans k4 fun g _ a => a.1) fun _ _ a => a
              exact (k5.trans Kp.drew fun _ _ a => a).trans k6 fun g hg a => by
                rcases a with a | a | a
                · exact a.1
                · omega
                · exact absurd (Nat.le_trans hBs a) (by omega)
          have hwa : IntKind.wrap .i64 (((h.cs.length : Nat) : Int) + 1 - 1) = ((h.cs.length : Nat) : Int) := by
            rw [wrap_ok (by omega) (by omega)]
            omega
          have hwb : IntKind.wrap .i64 ((h.cs.length : Nat) : Int) = ((h.cs.length : Nat) : Int) := wrap_ok (by omega) (by omega)
          have ez1 := ez 1
          have hrl1 : r < wr.heap.size := hI1.open.2.2.2.1
          have n1 : ¬ r = wr.heap.size := by omega
          have n2 : ¬ wr.heap.size = r := by omega
          have n3 : ¬ w.heap.size = wr.heap.size := by omega
          have n4 : ¬ wr.heap.size = w.heap.size := by omega
          have n5 : ¬ r = w5.heap.size := by omega
          have n6 : ¬ w5.heap.size = r := by omega
          clear q6 k4 k6 hI1 hI5 hI7 hL hF hFd hRS hmk hB few hb
          go_wp2
          go_region_law (refine step_append_is rfl (.tmp 39) (.tmp 41) 27 rfl vc1 (.slice (some ⟨wr.heap.size, 0, none⟩) 1 1) (.slice ao4 m4 cap4) w4 (by simp [Act.eval]) (by simp [Act.eval]) hr4 ?_)
          all_goals go_wp2
          all_goals
            go_region_law (refine step_append_is rfl (.tmp 49) (.tmp 56) 28 rfl vn5 (.slice (some ⟨w5.heap.size, 0, none⟩) 1 1) (.slice ao6 m6 cap6) w6 (by simp [Act.eval]) (by simp [Act.eval]) hr6 ?_)
          all_goals
            go_wp2
            go_ret2
            exact hFin.out

end Go.Proofs.Ytpedaompcjaahaa
