/-
  Make of the document's heap. Conditions: a heap's size (phi) below 2^20.
-/
import Derived.Test.YtpedaompcjaahaaRf
namespace Go.Proofs.Ytpedaompcjaahaa
open Go.RowKit

theorem info_field : (Try.prog.info? 91).map (fun i => (i.zero, i.size, i.bytes)) = some (some (.agg #[.int .i64 0, .bool false, .bool false]), 3, 16) := by kernel_rfl
theorem info_rcell : (Try.prog.info? 78).map (fun i => (i.zero, i.size, i.bytes)) = some (some (.agg #[.slice none 0 0, .bool false, .bool false, .bool false, .int .i64 0]), 5, 40) := by kernel_rfl
theorem news_at (w : World) (c : Array Value) (T : TypeId) (H : Nat) (hH : w.heap.size = H) : ∀ j u, c.toList[j]? = some u → (w.alloc (.cells c T)).cell? ((⟨H, 0, none⟩ : Addr).add j) = some u := by
  intro j u hj
  subst hH
  rw [Addr.add_lit, Nat.zero_add, cell_of_row _ _ _ _ _ _ (heap_alloc_new w _)]
  simpa using hj
/-- A field more, in a row of the call's own. -/
theorem at_field (B : Nat) (v : Value) (k : Nat) (w : World) (h : Rf (fun g => B ≤ g) v (List.replicate k (0, 0)) w) (hk : k ≤ 8) (H : Nat) (hH : w.heap.size = H) (hB : B ≤ w.heap.size) :
    ∃ ao c w', (Builtin.append_ #[76, 76] 76 #[v, .slice (some ⟨H, 0, none⟩) 1 1]).run Try.prog (w.alloc (.cells #[.int .i64 0, .bool false, .bool false] 91)) = .ok (.slice ao (k + 1) c) w' ∧
      Rf (fun g => B ≤ g) (.slice ao (k + 1) c) (List.replicate (k + 1) (0, 0)) w' ∧ (w.alloc (.cells #[.int .i64 0, .bool false, .bool false] 91)).grownBy w' v.ownBlock := by
  obtain ⟨i, hi, hz, hs, hb⟩ := info_of info_field
  obtain ⟨ys, y1, y2, y3⟩ := h
  rw [List.length_replicate] at y1
  have y1' := y1.alloc (.cells #[.int .i64 0, .bool false, .bool false] 91)
  obtain ⟨v', w', hr, ho, hg, _, hat⟩ := run_append_own_at (P := Try.prog) _ 0 76 76 91 i _ 3 16 Try.underlying76 hi hz hs hb rfl (by decide) v k ys y1' ⟨H, 0, none⟩ 1 1 [.int .i64 0, .bool false, .bool false] rfl (news_at w _ _ H hH) (by simp [Value.oneCell']) (by simp [maxLen]; omega) (by omega) (Nat.zero_le _)
  rcases ho.2 with ⟨_, h0⟩ | ⟨g, cap, cur, rfl, _, hgc, _⟩
  · omega
  refine ⟨_, _, w', hr, ⟨ys ++ [.int .i64 0, .bool false, .bool false], by rw [List.length_replicate]; exact ho, fun m hm => ?_, fun g' e => ?_⟩, hg⟩
  · have hyl := y1.1
    rw [List.getElem_replicate]
    rw [List.length_replicate] at hm
    by_cases hmk : m < k
    · have := y2 m (by rw [List.length_replicate]; exact hmk)
      rw [List.getElem_replicate] at this
      rw [List.getElem?_append_left (by omega), List.getElem?_append_left (by omega), List.getElem?_append_left (by omega)]
      exact this
    · have hmk' : m = k := by omega
      subst hmk'
      rw [List.getElem?_append_right (by omega), List.getElem?_append_right (by omega), List.getElem?_append_right (by omega), hyl, show m * 3 - m * 3 = 0 by omega, show m * 3 + 1 - m * 3 = 1 by omega, show m * 3 + 2 - m * 3 = 2 by omega]
      exact ⟨rfl, rfl, rfl⟩
  · simp [Value.ownBlock] at e
    subst e
    rcases hat with hat | hat
    · exact y3 g hat.symm
    · simp [Value.ownBlock] at hat
      show B ≤ g
      omega
/-- A cell more. -/
theorem at_rmake {S T : Nat → Prop} {r : Nat} {cs : List Cl} {ns : List Nat} {vc vn : Value} {fv : Nat → Value} {w : World} (h : RI S r cs ns vc vn fv w) {v : Value} {f : Nat} (hF : Rf T v (List.replicate f (0, 0)) w) (hT : ∀ g, T g → ¬ S g) (wt : Bool) (hl : cs.length ≤ 100) (H : Nat) (hH : w.heap.size = H) :
    ∃ ao m c w', (Builtin.append_ #[27, 27] 27 #[vc, .slice (some ⟨H, 0, none⟩) 1 1]).run Try.prog (w.alloc (.cells #[v, .bool wt, .bool false, .bool false, .int .i64 0] 78)) = .ok (.slice ao m c) w' ∧ w'.cell? ⟨r, 0, none⟩ = some vc ∧ w'.frozen? ⟨r, 0, none⟩ = false ∧
      RS (fun g => S g ∨ T g ∨ w.heap.size ≤ g) r (cs ++ [⟨List.replicate f (0, 0), wt, false, false, 0⟩]) ns (w'.setCell ⟨r, 0, none⟩ (.slice ao m c)) ∧ Kp S w (w'.setCell ⟨r, 0, none⟩ (.slice ao m c)) := by
  obtain ⟨i, hi, hz, hs, hb⟩ := info_of info_rcell
  have hv1 : v.oneCell' = true := by
    obtain ⟨ys, y1, _⟩ := hF
    rcases y1.2 with ⟨e, _⟩ | ⟨_, _, _, e, _⟩ <;> (rw [e]; rfl)
  have ha : RI S r cs ns vc vn fv (w.alloc (.cells #[v, .bool wt, .bool false, .bool false, .int .i64 0] 78)) := h.move fun g a c => ⟨Below.heap_alloc w _ g c, a⟩
  have hFa : Rf T v (List.replicate f (0, 0)) (w.alloc (.cells #[v, .bool wt, .bool false, .bool false, .int .i64 0] 78)) := hF.move fun g a c _ => ⟨Below.heap_alloc w _ g c, a⟩
  have htc := fun g hg => ha.cells.type (g := g) hg
  obtain ⟨xs, x1, x2, x3⟩ := ha.cells
  obtain ⟨v', w', hr, ho, hg, _, hat⟩ := run_append_own_at (P := Try.prog) _ 0 27 27 78 i _ 5 40 Try.underlying27 hi hz hs hb rfl (by decide) vc cs.length xs x1 ⟨H, 0, none⟩ 1 1 [v, .bool wt, .bool false, .bool false, .int .i64 0] rfl (news_at w _ _ H hH) (fun u hu => by
    simp at hu
    rcases hu with e | e | e | e <;> (rw [e]; first | exact hv1 | rfl)) (by simp [maxLen]; omega) (by omega) (Nat.zero_le _)
  rcases ho.2 with ⟨_, h0⟩ | ⟨g, cap, cur, rfl, _, hgc, _⟩
  · omega
  have hne : ∀ {g : Nat} {c : Array Value} {T : TypeId} {f : Nat × Nat}, (w.alloc (.cells #[v, .bool wt, .bool false, .bool false, .int .i64 0] 78)).heap[g]? = some (.cells c T f) → T ≠ 78 → w'.heap[g]? = some (.cells c T f) := fun {g c T f} hc hT => by
    rw [hg.block g (Array.getElem?_eq_some_iff.1 hc).1 (fun e => by
      obtain ⟨_, cur, hc'⟩ := htc g e.symm
      exact blocks_ne hc hc' hT rfl)]
    exact hc
  have hb1 := hne ha.block (by decide)
  have hgr : g ≠ r := blocks_ne hgc hb1 (by decide)
  have hkeep : ∀ g', g' ≠ r → (w'.setCell ⟨r, 0, none⟩ (.slice (some ⟨g, 0, none⟩) (cs.length + 1) cap)).heap[g']? = w'.heap[g']? := fun g' e => Below.heap_setCell _ _ _ _ e
  have hgU : S g ∨ T g ∨ w.heap.size ≤ g := by
    rcases hat with hat | hat
    · exact Or.inl (x3 g hat.symm)
    · simp [Value.ownBlock] at hat
      exact Or.inr (Or.inr (by omega))
  have hfd : ∀ {fs : List (Nat × Nat)} {u : Value} {U : Nat → Prop}, Rf U u fs (w.alloc (.cells #[v, .bool wt, .bool false, .bool false, .int .i64 0] 78)) → (∀ g, U g → S g ∨ T g) → Rf (fun g => S g ∨ T g ∨ w.heap.size ≤ g) u fs (w'.setCell ⟨r, 0, none⟩ (.slice (some ⟨g, 0, none⟩) (cs.length + 1) cap)) := fun {fs u U} hu hU => hu.move fun g' a c e => by
    obtain ⟨_, cur', hc'⟩ := hu.type e
    refine ⟨(hkeep g' (blocks_ne hc' ha.block (by decide))).trans ((hne hc' (by decide)).trans hc'.symm), ?_⟩
    exact (hU g' a).elim Or.inl (fun a => Or.inr (Or.inl a))
  refine ⟨_, _, _, w', hr, by simp [World.cell?, hb1], by simp [World.frozen?, hb1], ⟨_, vn, fun i => if i = cs.length then v else fv i, ⟨Or.inl ha.base, heap_setCell_same w' r 0 _ _ _ hb1, ⟨xs ++ [v, .bool wt, .bool false, .bool false, .int .i64 0], ?_, ?_, ?_⟩, ?_, ?_, ?_⟩⟩, ?_⟩
  · rw [List.length_append]
    exact row_keep ho fun g' e => hkeep g' (by simp [Value.ownBlock] at e; subst e; exact hgr)
  · intro a j haj hj
    have hxl := x1.1
    rw [List.length_append] at haj
    simp at haj
    by_cases haE : a = cs.length
    · subst haE
      rw [List.getElem?_append_right (by omega), hxl, show cs.length * 5 + j - cs.length * 5 = j by omega]
      unfold rcv
      rw [cl_app, if_pos rfl]
      have hj5 : j = 0 ∨ j = 1 ∨ j = 2 ∨ j = 3 ∨ j = 4 := by omega
      rcases hj5 with rfl | rfl | rfl | rfl | rfl <;> simp
    · rw [List.getElem?_append_left (by omega)]
      have := x2 a j (by omega) hj
      rw [this]
      unfold rcv
      rw [cl_app, if_neg haE]
      dsimp only
      rw [if_neg haE]
  · intro g' e
    simp [Value.ownBlock] at e
    subst e
    exact hgU
  · intro a haj
    rw [List.length_append] at haj
    simp at haj
    try dsimp only
    rw [cl_app]
    by_cases haE : a = cs.length
    · rw [if_pos haE, if_pos haE]
      exact hfd hFa fun g a => Or.inr a
    · rw [if_neg haE, if_neg haE]
      exact hfd (ha.fields a (by omega)) fun g a => Or.inl a
  · intro a b g' haj hbj
    rw [List.length_append] at haj hbj
    simp at haj hbj
    try dsimp only
    by_cases haE : a = cs.length
    · by_cases hbE : b = cs.length
      · intros
        omega
      · rw [if_pos haE, if_neg hbE]
        intro e1 e2
        exact absurd ((ha.fields b (by omega)).type e2).1 (hT g' (hFa.type e1).1)
    · by_cases hbE : b = cs.length
      · rw [if_neg haE, if_pos hbE]
        intro e1 e2
        exact absurd ((ha.fields a (by omega)).type e1).1 (hT g' (hFa.type e2).1)
      · rw [if_neg haE, if_neg hbE]
        exact ha.apart a b g' (by omega) (by omega)
  · exact ha.notes.move fun g' a c e => by
      obtain ⟨_, cur', hc'⟩ := ha.notes.type e
      exact ⟨(hkeep g' (blocks_ne hc' ha.block (by decide))).trans ((hne hc' (by decide)).trans hc'.symm), Or.inl a⟩
  · exact (((Kp.refl S w).alloc _).grown hg fun k e _ => x3 k e).set (Or.inl h.base) _

end Go.Proofs.Ytpedaompcjaahaa
