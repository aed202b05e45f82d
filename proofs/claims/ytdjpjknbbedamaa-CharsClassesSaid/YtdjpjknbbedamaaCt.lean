/-
  The spans of a class, cut off at a character. No condition.
-/
import Derived.Test.YtdjpjknbbedamaaCk
namespace Go.Proofs.Ytdjpjknbbedamaa
open Go.RowKit

def cutS : List (Nat × Nat) → Nat → List (Nat × Nat)
  | [], _ => []
  | (a, b) :: l, c => if c ≤ a then [] else if c ≤ b then [(a, c - 1)] else (a, b) :: cutS l c
def Sep : List (Nat × Nat) → Prop
  | [] => True
  | (a, b) :: l => a ≤ b ∧ (∀ p ∈ l, b + 1 < p.1) ∧ Sep l

theorem inS_cons (a b : Nat) (l : List (Nat × Nat)) (c : Nat) : inS ((a, b) :: l) c = (decide (a ≤ c ∧ c ≤ b) || inS l c) := by
  simp only [inS, List.any_cons]
  congr 1
  exact decide_eq_decide.2 (by omega)
theorem cut_before (l : List (Nat × Nat)) (c : Nat) (h : ∀ p ∈ l, c < p.1) : inS l c = false ∧ cutS l c = [] ∧ cutS l (c + 1) = [] := by
  cases l with
  | nil => exact ⟨rfl, rfl, rfl⟩
  | cons p l =>
    obtain ⟨a, b⟩ := p
    have ha : c < a := h _ List.mem_cons_self
    refine ⟨?_, ?_, ?_⟩
    · show List.any _ _ = false
      rw [List.any_eq_false]
      intro q hq
      have := h q hq
      simp only [decide_eq_true_eq]
      omega
    · rw [cutS, if_pos (by omega)]
    · rw [cutS, if_pos (by omega)]
theorem cut_all (l : List (Nat × Nat)) (c : Nat) (h : ∀ p ∈ l, p.1 ≤ p.2 ∧ p.2 < c) : cutS l c = l := by
  induction l with
  | nil => rfl
  | cons p l ih =>
    obtain ⟨a, b⟩ := p
    have hab := h (a, b) List.mem_cons_self
    simp only at hab
    rw [cutS, if_neg (by omega), if_neg (by omega), ih (fun q hq => h q (List.mem_cons_of_mem _ hq))]
theorem cut_step (l : List (Nat × Nat)) (hs : Sep l) (c : Nat) :
    (inS l c = false ∧ cutS l (c + 1) = cutS l c) ∨
    (inS l c = true ∧ ((∃ A a y, cutS l c = A ++ [(a, y)] ∧ y + 1 = c ∧ cutS l (c + 1) = A ++ [(a, c)]) ∨
      ((∀ A x y, cutS l c = A ++ [(x, y)] → y + 1 < c) ∧ cutS l (c + 1) = cutS l c ++ [(c, c)] ∧ ∃ p ∈ l, p.1 = c))) := by
  induction l with
  | nil => exact .inl ⟨rfl, rfl⟩
  | cons p l ih =>
    obtain ⟨a, b⟩ := p
    obtain ⟨hab, hl, hs'⟩ := hs
    by_cases h1 : c < a
    · obtain ⟨e1, e2, e3⟩ := cut_before ((a, b) :: l) c (fun q hq => by
        rcases List.mem_cons.1 hq with rfl | hq
        · exact h1
        · have := hl q hq; omega)
      exact .inl ⟨e1, by rw [e2, e3]⟩
    by_cases h2 : c ≤ b
    · refine .inr ⟨by rw [inS_cons, decide_eq_true (by omega), Bool.true_or], ?_⟩
      have hb4 := cut_before l (b + 1) (fun q hq => by have := hl q hq; omega)
      by_cases h3 : c = a
      · subst h3
        have e0 : cutS ((c, b) :: l) c = [] := by rw [cutS, if_pos (by omega)]
        have e1 : cutS ((c, b) :: l) (c + 1) = [(c, c)] := by
          rw [cutS, if_neg (by omega)]
          by_cases h4 : c + 1 ≤ b
          · rw [if_pos h4]; rfl
          · rw [if_neg h4]
            obtain rfl : b = c := by omega
            rw [hb4.2.1]
        refine .inr ⟨fun A x y e => ?_, by rw [e0, e1]; rfl, _, List.mem_cons_self, rfl⟩
        rw [e0] at e
        simp at e
      · refine .inl ⟨[], a, c - 1, ?_, by omega, ?_⟩
        · rw [cutS, if_neg (by omega), if_pos h2]; rfl
        · rw [cutS, if_neg (by omega)]
          by_cases h4 : c + 1 ≤ b
          · rw [if_pos h4]; rfl
          · rw [if_neg h4]
            obtain rfl : b = c := by omega
            rw [hb4.2.1]; rfl
    · have e0 : cutS ((a, b) :: l) c = (a, b) :: cutS l c := by rw [cutS, if_neg (by omega), if_neg h2]
      have e1 : cutS ((a, b) :: l) (c + 1) = (a, b) :: cutS l (c + 1) := by rw [cutS, if_neg (by omega), if_neg (by omega)]
      have e2 : inS ((a, b) :: l) c = inS l c := by rw [inS_cons, decide_eq_false (by omega), Bool.false_or]
      rw [e0, e1, e2]
      rcases ih hs' with ⟨f1, f2⟩ | ⟨f1, ⟨A, x, y, f2, f3, f4⟩ | ⟨f2, f3, p, f4, f5⟩⟩
      · exact .inl ⟨f1, by rw [f2]⟩
      · exact .inr ⟨f1, .inl ⟨(a, b) :: A, x, y, by rw [f2]; rfl, f3, by rw [f4]; rfl⟩⟩
      · refine .inr ⟨f1, .inr ⟨fun A x y e => ?_, by rw [f3]; rfl, p, List.mem_cons_of_mem _ f4, f5⟩⟩
        cases A with
        | nil =>
          simp only [List.nil_append, List.cons.injEq, Prod.mk.injEq] at e
          have := hl p f4
          omega
        | cons q A =>
          simp only [List.cons_append, List.cons.injEq] at e
          exact f2 A x y e.2
theorem clS_sep (i : Nat) (hi : i < 8) : Sep (clS i) := by
  match i, hi with
  | 0, _ => simp [Sep, clS]
  | 1, _ => simp [Sep, clS]
  | 2, _ => simp [Sep, clS]
  | 3, _ => simp [Sep, clS]
  | 4, _ => simp [Sep, clS]
  | 5, _ => simp [Sep, clS]
  | 6, _ => simp [Sep, clS]
  | 7, _ => simp [Sep, clS]
theorem clS_cut (i : Nat) (hi : i < 7) : cutS (clS i) 65536 = clS i := by
  refine cut_all _ _ ?_
  match i, hi with
  | 0, _ => decide
  | 1, _ => decide
  | 2, _ => decide
  | 3, _ => decide
  | 4, _ => decide
  | 5, _ => decide
  | 6, _ => decide

end Go.Proofs.Ytdjpjknbbedamaa
