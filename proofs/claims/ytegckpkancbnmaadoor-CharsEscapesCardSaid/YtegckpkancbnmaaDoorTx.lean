/-
  The text of a list of numbers: chars.Text and the document's. Conditions: at most 1000000 numbers.
-/
import Derived.Test.YtegckpkancbnmaaDoorPt
namespace Go.Proofs.YtegckpkancbnmaaDoor
open Go.RowKit

theorem dich (M : List Int) : (∃ L, allC L ∧ M = up L) ∨ (∃ k, ∃ h : k < M.length, isCI M[k] = false ∧ ∀ j (hj : j < k), isCI (M[j]'(by omega)) = true) := by
  induction M with
  | nil => exact .inl ⟨[], fun c h => (by cases h), rfl⟩
  | cons x M ih =>
    cases hx : isCI x
    · exact .inr ⟨0, by simp, hx, fun j hj => absurd hj (Nat.not_lt_zero j)⟩
    · rcases ih with ⟨L, hC, rfl⟩ | ⟨k, h, h1, h2⟩
      · left
        obtain ⟨n, rfl⟩ := Int.eq_ofNat_of_zero_le (isCI_iff.1 hx).1
        refine ⟨n :: L, ?_, rfl⟩
        intro c hc
        rcases List.mem_cons.1 hc with rfl | hc
        · rw [← isCI_nat]
          exact hx
        · exact hC c hc
      · right
        refine ⟨k + 1, by simpa using h, h1, ?_⟩
        intro j hj
        match j, hj with
        | 0, _ => exact hx
        | j + 1, hj => exact h2 j (by omega)





end Go.Proofs.YtegckpkancbnmaaDoor
