/-
  More on rows of integers. No condition.
-/
import Derived.Test.YtdjpjknbbedamaaKn
namespace Go.Proofs.Ytdjpjknbbedamaa
open Go.RowKit

theorem form_any {E : TypeId} {b n : Nat} {xs : List Value} {w : World} {v : Value} (h : w.ownsRow b E 1 v n xs) : ∃ ao cv, v = .slice ao n cv := by
  rcases h.2 with ⟨hv, h0⟩ | ⟨g, cap, _, hv, _⟩
  · exact ⟨none, 0, by rw [hv, h0]⟩
  · exact ⟨_, cap, hv⟩
theorem up_one (c : Nat) : up [c] = [(c : Int)] := rfl
theorem news_of {w : World} {g : Nat} {L : List Int} (h : ∀ j (h : j < L.length), w.cell? ⟨g, j, none⟩ = some (.int .i64 L[j])) : ∀ j u, (L.map (Value.int .i64))[j]? = some u → w.cell? ((⟨g, 0, none⟩ : Addr).add j) = some u := by
  intro j u hu
  rw [List.getElem?_map] at hu
  by_cases hj : j < L.length
  · rw [List.getElem?_eq_getElem hj] at hu
    simp only [Option.map_some, Option.some.injEq] at hu
    subst hu
    rw [add_zero_addr]
    exact h j hj
  · rw [List.getElem?_eq_none (by omega)] at hu
    cases hu

theorem row_cells {E : TypeId} {k : IntKind} {B : Nat} {v : Value} {L : List Int} {w : World} (h : Row E k B v L w) : ∃ ao cv, v = .slice ao L.length cv ∧ ∀ w', Below w.heap.size w w' → ∀ j (hj : j < L.length), ∃ b o, ao = some ⟨b, o, none⟩ ∧ w'.cell? ⟨b, o + j, none⟩ = some (.int k L[j]) := by
  obtain ⟨ao, cv, h1, h2, h3⟩ := h.rd
  refine ⟨ao, cv, h1, fun w' hb j hj => ?_⟩
  obtain ⟨b, o, e, hlt, hc⟩ := h3 (by omega)
  refine ⟨b, o, e, ?_⟩
  rw [hb.cell (p := ⟨b, o + j, none⟩) hlt]
  exact hc j hj

end Go.Proofs.Ytdjpjknbbedamaa
