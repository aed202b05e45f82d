/-
  The text of characters, as the document writes it (Write). Conditions: characters; at most 140737488355 of them.
-/
import Derived.Test.YtegckpkancbnmaaDoorWr
namespace Go.Proofs.YtegckpkancbnmaaDoor
open Go.RowKit

theorem byteCells_app (l m : List UInt8) : Lib.byteCells (l ++ m) = Lib.byteCells l ++ Lib.strCells (bs m) := by
  simp [Lib.byteCells, Lib.strCells, bs]
/-- A row of bytes. -/
def Bytes (B : Nat) (v : Value) (l : List UInt8) (w : World) : Prop := w.ownsRow B 5 1 v l.length (Lib.byteCells l)
theorem Bytes.form {B : Nat} {v : Value} {l : List UInt8} {w : World} (h : Bytes B v l w) : ∃ ao cv, v = .slice ao l.length cv := by
  rcases h.2 with ⟨hv, h0⟩ | ⟨g, cap, cur, hv, _⟩
  · exact ⟨none, 0, by rw [hv, h0]⟩
  · exact ⟨_, cap, hv⟩
theorem Bytes.back {B : Nat} {v : Value} {l : List UInt8} {w : World} (h : Bytes B v l w) : (convert 43 9 v).run Tryd.prog w = .ok (.string (bs l)) w := by
  rcases h.2 with ⟨hv, h0⟩ | ⟨g, cap, cur, hv, _⟩
  · have hl : l = [] := List.eq_nil_of_length_eq_zero h0
    subst hl
    rw [hv, run_convert_bytes_string w _ _ 5 none 0 0 Tryd.underlying43 Tryd.underlying5 Tryd.underlying9]
    rfl
  · have hc := h.cells (g := g) (by rw [hv]; rfl)
    subst hv
    refine run_convert_bytes_back _ _ _ 5 _ _ l Tryd.underlying43 Tryd.underlying5 Tryd.underlying9 ?_
    intro j hj
    refine hc j _ ?_
    simp [Lib.byteCells, hj]

theorem ens_len_take (L : List Nat) (k : Nat) : (ens (L.take k)).length ≤ 4 * k := by
  have h1 := (ens_length_le (L.take k)).2
  have h2 : (L.take k).length ≤ k := by rw [List.length_take]; omega
  omega

end Go.Proofs.YtegckpkancbnmaaDoor
