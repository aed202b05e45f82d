/-
  A class is there or it isn't; chars.Is, the document's Is. No condition.
-/
import Derived.Test.YtdjpjknbbedamaaCi
namespace Go.Proofs.Ytdjpjknbbedamaa
open Go.RowKit

theorem beq_no {s t : ByteArray} (h : s ≠ t) : (s == t) = false := by
  cases s with | mk a => cases t with | mk b =>
  show (a == b) = false
  rw [beq_eq_false_iff_ne]
  exact fun e => h (by rw [e])
theorem cl_cases (s : ByteArray) : (findS s tab = none ∧ ∀ i, i < 8 → s ≠ clN i) ∨ ∃ i, i < 8 ∧ s = clN i := by
  by_cases h0 : s = clN 0
  · exact .inr ⟨0, by decide, h0⟩
  by_cases h1 : s = clN 1
  · exact .inr ⟨1, by decide, h1⟩
  by_cases h2 : s = clN 2
  · exact .inr ⟨2, by decide, h2⟩
  by_cases h3 : s = clN 3
  · exact .inr ⟨3, by decide, h3⟩
  by_cases h4 : s = clN 4
  · exact .inr ⟨4, by decide, h4⟩
  by_cases h5 : s = clN 5
  · exact .inr ⟨5, by decide, h5⟩
  by_cases h6 : s = clN 6
  · exact .inr ⟨6, by decide, h6⟩
  by_cases h7 : s = clN 7
  · exact .inr ⟨7, by decide, h7⟩
  refine .inl ⟨?_, fun i hi => ?_⟩
  · simp only [findS, tab, beq_no h0, beq_no h1, beq_no h2, beq_no h3, beq_no h4, beq_no h5, beq_no h6, beq_no h7, Bool.false_eq_true, if_false]
  · match i, hi with
    | 0, _ => exact h0
    | 1, _ => exact h1
    | 2, _ => exact h2
    | 3, _ => exact h3
    | 4, _ => exact h4
    | 5, _ => exact h5
    | 6, _ => exact h6
    | 7, _ => exact h7
theorem find_at (i : Nat) (hi : i < 8) : findS (clN i) tab = some (rowV (clS i)) := by
  match i, hi with
  | 0, _ => rfl
  | 1, _ => rfl
  | 2, _ => rfl
  | 3, _ => rfl
  | 4, _ => rfl
  | 5, _ => rfl
  | 6, _ => rfl
  | 7, _ => rfl
theorem clS_len (i : Nat) (hi : i < 8) : (clS i).length ≤ 22 := by
  match i, hi with
  | 0, _ => exact by decide
  | 1, _ => exact by decide
  | 2, _ => exact by decide
  | 3, _ => exact by decide
  | 4, _ => exact by decide
  | 5, _ => exact by decide
  | 6, _ => exact by decide
  | 7, _ => exact by decide
theorem clS_ne (i : Nat) (hi : i < 8) : ∀ p ∈ clS i, p.2 ≠ 0 := by
  match i, hi with
  | 0, _ => exact by decide
  | 1, _ => exact by decide
  | 2, _ => exact by decide
  | 3, _ => exact by decide
  | 4, _ => exact by decide
  | 5, _ => exact by decide
  | 6, _ => exact by decide
  | 7, _ => exact by decide
theorem ne_lit {s t : ByteArray} (h : s ≠ t) : (s.toList == t.toList) = false := by
  rw [beq_eq_false_iff_ne]
  intro e
  rw [Lib.toList_data, Lib.toList_data] at e
  apply h
  rw [← bs_of s, ← bs_of t, e]
set_option maxRecDepth 100000 in
theorem IsClass_no (s : ByteArray) (h : ∀ i, i < 8 → s ≠ clN i) (w : World) : Calls Try.prog 55 #[.string s] w (BoolS false w) := by
  have h0 : (s.toList == [117, 112, 112, 101, 114]) = false := by
    have e := ne_lit (h 0 (by decide))
    rwa [show (clN 0).toList = [117, 112, 112, 101, 114] by rw [Lib.toList_data]; rfl] at e
  have h1 : (s.toList == [108, 111, 119, 101, 114]) = false := by
    have e := ne_lit (h 1 (by decide))
    rwa [show (clN 1).toList = [108, 111, 119, 101, 114] by rw [Lib.toList_data]; rfl] at e
  have h2 : (s.toList == [108, 101, 116, 116, 101, 114]) = false := by
    have e := ne_lit (h 2 (by decide))
    rwa [show (clN 2).toList = [108, 101, 116, 116, 101, 114] by rw [Lib.toList_data]; rfl] at e
  have h3 : (s.toList == [100, 105, 103, 105, 116]) = false := by
    have e := ne_lit (h 3 (by decide))
    rwa [show (clN 3).toList = [100, 105, 103, 105, 116] by rw [Lib.toList_data]; rfl] at e
  have h4 : (s.toList == [109, 97, 114, 107]) = false := by
    have e := ne_lit (h 4 (by decide))
    rwa [show (clN 4).toList = [109, 97, 114, 107] by rw [Lib.toList_data]; rfl] at e
  have h5 : (s.toList == [98, 108, 97, 110, 107]) = false := by
    have e := ne_lit (h 5 (by decide))
    rwa [show (clN 5).toList = [98, 108, 97, 110, 107] by rw [Lib.toList_data]; rfl] at e
  have h6 : (s.toList == [119, 111, 114, 100]) = false := by
    have e := ne_lit (h 6 (by decide))
    rwa [show (clN 6).toList = [119, 111, 114, 100] by rw [Lib.toList_data]; rfl] at e
  have h7 : (s.toList == [97, 110, 121]) = false := by
    have e := ne_lit (h 7 (by decide))
    rwa [show (clN 7).toList = [97, 110, 121] by rw [Lib.toList_data]; rfl] at e
  clear h
  go_enter Try.func55, Try.ntmps55
  go_wp2
  go_ret
  exact ⟨rfl, rfl⟩

end Go.Proofs.Ytdjpjknbbedamaa
