/-
  The characters of a text and the text of characters: chars.Points, chars.Text and the document's. Conditions: lists of at most 20000 numbers.
-/
import Derived.Test.YtegckpkancbnmaaDoorWt
namespace Go.Proofs.YtegckpkancbnmaaDoor
open Go.RowKit

/-! ### an iterator over a text -/
def It (bi : Nat) (s : ByteArray) (L : List Nat) (k : Nat) (w : World) : Prop := w.heap[bi]? = some (.stringIter s (ens (L.take k)).length)
theorem It.next {bi : Nat} {s : ByteArray} {L : List Nat} {k : Nat} {w : World} (h : It bi s L k w) (hC : allC L) (hl : s.data.toList = ens L) (hk : k < L.length) (ty : TypeId) :
    (Instr.next (.pointer (some ⟨bi, 0, none⟩)) true ty).run Tryd.prog w = .ok (.tuple #[.bool true, .int .i64 (ens (L.take k)).length, .int .i32 (L[k] : Nat)]) (w.iterAt bi s (ens (L.take (k + 1))).length) := by
  have hP : Parts s.data.toList L [] := ⟨hC, by rw [hl, List.append_nil], .inl rfl⟩
  rw [Lib.run_next_any_at w bi s _ ty h (take_size hP k hk), dec_at hP k hk, ens_step L k hk]
theorem It.step {bi : Nat} {s : ByteArray} {L : List Nat} {k : Nat} {w : World} (h : It bi s L k w) : It bi s L (k + 1) (w.iterAt bi s (ens (L.take (k + 1))).length) :=
  Lib.iterAt_heap w bi s _ _ h
theorem It.done {bi : Nat} {s : ByteArray} {L : List Nat} {k : Nat} {w : World} (h : It bi s L k w) (hl : s.data.toList = ens L) (hk : L.length ≤ k) (ty : TypeId) :
    (Instr.next (.pointer (some ⟨bi, 0, none⟩)) true ty).run Tryd.prog w = .ok (.tuple #[.bool false]) w := by
  refine Lib.run_next_end_at w bi s _ ty h ?_
  rw [ens_take_all L k hk, size_list, hl]
  omega
theorem It.start (w : World) (s : ByteArray) (L : List Nat) : It w.heap.size s L 0 (w.iter s 0) := World.iter_heap w s 0
theorem own_iterAt {w : World} {B : Nat} {e : TypeId} {size n : Nat} {v : Value} {xs : List Value} {k : Nat} {s : ByteArray} {pos : Nat} (h : w.ownsRow B e size v n xs) (hk : w.heap[k]? = some (.stringIter s pos)) (pos' : Nat) : (w.iterAt k s pos').ownsRow B e size v n xs := by
  refine ⟨h.1, ?_⟩
  rcases h.2 with hn | ⟨g, cap, cur, rfl, hb0, hgg, rest⟩
  · exact .inl hn
  · refine .inr ⟨g, cap, cur, rfl, hb0, ?_, rest⟩
    rw [Lib.iterAt_other w k g s pos' (by rintro rfl; rw [hk] at hgg; cases hgg)]
    exact hgg
theorem own_ne_iter {w : World} {B : Nat} {e : TypeId} {size n : Nat} {v : Value} {xs : List Value} {k : Nat} {s : ByteArray} {pos : Nat} (h : w.ownsRow B e size v n xs) (hk : w.heap[k]? = some (.stringIter s pos)) : some k ≠ v.ownBlock := by
  rcases h.2 with ⟨rfl, _⟩ | ⟨g, cap, cur, rfl, _, hgg, _⟩
  · simp [Value.ownBlock]
  · intro e1
    simp only [Value.ownBlock, Option.some.injEq] at e1
    subst e1
    rw [hk] at hgg
    cases hgg
theorem It.grown {bi : Nat} {s : ByteArray} {L : List Nat} {k : Nat} {w w' : World} {row : Option Nat} (h : It bi s L k w) (hg : w.grownBy w' row) (hne : some bi ≠ row) : It bi s L k w' := by
  show w'.heap[bi]? = _
  rw [hg.block bi (Array.getElem?_eq_some_iff.1 h).1 hne]
  exact h
theorem It.alloc {bi : Nat} {s : ByteArray} {L : List Nat} {k : Nat} {w : World} (h : It bi s L k w) (o : Obj) : It bi s L k (w.alloc o) := by
  show (w.alloc o).heap[bi]? = _
  rw [Lib.alloc_old w o bi (Array.getElem?_eq_some_iff.1 h).1]
  exact h

/-! ### what is wrong with one or two texts -/
theorem below_of_alloc {w w2 : World} {o : Obj} (h : Below (w.alloc o).heap.size (w.alloc o) w2) : Below w.heap.size w w2 :=
  ((Below.refl _ _).alloc (Nat.le_refl _) _).trans (h.mono (by simp))
theorem check1_any (s : ByteArray) (w : World) : Calls Tryd.prog 34 #[.slice (some ⟨w.heap.size, 0, none⟩) 1 1] (w.alloc (.cells #[.string s] 9)) (ErrP (ckE s) w) := by
  refine (check_any [s] w.heap.size (w.alloc (.cells #[.string s] 9)) (by simp) (fun k t h => ?_) (by simp)).mono ?_
  · rw [World.cell?_alloc_new]
    match k, h with
    | 0, h => simp at h; subst h; rfl
    | k + 1, h => simp at h
  · rintro e w' ⟨rfl, hb⟩
    refine ⟨?_, below_of_alloc hb⟩
    simp only [ckEs]
    split
    · rename_i h; rw [h]
    · rfl
def ck2 (a b : Int) : Int := if a = 0 then b else a
theorem check2_any (s t : ByteArray) (w : World) : Calls Tryd.prog 34 #[.slice (some ⟨w.heap.size, 0, none⟩) 2 2] (w.alloc (.cells #[.string s, .string t] 9)) (ErrP (ck2 (ckE s) (ckE t)) w) := by
  refine (check_any [s, t] w.heap.size (w.alloc (.cells #[.string s, .string t] 9)) (by simp) (fun k u h => ?_) (by simp)).mono ?_
  · rw [World.cell?_alloc_new]
    match k, h with
    | 0, h => simp at h; subst h; rfl
    | 1, h => simp at h; subst h; rfl
    | k + 2, h => simp at h
  · rintro e w' ⟨rfl, hb⟩
    refine ⟨?_, below_of_alloc hb⟩
    simp only [ckEs, ck2]
    split
    · split
      · rename_i h; rw [h]
      · rfl
    · rfl
theorem ckE_ok {s : ByteArray} {L : List Nat} (hs : s.size ≤ 4096) (hC : allC L) (hl : s.data.toList = ens L) : ckE s = 0 := by
  have hP : Parts s.data.toList L [] := ⟨hC, by rw [hl, List.append_nil], .inl rfl⟩
  unfold ckE
  rw [if_neg (by omega), vld_parts hP]
  rfl
theorem ckE_cases (s : ByteArray) : (ckE s = 0 ∧ s.size ≤ 4096 ∧ ∃ L, allC L ∧ s.data.toList = ens L) ∨ (ckE s ≠ 0 ∧ (ckE s = 3 ∨ ckE s = 2)) := by
  obtain ⟨L, r, hP⟩ := parts_of s.data.toList
  unfold ckE
  rw [vld_parts hP]
  by_cases h : 4096 < s.size
  · right
    rw [if_pos h]
    exact ⟨by decide, .inl rfl⟩
  · rw [if_neg h]
    cases r with
    | nil =>
      left
      exact ⟨rfl, by omega, L, hP.1, by rw [hP.2.1, List.append_nil]⟩
    | cons c r =>
      right
      exact ⟨by simp, .inr (by simp)⟩

/-- A row and an error. -/
def RowE (E : TypeId) (k : IntKind) (L : List Int) (x : Int) (w : World) (e : Ending) (w' : World) : Prop := ∃ v, e = .returned (.tuple #[v, .int .i64 x]) ∧ Below w.heap.size w w' ∧ Row E k w.heap.size v L w'


end Go.Proofs.YtegckpkancbnmaaDoor
