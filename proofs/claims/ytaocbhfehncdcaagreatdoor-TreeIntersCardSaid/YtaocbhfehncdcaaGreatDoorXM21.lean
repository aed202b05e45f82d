/-
  A text with interpolation, as plain mathematics: which names, elements and bytes there are, one after the other. No model's run in this text. The words with which texts begin, as the document's grammar reads them. Conditions: texts of at most 2^47 bytes. How long the word is with which a text begins, as package tree reads it. Conditions: texts of at most 100000 bytes.
-/
import Derived.Test.YtaocbhfehncdcaaGreatDoorXM00
import Derived.Test.YtaocbhfehncdcaaGreatDoorXM20
import Derived.Test.YtaocbhfehncdcaaGreatDoorXM02
namespace Go.Proofs.YtaocbhfehncdcaaGreatDoor
open Go.RowKit

theorem wT_three {b c d : UInt8} {r : List UInt8} (h : nmB b = false) (h2 : b = 58 ∧ c = 58 ∧ stB d = true) : wT (b :: c :: d :: r) = wT r + 3 := by
  show (if nmB b = true then _ else if b = 58 ∧ c = 58 ∧ stB d = true then wT r + 3 else 0) = _
  rw [h, if_neg (by simp), if_pos h2]
theorem wT_zero {b c d : UInt8} {r : List UInt8} (h : nmB b = false) (h2 : ¬ (b = 58 ∧ c = 58 ∧ stB d = true)) : wT (b :: c :: d :: r) = 0 := by
  show (if nmB b = true then _ else if b = 58 ∧ c = 58 ∧ stB d = true then wT r + 3 else 0) = _
  rw [h, if_neg (by simp), if_neg h2]
/-- The word's rest is one itself. -/
theorem wT_take : ∀ t : List UInt8, wT (t.take (wT t)) = wT t
  | [] => rfl
  | [b] => by
    cases h : nmB b
    · simp [wT, h]
    · simp [wT, h]
  | [b, c] => by
    cases h : nmB b
    · simp [wT, h]
    · have ih := wT_take [c]
      rw [wT_name h, List.take_succ_cons, wT_name h, ih]
  | b :: c :: d :: r => by
    cases h : nmB b
    · by_cases h2 : b = 58 ∧ c = 58 ∧ stB d = true
      · have ih := wT_take r
        rw [wT_three h h2]
        simp only [List.take_succ_cons]
        rw [wT_three h h2, ih]
      · rw [wT_zero h h2]
        rfl
    · have ih := wT_take (c :: d :: r)
      rw [wT_name h, List.take_succ_cons, wT_name h, ih]
theorem wT_mem : ∀ (t : List UInt8) (x : UInt8), x ∈ t.take (wT t) → nmB x = true ∨ x = 58
  | [], x, h => by simp at h
  | [b], x, h => by
    cases h1 : nmB b
    · simp [wT, h1] at h
    · simp [wT, h1] at h
      exact .inl (h ▸ h1)
  | [b, c], x, h => by
    cases h1 : nmB b
    · simp [wT, h1] at h
    · have ih := wT_mem [c] x
      rw [wT_name h1, List.take_succ_cons, List.mem_cons] at h
      rcases h with rfl | h
      · exact .inl h1
      · exact ih h
  | b :: c :: d :: r, x, h => by
    cases h1 : nmB b
    · by_cases h2 : b = 58 ∧ c = 58 ∧ stB d = true
      · have ih := wT_mem r x
        rw [wT_three h1 h2] at h
        simp only [List.take_succ_cons, List.mem_cons] at h
        rcases h with rfl | rfl | rfl | h
        · exact .inr h2.1
        · exact .inr h2.2.1
        · exact .inl (by unfold nmB; rw [h2.2.2]; rfl)
        · exact ih h
      · rw [wT_zero h1 h2] at h
        simp at h
    · have ih := wT_mem (c :: d :: r) x
      rw [wT_name h1, List.take_succ_cons, List.mem_cons] at h
      rcases h with rfl | h
      · exact .inl h1
      · exact ih h
theorem wT_until {c : UInt8} (hc : nmB c = false) (hc2 : c ≠ 58) (t : List UInt8) : ∀ d : List UInt8, wT d = d.length → wT (d ++ c :: t) = d.length
  | [], _ => wT_stop (fun b r e => by injection e with e _; exact e ▸ hc) fun d r e => by injection e with e _; exact absurd e hc2
  | [b], h => by
    cases h1 : nmB b
    · simp [wT, h1] at h
    · have ih := wT_until hc hc2 t [] rfl
      rw [List.cons_append, wT_name h1]
      exact congrArg (· + 1) ih
  | [b, e], h => by
    cases h1 : nmB b
    · simp [wT, h1] at h
    · rw [wT_name h1] at h
      have ih := wT_until hc hc2 t [e] (by simpa using h)
      rw [List.cons_append, wT_name h1, ih]
      rfl
  | b :: e :: f :: r, h => by
    cases h1 : nmB b
    · by_cases h2 : b = 58 ∧ e = 58 ∧ stB f = true
      · rw [wT_three h1 h2] at h
        have ih := wT_until hc hc2 t r (by simpa using h)
        simp only [List.cons_append]
        rw [wT_three h1 h2, ih]
        rfl
      · rw [wT_zero h1 h2] at h
        simp at h
    · rw [wT_name h1] at h
      have ih := wT_until hc hc2 t (e :: f :: r) (by simpa using h)
      rw [List.cons_append, wT_name h1, ih]
      rfl
theorem wsz_take (l : List UInt8) : wsz (l.take (wsz l)) = wsz l := by
  match l with
  | [] => rfl
  | b :: t =>
    cases h : stB b
    · rw [wsz_no h]
      rfl
    · rw [wsz_yes h, List.take_succ_cons, wsz_yes h, wT_take]
theorem wsz_mem (l : List UInt8) (x : UInt8) (hx : x ∈ l.take (wsz l)) : nmB x = true ∨ x = 58 := by
  match l with
  | [] => simp at hx
  | b :: t =>
    cases h : stB b
    · rw [wsz_no h] at hx
      simp at hx
    · rw [wsz_yes h, List.take_succ_cons, List.mem_cons] at hx
      rcases hx with rfl | hx
      · exact .inl (by unfold nmB; rw [h]; rfl)
      · exact wT_mem t x hx
theorem wsz_until {c : UInt8} (hc : nmB c = false) (hc2 : c ≠ 58) (t d : List UInt8) (hd : d ≠ []) (h : wsz d = d.length) : wsz (d ++ c :: t) = d.length := by
  match d with
  | [] => exact absurd rfl hd
  | b :: r =>
    cases hb : stB b
    · rw [wsz_no hb] at h
      simp at h
    · rw [wsz_yes hb] at h
      rw [List.cons_append, wsz_yes hb, wT_until hc hc2 t r (by simpa using h)]
      rfl
/-- How long the word is with which a text begins; 0 where it is too long. -/
def wd (l : List UInt8) : Nat := if 12 < wsz l then 0 else wsz l
theorem wd_le (l : List UInt8) : wd l ≤ l.length := by
  have := wsz_le l
  unfold wd
  split <;> omega
theorem wd_pos {l : List UInt8} (h : wd l ≠ 0) : wd l = wsz l ∧ wsz l ≤ 12 := by
  unfold wd at h ⊢
  split at h
  · exact absurd rfl h
  · rename_i h1
    rw [if_neg h1]
    exact ⟨rfl, by omega⟩
/-- Up to a byte that is none of a word there is a word just if the word ends there. -/
theorem until_word {c : UInt8} (hc : nmB c = false) (hc2 : c ≠ 58) (d t : List UInt8) (hd : c ∉ d) : isW d = true ↔ (wd (d ++ c :: t) ≠ 0 ∧ (d ++ c :: t)[wd (d ++ c :: t)]? = some c) := by
  constructor
  · intro h
    simp only [isW, Bool.and_eq_true, decide_eq_true_eq] at h
    have h1 := wsz_until hc hc2 t d h.1.1 h.2
    have h2 : wd (d ++ c :: t) = d.length := by
      unfold wd
      rw [h1, if_neg (by omega)]
    have h3 : d.length ≠ 0 := fun e => h.1.1 (List.eq_nil_of_length_eq_zero e)
    rw [h2]
    exact ⟨h3, by simp⟩
  · rintro ⟨h1, h2⟩
    obtain ⟨h3, h4⟩ := wd_pos h1
    rw [h3] at h1 h2
    have h5 : wsz (d ++ c :: t) = d.length := by
      rcases Nat.lt_trichotomy (wsz (d ++ c :: t)) d.length with h | h | h
      · rw [List.getElem?_append_left h] at h2
        exact absurd (List.mem_of_getElem? h2) hd
      · exact h
      · have h6 : c ∈ (d ++ c :: t).take (wsz (d ++ c :: t)) := by
          refine List.mem_of_getElem? (i := d.length) ?_
          rw [List.getElem?_take, if_pos h]
          simp
        rcases wsz_mem _ c h6 with h7 | h7
        · rw [hc] at h7
          cases h7
        · exact absurd h7 hc2
    have h6 := wsz_take (d ++ c :: t)
    rw [h5, List.take_left] at h6
    have h8 : d ≠ [] := fun e => by
      subst e
      exact h1 (by rw [h5]; rfl)
    simp only [isW, Bool.and_eq_true, decide_eq_true_eq]
    exact ⟨⟨h8, by omega⟩, h6⟩
theorem until_size {c : UInt8} (hc : nmB c = false) (hc2 : c ≠ 58) (d t : List UInt8) (h : isW d = true) : wd (d ++ c :: t) = d.length := by
  simp only [isW, Bool.and_eq_true, decide_eq_true_eq] at h
  have h1 := wsz_until hc hc2 t d h.1.1 h.2
  unfold wd
  rw [h1, if_neg (by omega)]
theorem no_word {c : UInt8} {r : List UInt8} (h : c ∉ r) : ¬ (wd r ≠ 0 ∧ r[wd r]? = some c) := fun h2 => h (List.mem_of_getElem? h2.2)
theorem isW_take (l : List UInt8) : isW (l.take (wsz l)) = decide (wd l ≠ 0) := by
  have h1 := wsz_le l
  have h2 := wsz_take l
  have h3 : (l.take (wsz l)).length = wsz l := by rw [List.length_take]; omega
  unfold isW wd
  rw [h3, h2]
  by_cases h0 : wsz l = 0
  · rw [h0]
    simp
  · have h4 : l.take (wsz l) ≠ [] := fun e => h0 (by rw [← h3, e]; rfl)
    by_cases h5 : 12 < wsz l
    · have : ¬ wsz l ≤ 12 := by omega
      simp [h5, this]
    · have : wsz l ≤ 12 := by omega
      simp [h4, h5, this, h0]
/-- A word between `{` and `}`, and how many bytes it takes with them. -/
def brN (l : List UInt8) : Option (List UInt8 × Nat) :=
  match l with
  | b :: r => if b = 123 ∧ wd r ≠ 0 ∧ r[wd r]? = some 125 then some (r.take (wd r), wd r + 2) else none
  | [] => none
/-- A word, perhaps in braces. -/
def nmN (l : List UInt8) : Option (List UInt8 × Nat) :=
  match brN l with
  | some x => some x
  | none => if wd l ≠ 0 then some (l.take (wd l), wd l) else none
def isNu (d : List UInt8) : Bool := d.all dgB && decide (1 ≤ d.length) && decide (d.length ≤ 15) && (decide (d.length = 1) || decide (d[0]? ≠ some 48))
def nuV (m : Int) : List UInt8 → Int
  | [] => m
  | b :: t => nuV (m * 10 + ((b.toNat : Int) - 48)) t
def leafN (op : Int) (s : List UInt8) : Nd := .mk op (bs s) ⟨#[]⟩ 0 []
def numN (n : Int) : Nd := .mk 1 ⟨#[]⟩ ⟨#[]⟩ n []
def pairN (op : Int) (a b : Nd) : Nd := .mk op ⟨#[]⟩ ⟨#[]⟩ 0 [a, b]
/-- What stands behind a `[`: a scalar or a number, up to a `]`. -/
def plI (r : List UInt8) : Option (Nd × Nat) :=
  if r[0]? = some 36 then
    if wd (r.drop 1) ≠ 0 ∧ (r.drop 1)[wd (r.drop 1)]? = some 93 then some (leafN 5 ((r.drop 1).take (wd (r.drop 1))), wd (r.drop 1) + 3) else none
  else if r[(r.takeWhile dgB).length]? = some 93 ∧ isNu (r.takeWhile dgB) = true then some (numN (nuV 0 (r.takeWhile dgB)), (r.takeWhile dgB).length + 2) else none
def plN (l : List UInt8) : Option (Nd × Nat) :=
  match l with
  | b :: r => if b = 91 then plI r else none
  | [] => none
/-- The scalar of a name, or the element. -/
def elN (d : List UInt8) (n : Nat) (l : List UInt8) : Nd × Nat :=
  match brN l with
  | some k => (pairN 9 (leafN 7 d) (leafN 2 k.1), n + k.2)
  | none => match plN l with
    | some p => (pairN 8 (leafN 6 d) p.1, n + p.2)
    | none => (leafN 5 d, n)
def spB (b : UInt8) : Bool := decide (b = 64) || decide (b = 38) || (decide (49 ≤ b.toNat) && decide (b.toNat ≤ 57))
/-- The variable or element with which a text begins, and how many bytes it takes. -/
def vrN (l : List UInt8) : Option (Nd × Nat) :=
  match l with
  | [] => none
  | b :: r =>
    if b = 64 then match nmN r with
      | some x => some (leafN 6 x.1, 1 + x.2)
      | none => none
    else if b = 36 then match nmN r with
      | some x => some (elN x.1 (1 + x.2) (r.drop x.2))
      | none => match r with
        | c :: _ => if spB c = true then some (leafN 5 [c], 2) else none
        | [] => none
    else none
/-- A character by its number behind a backslash. -/
def nbN (l : List UInt8) : Option (Nat × Nat) :=
  match l with
  | b :: c :: u => if b = 120 ∧ c = 123 then (match brc u with | some x => some (x.1, (hxt 6 u).length + 3) | none => none) else none
  | _ => none
/-- The text of a byte, or of that with a backslash, and how many bytes these are. -/
def pcN (l : List UInt8) : List UInt8 × Nat :=
  match l with
  | [] => ([], 1)
  | [b] => ([b], 1)
  | b :: c :: r => if b = 92 then (if c = 110 then ([10], 2) else if c = 116 then ([9], 2) else match nbN (c :: r) with | some x => (en x.1, 1 + x.2) | none => ([c], 2)) else ([b], 1)
def flN (ps : List Nd) (tx : List UInt8) : List Nd := if tx = [] then ps else ps ++ [leafN 2 tx]
def goN : Nat → List Nd → List UInt8 → List UInt8 → List Nd × List UInt8
  | _, ps, tx, [] => (ps, tx)
  | 0, ps, tx, _ => (ps, tx)
  | k + 1, ps, tx, b :: r => match vrN (b :: r) with
    | some x => goN k (flN ps tx ++ [x.1]) [] ((b :: r).drop x.2)
    | none => goN k ps (tx ++ (pcN (b :: r)).1) ((b :: r).drop (pcN (b :: r)).2)
def itN (l : List UInt8) : Nd :=
  match goN l.length [] [] l with
  | ([], tx) => leafN 2 tx
  | (p :: ps, tx) => .mk 3 ⟨#[]⟩ ⟨#[]⟩ 0 (flN (p :: ps) tx)
theorem brN_pos {l : List UInt8} {x : List UInt8 × Nat} (h : brN l = some x) : 0 < x.2 := by
  unfold brN at h
  split at h
  · split at h
    · injection h with h
      rw [← h]
      show 0 < wd _ + 2
      omega
    · cases h
  · cases h
theorem elN_pos (d : List UInt8) (n : Nat) (l : List UInt8) (h : 0 < n) : 0 < (elN d n l).2 := by
  unfold elN
  split
  · show 0 < n + _
    omega
  · split
    · show 0 < n + _
      omega
    · exact h
theorem vrN_pos {l : List UInt8} {x : Nd × Nat} (h : vrN l = some x) : 0 < x.2 := by
  unfold vrN at h
  split at h
  · cases h
  · split at h
    · split at h
      · injection h with h
        rw [← h]
        show 0 < 1 + _
        omega
      · cases h
    · split at h
      · split at h
        · injection h with h
          rw [← h]
          exact elN_pos _ _ _ (by omega)
        · split at h
          · split at h
            · injection h with h
              rw [← h]
              show 0 < 2
              omega
            · cases h
          · cases h
      · cases h
theorem pcN_pos (l : List UInt8) : 0 < (pcN l).2 := by
  unfold pcN
  split
  · exact Nat.one_pos
  · exact Nat.one_pos
  · split
    · split
      · exact Nat.two_pos
      · split
        · exact Nat.two_pos
        · split
          · show 0 < 1 + _
            omega
          · exact Nat.two_pos
    · exact Nat.one_pos
/-- One step of the reading. -/
theorem goN_var {k : Nat} {ps : List Nd} {tx l : List UInt8} {x : Nd × Nat} (hl : l.length ≤ k) (hv : vrN l = some x) : ∃ j, (l.drop x.2).length ≤ j ∧ j < k ∧ goN k ps tx l = goN j (flN ps tx ++ [x.1]) [] (l.drop x.2) := by
  match l, k, hl, hv with
  | [], _, _, hv => cases hv
  | b :: r, 0, hl, _ => simp at hl
  | b :: r, k + 1, hl, hv =>
    have := vrN_pos hv
    refine ⟨k, ?_, by omega, ?_⟩
    · rw [List.length_drop]
      simp only [List.length_cons] at hl ⊢
      omega
    · simp only [goN, hv]
theorem goN_text {k : Nat} {ps : List Nd} {tx l : List UInt8} (h0 : l ≠ []) (hl : l.length ≤ k) (hv : vrN l = none) : ∃ j, (l.drop (pcN l).2).length ≤ j ∧ j < k ∧ goN k ps tx l = goN j ps (tx ++ (pcN l).1) (l.drop (pcN l).2) := by
  match l, k, hl, hv, h0 with
  | [], _, _, _, h0 => exact absurd rfl h0
  | b :: r, 0, hl, _, _ => simp at hl
  | b :: r, k + 1, hl, hv, _ =>
    have := pcN_pos (b :: r)
    refine ⟨k, ?_, by omega, ?_⟩
    · rw [List.length_drop]
      simp only [List.length_cons] at hl ⊢
      omega
    · simp only [goN, hv]
theorem goN_end (k : Nat) (ps : List Nd) (tx : List UInt8) : goN k ps tx [] = (ps, tx) := by
  cases k <;> rfl
theorem nm125 : nmB 125 = false := by decide
theorem nm93 : nmB 93 = false := by decide
theorem brN_hit (d t : List UInt8) (hd : (125 : UInt8) ∉ d) : brN (123 :: (d ++ 125 :: t)) = if isW d = true then some (d, d.length + 2) else none := by
  have h := until_word nm125 (by decide) d t hd
  show (if (123 : UInt8) = 123 ∧ wd (d ++ 125 :: t) ≠ 0 ∧ (d ++ 125 :: t)[wd (d ++ 125 :: t)]? = some 125 then some ((d ++ 125 :: t).take (wd (d ++ 125 :: t)), wd (d ++ 125 :: t) + 2) else none) = _
  by_cases hw : isW d = true
  · have h1 := until_size nm125 (by decide) d t hw
    rw [if_pos hw, if_pos ⟨rfl, h.1 hw⟩, h1, List.take_left]
  · rw [if_neg hw, if_neg fun h2 => hw (h.2 h2.2)]
theorem brN_miss (r : List UInt8) (h : (125 : UInt8) ∉ r) : brN (123 :: r) = none := if_neg fun h2 => no_word h h2.2
theorem brN_other {l : List UInt8} (h : ([123] : List UInt8).isPrefixOf l = false) : brN l = none := by
  match l with
  | [] => rfl
  | b :: r =>
    have hb : b ≠ 123 := fun e => by
      subst e
      simp [List.isPrefixOf] at h
    show (if b = 123 ∧ wd r ≠ 0 ∧ r[wd r]? = some 125 then some (r.take (wd r), wd r + 2) else none) = none
    exact if_neg fun h2 => hb h2.1
theorem nmN_br {l : List UInt8} {x : List UInt8 × Nat} (h : brN l = some x) : nmN l = some x := by
  unfold nmN
  rw [h]
theorem nmN_wd {l : List UInt8} (h : brN l = none) (h2 : wd l ≠ 0) : nmN l = some (l.take (wd l), wd l) := by
  unfold nmN
  rw [h]
  exact if_pos h2
theorem nmN_no {l : List UInt8} (h : brN l = none) (h2 : wd l = 0) : nmN l = none := by
  unfold nmN
  rw [h]
  exact if_neg fun h3 => h3 h2
theorem isNu_all {d : List UInt8} (h : isNu d = true) : d.all dgB = true := by
  simp only [isNu, Bool.and_eq_true] at h
  exact h.1.1.1
theorem takeWhile_le {p : UInt8 → Bool} : ∀ l : List UInt8, (l.takeWhile p).length ≤ l.length
  | [] => Nat.le_refl _
  | b :: t => by
    have := takeWhile_le (p := p) t
    simp only [List.takeWhile_cons]
    split
    · simp only [List.length_cons]
      omega
    · exact Nat.zero_le _
theorem takeWhile_end {p : UInt8 → Bool} (x : UInt8) (hx : p x = false) (t : List UInt8) : ∀ d : List UInt8, (d.all p = true → (d ++ x :: t).takeWhile p = d) ∧ (d.all p = false → (d ++ x :: t).takeWhile p = d.takeWhile p ∧ (d.takeWhile p).length < d.length)
  | [] => ⟨fun _ => by simp [hx], fun h => by simp at h⟩
  | b :: d => by
    obtain ⟨h1, h2⟩ := takeWhile_end x hx t d
    cases hb : p b
    · exact ⟨fun h => by simp [hb] at h, fun _ => by simp [hb]⟩
    · refine ⟨fun h => ?_, fun h => ?_⟩
      · have h3 : d.all p = true := by simpa [hb] using h
        simp only [List.cons_append, List.takeWhile_cons, hb, if_true]
        rw [h1 h3]
      · have h3 : d.all p = false := by simpa [hb] using h
        obtain ⟨h4, h5⟩ := h2 h3
        simp only [List.cons_append, List.takeWhile_cons, hb, if_true, List.length_cons]
        rw [h4]
        exact ⟨rfl, by omega⟩
theorem plI_hit (d t : List UInt8) (hd : (93 : UInt8) ∉ d) : plI (d ++ 93 :: t) = if d[0]? = some 36 ∧ isW (d.drop 1) = true then some (leafN 5 (d.drop 1), d.length + 2) else if isNu d = true then some (numN (nuV 0 d), d.length + 2) else none := by
  unfold plI
  by_cases h0 : d[0]? = some 36
  · obtain ⟨e, rfl⟩ : ∃ e, d = 36 :: e := by
      match d, h0 with
      | b :: e, h0 => exact ⟨e, by simp at h0; rw [h0]⟩
    have he : (93 : UInt8) ∉ e := fun h => hd (List.mem_cons_of_mem _ h)
    have h := until_word nm93 (by decide) e t he
    have hn : isNu (36 :: e) = false := by
      rw [Bool.eq_false_iff]
      intro h2
      have := isNu_all h2
      simp [show dgB 36 = false from by decide] at this
    rw [if_pos (show (36 :: e ++ 93 :: t)[0]? = some 36 from rfl)]
    show (if wd (e ++ 93 :: t) ≠ 0 ∧ (e ++ 93 :: t)[wd (e ++ 93 :: t)]? = some 93 then some (leafN 5 ((e ++ 93 :: t).take (wd (e ++ 93 :: t))), wd (e ++ 93 :: t) + 3) else none) = _
    by_cases hw : isW e = true
    · have h1 := until_size nm93 (by decide) e t hw
      rw [if_pos (h.1 hw), if_pos ⟨rfl, hw⟩, h1, List.take_left]
      rfl
    · rw [if_neg fun h2 => hw (h.2 h2), if_neg fun h2 => hw h2.2, hn]
      rfl
  · have h1 : (d ++ 93 :: t)[0]? ≠ some 36 := by
      match d, h0 with
      | [], _ => exact fun h => by simp at h
      | b :: e, h0 => exact fun h => h0 (by simpa using h)
    have hR : ¬ (d[0]? = some 36 ∧ isW (d.drop 1) = true) := fun h => h0 h.1
    rw [if_neg h1, if_neg hR]
    obtain ⟨h2, h3⟩ := takeWhile_end (p := dgB) 93 (by decide) t d
    cases ha : d.all dgB
    · obtain ⟨h4, h5⟩ := h3 ha
      have hn : isNu d = false := by
        rw [Bool.eq_false_iff]
        intro h6
        rw [isNu_all h6] at ha
        cases ha
      rw [hn, h4, if_neg, if_neg (by simp)]
      rintro ⟨h6, _⟩
      rw [List.getElem?_append_left h5] at h6
      exact hd (List.mem_of_getElem? h6)
    · rw [h2 ha]
      have h4 : (d ++ 93 :: t)[d.length]? = some 93 := by simp
      by_cases hn : isNu d = true
      · rw [if_pos ⟨h4, hn⟩, if_pos hn]
      · rw [if_neg fun h => hn h.2, if_neg hn]
theorem plI_miss (r : List UInt8) (h : (93 : UInt8) ∉ r) : plI r = none := by
  unfold plI
  split
  · exact if_neg fun h2 => no_word (fun h3 => h (List.mem_of_mem_drop h3)) h2
  · exact if_neg fun h2 => h (List.mem_of_getElem? h2.1)
theorem plN_other {l : List UInt8} (h : ([91] : List UInt8).isPrefixOf l = false) : plN l = none := by
  match l with
  | [] => rfl
  | b :: r =>
    have hb : b ≠ 91 := fun e => by
      subst e
      simp [List.isPrefixOf] at h
    exact if_neg hb
theorem plN_in (r : List UInt8) : plN (91 :: r) = plI r := by
  show (if (91 : UInt8) = 91 then plI r else none) = plI r
  exact if_pos rfl

end Go.Proofs.YtaocbhfehncdcaaGreatDoor

namespace Go.Proofs.YtaocbhfehncdcaaGreatDoor
open Go.RowKit

theorem alpha4_any (b : UInt8) (w : World) : Calls Tryz.prog 104 #[.int .u8 b.toNat] w (BoS (stB b) w) := by
  have HP : Hid (∀ v w, v = stB b → BoS (stB b) w (.returned (.bool v)) w) := fun v w h => BoS.mk h w
  unfold stB at *
  generalize b.toNat = x at *
  rcases stN_cases x with ⟨h1, h⟩ | ⟨h1, h2, h⟩ | ⟨h1, h2, h3, h⟩ | ⟨h1, h⟩ | ⟨h1, h2, h⟩ | ⟨h1, h⟩
  · have HX := Lib.hid h.symm
    have g1 : x < 97 := by omega
    have g2 : ((x : Int) == 95) = false := by rw [beq_eq_false_iff_ne]; omega
    clear h
    go_enter Tryz.func104, Tryz.ntmps104
    go_wp2
    go_ret
    exact HP.out _ _ (by first | exact HX.out | (rw [← HX.out]; simp; omega))
  · have HX := Lib.hid h.symm
    have g1 : x < 97 := by omega
    clear h
    go_enter Tryz.func104, Tryz.ntmps104
    go_wp2
    go_ret
    exact HP.out _ _ (by first | exact HX.out | (rw [← HX.out]; simp; omega))
  · have HX := Lib.hid h.symm
    have g2 : ((x : Int) == 95) = false := by rw [beq_eq_false_iff_ne]; omega
    clear h h3
    go_enter Tryz.func104, Tryz.ntmps104
    go_wp2
    go_ret
    exact HP.out _ _ (by first | exact HX.out | (rw [← HX.out]; simp; omega))
  · have HX := Lib.hid h.symm
    clear h
    subst h1
    rw [show ((95 : Nat) : Int) = 95 from rfl]
    go_enter Tryz.func104, Tryz.ntmps104
    go_wp2
    go_ret
    exact HP.out _ _ (by first | exact HX.out | (rw [← HX.out]; simp; omega))
  · have HX := Lib.hid h.symm
    clear h
    go_enter Tryz.func104, Tryz.ntmps104
    go_wp2
    go_ret
    exact HP.out _ _ (by first | exact HX.out | (rw [← HX.out]; simp; omega))
  · have HX := Lib.hid h.symm
    have g2 : ((x : Int) == 95) = false := by rw [beq_eq_false_iff_ne]; omega
    have g3 : 90 < x := by omega
    clear h
    go_enter Tryz.func104, Tryz.ntmps104
    go_wp2
    go_ret
    exact HP.out _ _ (by first | exact HX.out | (rw [← HX.out]; simp; omega))
theorem digit4_any (b : UInt8) (w : World) : Calls Tryz.prog 105 #[.int .u8 b.toNat] w (BoS (dgB b) w) := by
  have HP : Hid (∀ v w, v = dgB b → BoS (dgB b) w (.returned (.bool v)) w) := fun v w h => BoS.mk h w
  unfold dgB at *
  generalize b.toNat = x at *
  rcases dgN_cases x with ⟨h1, h⟩ | ⟨h1, h2, h⟩ | ⟨h1, h⟩
  all_goals
    have HX := Lib.hid h.symm
    clear h
    go_enter Tryz.func105, Tryz.ntmps105
    go_wp2
    go_ret
    exact HP.out _ _ (by first | exact HX.out | (rw [← HX.out]; simp; omega))
theorem short4_any (n : Nat) (w : World) : Calls Tryz.prog 106 #[.int .i64 n] w (InS ((if 12 < n then 0 else n : Nat) : Int) w) := by
  by_cases h : 12 < n
  · have x1 : (12 : Int) < (n : Int) := by omega
    rw [if_pos h]
    go_enter Tryz.func106, Tryz.ntmps106
    go_wp2
    go_ret
    exact ⟨rfl, rfl⟩
  · have x1 : (n : Int) ≤ 12 := by omega
    rw [if_neg h]
    go_enter Tryz.func106, Tryz.ntmps106
    go_wp2
    go_ret
    exact ⟨rfl, rfl⟩
theorem wd_zero {l : List UInt8} (h : (0 : Int) = (wsz l : Int)) : (0 : Int) = (wd l : Int) := by
  have h1 : wsz l = 0 := by omega
  unfold wd
  rw [h1]
  rfl
set_option maxRecDepth 100000 in
set_option maxHeartbeats 2000000 in
theorem word4_any (s : ByteArray) (w : World) (hs : s.size ≤ 140737488355328) : Calls Tryz.prog 69 #[.string s] w (InS (wd s.data.toList) w) := by
  obtain ⟨l, hl⟩ : ∃ l, s.data.toList = l := ⟨_, rfl⟩
  have hsl : s.size = l.length := by rw [← hl, ← Lib.size_eq]
  rw [hl]
  have HST := Lib.hid alpha4_any
  have HDG := Lib.hid digit4_any
  have HP : Hid (∀ n w, n = (wd l : Int) → InS (wd l) w (.returned (.int .i64 n)) w) := fun n w h => by
    subst h
    exact ⟨rfl, rfl⟩
  have HSH : Hid (∀ k : Nat, (k : Int) = (wsz l : Int) → ∀ w, Calls Tryz.prog 106 #[.int .i64 k] w (InS (wd l) w)) := fun k h w => by
    obtain rfl : k = wsz l := by omega
    exact short4_any _ w
  by_cases h0 : s.size = 0
  · have hn : s.toList = [] := by rw [Lib.toList_data]; exact List.eq_nil_of_length_eq_zero (by rw [← Lib.size_eq]; exact h0)
    have hn2 : s.toList.isEmpty = true := by rw [hn]; rfl
    have hw : Hid ((0 : Int) = (wsz l : Int)) := by
      show _ = _
      have : l = [] := List.eq_nil_of_length_eq_zero (by omega)
      rw [this]
      rfl
    clear h0 hs hl hsl HST HDG
    go_enter Tryz.func69, Tryz.ntmps69
    go_wp2
    go_ret
    exact HP.out _ _ (wd_zero hw.out)
  have hpos : 0 < s.size := by omega
  have hne : s.toList.isEmpty = false := by
    rw [Lib.toList_data, List.isEmpty_eq_false_iff]
    intro h
    exact h0 (by rw [Lib.size_eq, h]; rfl)
  have hd0 : l = s[0] :: l.drop 1 := by
    have := drop_at s l hl 0 hpos
    simpa using this
  cases hst : stB s[0]
  · have hw : Hid ((0 : Int) = (wsz l : Int)) := by
      show _ = _
      have h := wsz_no (t := l.drop 1) hst
      rw [← hd0] at h
      rw [h]
      rfl
    clear h0 hl hsl hd0
    go_enter Tryz.func69, Tryz.ntmps69
    go_wp2_with (go_at_call 104; refine (HST.out _ _).mono ?_; rintro e w' ⟨rfl, rfl⟩)
    go_ret
    exact HP.out _ _ (wd_zero hw.out)
  · have HW : Hid (wsz l = wT (l.drop 1) + 1) := by
      show _ = _
      have h := wsz_yes (t := l.drop 1) hst
      rwa [← hd0] at h
    have HAT : Hid (∀ k (h : k < s.size), l.drop k = s[k] :: l.drop (k + 1)) := fun k h => drop_at s l hl k h
    have HEN : Hid (∀ k, ¬ k < s.size → l.drop k = []) := fun k h => drop_end s l hl k h
    have HSL := Lib.hid hsl
    clear hl hsl h0 hd0
    go_enter Tryz.func69, Tryz.ntmps69
    go_wp2_with (go_at_call 104; refine (HST.out _ _).mono ?_; rintro e w' ⟨rfl, rfl⟩)
    go_loop [3] (fun n => ∃ k : Nat, k ≤ s.size ∧ n = .int .i64 k ∧ Hid (wsz l = k + wT (l.drop k))) (fun n => s.size - (intOf n).toNat)
    case atStart => exact ⟨1, by omega, rfl, by show _ = _; rw [HW.out]; omega⟩
    case round =>
      obtain ⟨k, hk, rfl, hw⟩ := hrel
      by_cases hlt : k < s.size
      · have hat := HAT.out k hlt
        cases h1 : stB s[k]
        · cases h2 : dgB s[k]
          · have hnm : nmB s[k] = false := by unfold nmB; rw [h1, h2]; rfl
            have hstop : (([58, 58] : List UInt8).isPrefixOf (l.drop k) = false ∨ (l.drop k).length ≤ 2 ∨ ∃ a b d r, l.drop k = a :: b :: d :: r ∧ stB d = false) → Hid ((k : Int) = (wsz l : Int)) := fun h => by
              show _ = _
              rw [hw.out, wT_stop2 (fun b r e => by rw [hat] at e; rw [← (List.cons.inj e).1]; exact hnm) h]
              simp
            have HSTOP := Lib.hid hstop
            clear hstop
            by_cases h4 : k + 2 < s.size
            · have ha1 := HAT.out (k + 1) (by omega)
              have ha2 := HAT.out (k + 2) h4
              have h4i : (k : Int) + 2 < (s.size : Int) := by omega
              have hd3 : l.drop k = s[k] :: s[k + 1] :: s[k + 2] :: l.drop (k + 2 + 1) := by
                rw [hat, ha1]
                congr 2
              by_cases c1 : s[k] = 58
              · have c1n : s[k].toNat = 58 := by rw [c1]; rfl
                have f1 : ((s[k].toNat : Int) == 58) = true := by rw [c1n]; rfl
                by_cases c2 : s[k + 1] = 58
                · have c2n : s[k + 1].toNat = 58 := by rw [c2]; rfl
                  have f2 : ((s[k + 1].toNat : Int) == 58) = true := by rw [c2n]; rfl
                  cases h5 : stB s[k + 2]
                  · have hX := HSTOP.out (.inr (.inr ⟨_, _, _, _, hd3, h5⟩))
                    clear hat hnm ha1 ha2 hd3 c1 c2 c1n c2n
                    go_wp2_with (first
                      | (go_at_call 104; refine (HST.out _ _).mono ?_; rintro e w' ⟨rfl, rfl⟩)
                      | (go_at_call 105; refine (HDG.out _ _).mono ?_; rintro e w' ⟨rfl, rfl⟩)
                      | (go_at_call 106; refine (HSH.out _ hX.out _).mono ?_; rintro e w' ⟨rfl, rfl⟩))
                    go_ret
                    exact HP.out _ _ rfl
                  · have hN : Hid (wsz l = (k + 3) + wT (l.drop (k + 2 + 1))) := by
                      show _ = _
                      rw [hw.out, hd3, c1, c2, wT_col h5, wT_name (by unfold nmB; rw [h5]; rfl)]
                      omega
                    clear hat hnm ha1 ha2 hd3 c1 c2 c1n c2n
                    go_wp2_with (first
                      | (go_at_call 104; refine (HST.out _ _).mono ?_; rintro e w' ⟨rfl, rfl⟩)
                      | (go_at_call 105; refine (HDG.out _ _).mono ?_; rintro e w' ⟨rfl, rfl⟩))
                    go_round
                    case rel => exact ⟨k + 3, by omega, by go_num, hN⟩
                    case measure => simp [intOf]; omega
                · have f2 : ((s[k + 1].toNat : Int) == 58) = false := by
                    rw [beq_eq_false_iff_ne]
                    intro h
                    exact c2 (UInt8.toNat_inj.1 (by show _ = 58; omega))
                  have hX := HSTOP.out (.inl (by rw [hd3]; simp [List.isPrefixOf]; intro _ h; exact absurd h.symm c2))
                  clear hat hnm ha1 ha2 hd3 c1 c2 c1n
                  go_wp2_with (first
                    | (go_at_call 104; refine (HST.out _ _).mono ?_; rintro e w' ⟨rfl, rfl⟩)
                    | (go_at_call 105; refine (HDG.out _ _).mono ?_; rintro e w' ⟨rfl, rfl⟩)
                    | (go_at_call 106; refine (HSH.out _ hX.out _).mono ?_; rintro e w' ⟨rfl, rfl⟩))
                  go_ret
                  exact HP.out _ _ rfl
              · have f1 : ((s[k].toNat : Int) == 58) = false := by
                  rw [beq_eq_false_iff_ne]
                  intro h
                  exact c1 (UInt8.toNat_inj.1 (by show _ = 58; omega))
                have hX := HSTOP.out (.inl (by rw [hd3]; simp [List.isPrefixOf]; intro h; exact absurd h.symm c1))
                clear hat hnm ha1 ha2 hd3 c1
                go_wp2_with (first
                  | (go_at_call 104; refine (HST.out _ _).mono ?_; rintro e w' ⟨rfl, rfl⟩)
                  | (go_at_call 105; refine (HDG.out _ _).mono ?_; rintro e w' ⟨rfl, rfl⟩)
                  | (go_at_call 106; refine (HSH.out _ hX.out _).mono ?_; rintro e w' ⟨rfl, rfl⟩))
                go_ret
                exact HP.out _ _ rfl
            · have hX := HSTOP.out (.inr (.inl (by rw [List.length_drop, ← HSL.out]; omega)))
              have h4i : (s.size : Int) ≤ (k : Int) + 2 := by omega
              clear hat hnm
              go_wp2_with (first
                | (go_at_call 104; refine (HST.out _ _).mono ?_; rintro e w' ⟨rfl, rfl⟩)
                | (go_at_call 105; refine (HDG.out _ _).mono ?_; rintro e w' ⟨rfl, rfl⟩)
                | (go_at_call 106; refine (HSH.out _ hX.out _).mono ?_; rintro e w' ⟨rfl, rfl⟩))
              go_ret
              exact HP.out _ _ rfl
          · have hN : Hid (wsz l = (k + 1) + wT (l.drop (k + 1))) := by
              show _ = _
              rw [hw.out, hat, wT_name (by unfold nmB; rw [h1, h2]; rfl)]
              omega
            clear hat
            go_wp2_with (first
              | (go_at_call 104; refine (HST.out _ _).mono ?_; rintro e w' ⟨rfl, rfl⟩)
              | (go_at_call 105; refine (HDG.out _ _).mono ?_; rintro e w' ⟨rfl, rfl⟩))
            go_round
            case rel => exact ⟨k + 1, by omega, by go_num, hN⟩
            case measure => simp [intOf]; omega
        · have hN : Hid (wsz l = (k + 1) + wT (l.drop (k + 1))) := by
            show _ = _
            rw [hw.out, hat, wT_name (by unfold nmB; rw [h1]; rfl)]
            omega
          clear hat
          go_wp2_with (go_at_call 104; refine (HST.out _ _).mono ?_; rintro e w' ⟨rfl, rfl⟩)
          go_round
          case rel => exact ⟨k + 1, by omega, by go_num, hN⟩
          case measure => simp [intOf]; omega
      · have hX : Hid ((k : Int) = (wsz l : Int)) := by
          show _ = _
          rw [hw.out, HEN.out k hlt]
          simp [wT]
        go_wp2_with (go_at_call 106; refine (HSH.out _ hX.out _).mono ?_; rintro e w' ⟨rfl, rfl⟩)
        go_ret
        exact HP.out _ _ rfl

end Go.Proofs.YtaocbhfehncdcaaGreatDoor

namespace Go.Proofs.YtaocbhfehncdcaaGreatDoor
open Go.RowKit

theorem isW_one (b : UInt8) : isW [b] = stB b := by
  cases h : stB b <;> simp [isW, wsz, wT, h]
theorem list_one (s : ByteArray) (k : Nat) (h : k < s.size) : (s.extract k (k + 1)).data.toList = [s[k]] := by
  rw [Lib.extract_data, drop_at s _ rfl k h, show k + 1 - k = 1 by omega]
  rfl
theorem part_size (s : ByteArray) (a b : Nat) (h : b ≤ s.size) : (s.extract a b).size ≤ s.size := by
  rw [Lib.size_eq, Lib.extract_data, List.length_take, List.length_drop, Lib.size_eq s]
  omega
theorem st_high {b : UInt8} (h : stB b = true) : 57 < b.toNat := by
  simp only [stB, stN, Bool.or_eq_true, Bool.and_eq_true, decide_eq_true_eq] at h
  omega
theorem dg_cases (x : Nat) : (x < 48 ∧ dgN x = false) ∨ (48 ≤ x ∧ x ≤ 57 ∧ dgN x = true) ∨ (57 < x ∧ dgN x = false) := by
  unfold dgN
  by_cases h1 : x < 48
  · exact .inl ⟨h1, by simp; omega⟩
  by_cases h2 : x ≤ 57
  · exact .inr (.inl ⟨by omega, h2, by simp; omega⟩)
  · exact .inr (.inr ⟨by omega, by simp; omega⟩)
set_option maxRecDepth 100000 in
set_option maxHeartbeats 20000000 in
theorem twsz_any (s : ByteArray) (w : World) (hs : s.size ≤ 100000) : Calls Tryz.prog 92 #[.string s] w (InS (wsz s.data.toList) w) := by
  obtain ⟨l, hl⟩ : ∃ l, s.data.toList = l := ⟨_, rfl⟩
  have hsl : s.size = l.length := by rw [← hl, ← Lib.size_eq]
  rw [hl]
  have HP : Hid (∀ n w, n = (wsz l : Int) → InS (wsz l) w (.returned (.int .i64 n)) w) := fun n w h => by
    subst h
    exact ⟨rfl, rfl⟩
  obtain ⟨bt, HWG, hbt⟩ : ∃ bt : Nat → Bool, Hid (∀ k w, Calls Tryz.prog 21 #[.string (s.extract k (k + 1))] w (BoS (bt k) w)) ∧ ∀ k (h : k < s.size), bt k = stB s[k] := by
    refine ⟨fun k => isW (s.extract k (k + 1)).data.toList, fun k w => IsWord_any (s.extract k (k + 1)) w ?_, fun k h => ?_⟩
    · have : (s.extract k (k + 1)).size ≤ 1 := by
        rw [Lib.size_eq, Lib.extract_data, List.length_take]
        omega
      omega
    · show isW (s.extract k (k + 1)).data.toList = _
      rw [list_one s k h, isW_one]
  have HBT := Lib.hid hbt
  have HAT : Hid (∀ k (h : k < s.size), l.drop k = s[k] :: l.drop (k + 1)) := fun k h => drop_at s l hl k h
  have HEN : Hid (∀ k, ¬ k < s.size → l.drop k = []) := fun k h => drop_end s l hl k h
  have HPX : Hid (∀ k w, Calls Tryz.prog 58 #[.string (s.extract k s.size), .string ⟨#[58, 58]⟩] w (BoS (([58, 58] : List UInt8).isPrefixOf (l.drop k)) w)) := fun k w => by
    refine (Tryz.strings_HasPrefix (s.extract k s.size) ⟨#[58, 58]⟩ w).mono ?_
    rintro e w' ⟨rfl, rfl⟩
    refine ⟨?_, rfl⟩
    have : (s.extract k s.size).data.toList = l.drop k := by
      rw [Lib.extract_data, hl, hsl]
      exact List.take_of_length_le (by rw [List.length_drop]; omega)
    rw [this]
    rfl
  have HSL := Lib.hid hsl
  clear hl hsl hbt
  go_enter Tryz.func92, Tryz.ntmps92
  go_wp2
  go_loop [3] (fun n => ∃ k : Nat, k ≤ s.size ∧ n = .int .i64 k ∧ Hid (k = 0 ∨ (0 < k ∧ wsz l = k + wT (l.drop k)))) (fun n => s.size - (intOf n).toNat)
  case atStart => exact ⟨0, by omega, rfl, .inl rfl⟩
  case round =>
    obtain ⟨k, hk, rfl, hw⟩ := hrel
    by_cases hlt : k < s.size
    · have hat := HAT.out k hlt
      have b1 := HBT.out k hlt
      have y1 : (k : Int) < (s.size : Int) := by omega
      have x3 : IntKind.i64.wrap ((k : Int) + 1) = (k : Int) + 1 := IntWalk.i64_in _ (by omega)
      have HD0 : Hid (k = 0 → l = s[k] :: l.drop (k + 1)) := fun h => (show l.drop k = l by rw [h]; rfl).symm.trans hat
      cases h1 : stB s[k]
      · have HN0 : Hid (k = 0 → (0 : Int) = (wsz l : Int)) := fun h => by
          rw [HD0.out h, wsz_no h1]
          rfl
        rw [h1] at b1
        have hdg : dgB s[k] = dgN s[k].toNat := rfl
        rcases Nat.eq_zero_or_pos k with h0 | h0
        · have HX : Hid ((k : Int) = (wsz l : Int)) := by
            show _ = _
            rw [← HN0.out h0, h0]
            rfl
          have x0 : (k : Int) ≤ 0 := by omega
          have x0n : ¬ 0 < k := by omega
          clear hat hdg HN0 HD0 h0 hw
          rcases dg_cases s[k].toNat with ⟨g1, _⟩ | ⟨g1, g2, _⟩ | ⟨g1, _⟩
          all_goals (
            go_wp2_with (first
              | (go_at_call 21; refine (HWG.out _ _).mono ?_; rintro e w' ⟨rfl, rfl⟩)
              | (go_at_call 58; refine (HPX.out _ _).mono ?_; rintro e w' ⟨rfl, rfl⟩))
            go_ret
            exact HP.out _ _ HX.out)
        · have x0 : (0 : Int) < k := by omega
          have hw2 : wsz l = k + wT (l.drop k) := by
            rcases hw.out with h | h
            · omega
            · exact h.2
          have HW2 := Lib.hid hw2
          clear HN0 HD0 hw hw2
          rcases dg_cases s[k].toNat with ⟨g1, g3⟩ | ⟨g1, g2, g3⟩ | ⟨g1, g3⟩
          · have hnm : nmB s[k] = false := by unfold nmB; rw [h1, hdg, g3]; rfl
            cases h3 : ([58, 58] : List UInt8).isPrefixOf (l.drop k)
            · have HX : Hid ((k : Int) = (wsz l : Int)) := by
                show _ = _
                rw [HW2.out, wT_stop2 (fun b r e => by rw [hat] at e; rw [← (List.cons.inj e).1]; exact hnm) (.inl h3)]
                simp
              clear hat hnm hdg
              have hkle : k ≤ s.size := by omega
              go_wp2_with (first
                | (go_at_call 21; refine (HWG.out _ _).mono ?_; rintro e w' ⟨rfl, rfl⟩)
                | (go_at_call 58; refine (HPX.out _ _).mono ?_; rintro e w' ⟨rfl, rfl⟩))
              go_ret
              exact HP.out _ _ HX.out
            · obtain ⟨r0, hr0⟩ := List.isPrefixOf_iff_prefix.1 h3
              by_cases h4 : k + 2 < s.size
              · have ha2 := HAT.out (k + 2) h4
                have b2 := HBT.out (k + 2) h4
                have h4i : (k : Int) + 2 < (s.size : Int) := by omega
                have x4 : IntKind.i64.wrap ((k : Int) + 2) = (k : Int) + 2 := IntWalk.i64_in _ (by omega)
                have x5 : IntKind.i64.wrap ((k : Int) + 3) = (k : Int) + 3 := IntWalk.i64_in _ (by omega)
                have hr1 : l.drop (k + 2) = r0 := by
                  have := congrArg (List.drop 2) hr0
                  simp only [List.drop_drop] at this
                  simpa using this.symm
                cases h5 : stB s[k + 2]
                · have HX : Hid ((k : Int) = (wsz l : Int)) := by
                    show _ = _
                    rw [HW2.out, wT_stop2 (fun b r e => by rw [hat] at e; rw [← (List.cons.inj e).1]; exact hnm) (.inr (.inr ⟨58, 58, s[k + 2], l.drop (k + 3), by rw [← hr0, ← hr1, ha2]; rfl, h5⟩))]
                    simp
                  rw [h5] at b2
                  clear hat hnm hr0 hr1 ha2 hdg
                  go_wp2_with (first
                    | (go_at_call 21; refine (HWG.out _ _).mono ?_; rintro e w' ⟨rfl, rfl⟩)
                    | (go_at_call 58; refine (HPX.out _ _).mono ?_; rintro e w' ⟨rfl, rfl⟩))
                  go_ret
                  exact HP.out _ _ HX.out
                · have HN : Hid (wsz l = (k + 2) + wT (l.drop (k + 2))) := by
                    show _ = _
                    rw [HW2.out, ← hr0, ← hr1, ha2]
                    show k + wT (58 :: 58 :: s[k + 2] :: l.drop (k + 2 + 1)) = _
                    rw [wT_col h5]
                    omega
                  rw [h5] at b2
                  clear hat hnm hr0 hr1 ha2 hdg
                  go_wp2_with (first
                    | (go_at_call 21; refine (HWG.out _ _).mono ?_; rintro e w' ⟨rfl, rfl⟩)
                    | (go_at_call 58; refine (HPX.out _ _).mono ?_; rintro e w' ⟨rfl, rfl⟩))
                  go_round
                  case rel => exact ⟨k + 2, by omega, by go_num, .inr ⟨by omega, HN.out⟩⟩
                  case measure => simp [intOf]; omega
              · have HX : Hid ((k : Int) = (wsz l : Int)) := by
                  show _ = _
                  rw [HW2.out, wT_stop2 (fun b r e => by rw [hat] at e; rw [← (List.cons.inj e).1]; exact hnm) (.inr (.inl (by rw [List.length_drop, ← HSL.out]; omega)))]
                  simp
                have h4i : (s.size : Int) ≤ (k : Int) + 2 := by omega
                clear hat hnm hdg
                go_wp2_with (first
                  | (go_at_call 21; refine (HWG.out _ _).mono ?_; rintro e w' ⟨rfl, rfl⟩)
                  | (go_at_call 58; refine (HPX.out _ _).mono ?_; rintro e w' ⟨rfl, rfl⟩))
                go_ret
                exact HP.out _ _ HX.out
          · have HN : Hid (wsz l = (k + 1) + wT (l.drop (k + 1))) := by
              show _ = _
              rw [HW2.out, hat, wT_name (by unfold nmB; rw [h1, hdg, g3]; rfl)]
              omega
            clear hat hdg
            go_wp2_with (first
              | (go_at_call 21; refine (HWG.out _ _).mono ?_; rintro e w' ⟨rfl, rfl⟩)
              | (go_at_call 58; refine (HPX.out _ _).mono ?_; rintro e w' ⟨rfl, rfl⟩))
            go_round
            case rel => exact ⟨k + 1, by omega, by go_num, .inr ⟨by omega, HN.out⟩⟩
            case measure => simp [intOf]; omega
          · have hnm : nmB s[k] = false := by unfold nmB; rw [h1, hdg, g3]; rfl
            cases h3 : ([58, 58] : List UInt8).isPrefixOf (l.drop k)
            · have HX : Hid ((k : Int) = (wsz l : Int)) := by
                show _ = _
                rw [HW2.out, wT_stop2 (fun b r e => by rw [hat] at e; rw [← (List.cons.inj e).1]; exact hnm) (.inl h3)]
                simp
              clear hat hnm hdg
              have hkle : k ≤ s.size := by omega
              go_wp2_with (first
                | (go_at_call 21; refine (HWG.out _ _).mono ?_; rintro e w' ⟨rfl, rfl⟩)
                | (go_at_call 58; refine (HPX.out _ _).mono ?_; rintro e w' ⟨rfl, rfl⟩))
              go_ret
              exact HP.out _ _ HX.out
            · obtain ⟨r0, hr0⟩ := List.isPrefixOf_iff_prefix.1 h3
              by_cases h4 : k + 2 < s.size
              · have ha2 := HAT.out (k + 2) h4
                have b2 := HBT.out (k + 2) h4
                have h4i : (k : Int) + 2 < (s.size : Int) := by omega
                have x4 : IntKind.i64.wrap ((k : Int) + 2) = (k : Int) + 2 := IntWalk.i64_in _ (by omega)
                have x5 : IntKind.i64.wrap ((k : Int) + 3) = (k : Int) + 3 := IntWalk.i64_in _ (by omega)
                have hr1 : l.drop (k + 2) = r0 := by
                  have := congrArg (List.drop 2) hr0
                  simp only [List.drop_drop] at this
                  simpa using this.symm
                cases h5 : stB s[k + 2]
                · have HX : Hid ((k : Int) = (wsz l : Int)) := by
                    show _ = _
                    rw [HW2.out, wT_stop2 (fun b r e => by rw [hat] at e; rw [← (List.cons.inj e).1]; exact hnm) (.inr (.inr ⟨58, 58, s[k + 2], l.drop (k + 3), by rw [← hr0, ← hr1, ha2]; rfl, h5⟩))]
                    simp
                  rw [h5] at b2
                  clear hat hnm hr0 hr1 ha2 hdg
                  go_wp2_with (first
                    | (go_at_call 21; refine (HWG.out _ _).mono ?_; rintro e w' ⟨rfl, rfl⟩)
                    | (go_at_call 58; refine (HPX.out _ _).mono ?_; rintro e w' ⟨rfl, rfl⟩))
                  go_ret
                  exact HP.out _ _ HX.out
                · have HN : Hid (wsz l = (k + 2) + wT (l.drop (k + 2))) := by
                    show _ = _
                    rw [HW2.out, ← hr0, ← hr1, ha2]
                    show k + wT (58 :: 58 :: s[k + 2] :: l.drop (k + 2 + 1)) = _
                    rw [wT_col h5]
                    omega
                  rw [h5] at b2
                  clear hat hnm hr0 hr1 ha2 hdg
                  go_wp2_with (first
                    | (go_at_call 21; refine (HWG.out _ _).mono ?_; rintro e w' ⟨rfl, rfl⟩)
                    | (go_at_call 58; refine (HPX.out _ _).mono ?_; rintro e w' ⟨rfl, rfl⟩))
                  go_round
                  case rel => exact ⟨k + 2, by omega, by go_num, .inr ⟨by omega, HN.out⟩⟩
                  case measure => simp [intOf]; omega
              · have HX : Hid ((k : Int) = (wsz l : Int)) := by
                  show _ = _
                  rw [HW2.out, wT_stop2 (fun b r e => by rw [hat] at e; rw [← (List.cons.inj e).1]; exact hnm) (.inr (.inl (by rw [List.length_drop, ← HSL.out]; omega)))]
                  simp
                have h4i : (s.size : Int) ≤ (k : Int) + 2 := by omega
                clear hat hnm hdg
                go_wp2_with (first
                  | (go_at_call 21; refine (HWG.out _ _).mono ?_; rintro e w' ⟨rfl, rfl⟩)
                  | (go_at_call 58; refine (HPX.out _ _).mono ?_; rintro e w' ⟨rfl, rfl⟩))
                go_ret
                exact HP.out _ _ HX.out
      · have HN : Hid (wsz l = (k + 1) + wT (l.drop (k + 1))) := by
          show _ = _
          rcases hw.out with h | h
          · rw [HD0.out h, wsz_yes h1, ← HD0.out h]
            omega
          · rw [h.2, hat, wT_name (by unfold nmB; rw [h1]; rfl)]
            omega
        rw [h1] at b1
        have g1 := st_high h1
        clear hat HD0 hw
        go_wp2_with (first
          | (go_at_call 21; refine (HWG.out _ _).mono ?_; rintro e w' ⟨rfl, rfl⟩)
          | (go_at_call 58; refine (HPX.out _ _).mono ?_; rintro e w' ⟨rfl, rfl⟩))
        go_round
        case rel => exact ⟨k + 1, by omega, by go_num, .inr ⟨by omega, HN.out⟩⟩
        case measure => simp [intOf]; omega
    · have HX : Hid ((k : Int) = (wsz l : Int)) := by
        show _ = _
        rcases hw.out with h | h
        · have h5 : l = [] := by
            have := HEN.out k hlt
            rw [h] at this
            simpa using this
          rw [h, h5]
          rfl
        · rw [h.2, HEN.out k hlt]
          simp [wT]
      have y1 : (s.size : Int) ≤ (k : Int) := by omega
      go_wp2
      go_ret
      exact HP.out _ _ HX.out

end Go.Proofs.YtaocbhfehncdcaaGreatDoor
