/-
  Characters and their bytes, as plain mathematics: how a text parts into characters. No model's run in this text. No condition. Texts with escapes, as plain mathematics: the digits of a number in base 16, what a character becomes, what a text with escapes means, and that the one undoes the other. No model's run in this text. No condition.
-/
import Derived.Lib.MapLaws
namespace Go.Proofs.YtaocbhfehncdcaaGreatDoor
open Go.Lib

/-- Whether a number is one of a character. -/
def isC (c : Nat) : Bool := decide (c < 55296) || (decide (57344 ≤ c) && decide (c ≤ 1114111))
/-- The bytes of a character. -/
def en (c : Nat) : List UInt8 := encodeRune (c : Int)
/-- The bytes of characters. -/
def ens : List Nat → List UInt8
  | [] => []
  | c :: l => en c ++ ens l
def allC (L : List Nat) : Prop := ∀ c ∈ L, isC c = true
/-- A rest that begins with no character. -/
def Bad (r : List UInt8) : Prop := r ≠ [] ∧ decodeL r = (65533, 1)

theorem isC_iff {c : Nat} : isC c = true ↔ c < 55296 ∨ (57344 ≤ c ∧ c ≤ 1114111) := by simp [isC]
theorem en_length (c : Nat) : 1 ≤ (en c).length ∧ (en c).length ≤ 4 := by
  have := encodeRuneZ_length (c : Int)
  simpa [en, encodeRune] using this

theorem toU8 (n : Nat) (h : n < 256) : ((n : Int).toNat.toUInt8).toNat = n := by
  simp [Int.toNat_natCast, h]

theorem en1 {c : Nat} (h : c < 128) : en c = [UInt8.ofNat c] := by
  unfold en encodeRune
  rw [encodeRuneZ_one (by omega) (by omega)]
  simp
theorem en2 {c : Nat} (h : 128 ≤ c) (h2 : c < 2048) : en c = [UInt8.ofNat (192 + c / 64), UInt8.ofNat (128 + c % 64)] := by
  unfold en encodeRune
  rw [encodeRuneZ_two (by omega) (by omega)]
  simp only [List.map_cons, List.map_nil]
  congr 1
theorem en3 {c : Nat} (h : 2048 ≤ c) (h2 : c < 65536) (hc : isC c = true) : en c = [UInt8.ofNat (224 + c / 4096), UInt8.ofNat (128 + c / 64 % 64), UInt8.ofNat (128 + c % 64)] := by
  rw [isC_iff] at hc
  unfold en encodeRune
  rw [encodeRuneZ_three (by omega)]
  simp only [List.map_cons, List.map_nil]
  congr 1
theorem en4 {c : Nat} (h : 65536 ≤ c) (hc : isC c = true) : en c = [UInt8.ofNat (240 + c / 262144), UInt8.ofNat (128 + c / 4096 % 64), UInt8.ofNat (128 + c / 64 % 64), UInt8.ofNat (128 + c % 64)] := by
  rw [isC_iff] at hc
  unfold en encodeRune
  rw [encodeRuneZ_four (by omega) (by omega)]
  simp only [List.map_cons, List.map_nil]
  congr 1

theorem ofNat_toNat {n : Nat} (h : n < 256) : (UInt8.ofNat n).toNat = n := by
  simp [h]

/-- A character's bytes are read as it, whatever follows. -/
theorem decode_en {c : Nat} (hc : isC c = true) (r : List UInt8) : decodeL (en c ++ r) = (c, (en c).length) := by
  have h := isC_iff.1 hc
  rw [decodeL_N]
  by_cases h1 : c < 128
  · rw [en1 h1]
    simp only [List.cons_append, List.nil_append, List.getD_cons_zero, List.length_cons, List.length_nil]
    rw [ofNat_toNat (by omega)]
    unfold decodeN
    rw [if_pos h1]
  by_cases h2 : c < 2048
  · rw [en2 (by omega) h2]
    simp only [List.cons_append, List.nil_append, List.getD_cons_zero, List.getD_cons_succ, List.length_cons, List.length_nil]
    rw [ofNat_toNat (by omega), ofNat_toNat (by omega)]
    unfold decodeN
    rw [if_neg (by omega), if_pos (by omega), if_pos (by omega)]
    apply Prod.ext <;> simp only <;> omega
  by_cases h3 : c < 65536
  · rw [en3 (by omega) h3 hc]
    simp only [List.cons_append, List.nil_append, List.getD_cons_zero, List.getD_cons_succ, List.length_cons, List.length_nil]
    rw [ofNat_toNat (by omega), ofNat_toNat (by omega), ofNat_toNat (by omega)]
    unfold decodeN
    rw [if_neg (by omega), if_neg (by omega), if_pos (by omega), if_pos (by omega)]
    apply Prod.ext <;> simp only <;> omega
  · rw [en4 (by omega) hc]
    simp only [List.cons_append, List.nil_append, List.getD_cons_zero, List.getD_cons_succ, List.length_cons, List.length_nil]
    rw [ofNat_toNat (by omega), ofNat_toNat (by omega), ofNat_toNat (by omega), ofNat_toNat (by omega)]
    unfold decodeN
    rw [if_neg (by omega), if_neg (by omega), if_neg (by omega), if_pos (by omega), if_pos (by omega)]
    apply Prod.ext <;> simp only <;> omega

theorem ens_append (L M : List Nat) : ens (L ++ M) = ens L ++ ens M := by
  induction L with
  | nil => rfl
  | cons c L ih => simp [ens, ih]
theorem ens_one (c : Nat) : ens [c] = en c := by simp [ens]
theorem ens_length_le (L : List Nat) : L.length ≤ (ens L).length ∧ (ens L).length ≤ 4 * L.length := by
  induction L with
  | nil => simp [ens]
  | cons c L ih =>
    have := en_length c
    simp only [ens, List.length_append, List.length_cons]
    omega

/-- What decodes to a rune of a width is a character's bytes, or no character's. -/
theorem decode_parts (l : List UInt8) (hne : l ≠ []) (h : decodeL l ≠ (65533, 1)) : ∃ c r, isC c = true ∧ l = en c ++ r ∧ r.length < l.length := by
  have hv : ¬ ((decodeL l).1 = 65533 ∧ (decodeL l).2 = 1) := fun hh => h (Prod.ext hh.1 hh.2)
  have e := encode_decode l hne hv
  have hw := decodeL_width l
  have hle := decodeL_le l hne
  refine ⟨(decodeL l).1, l.drop (decodeL l).2, ?_, ?_, ?_⟩
  · rw [isC_iff]
    have hl : 0 < l.length := List.length_pos_iff.2 hne
    have k0 := (l.getD 0 0).toNat_lt
    have k1 := (l.getD 1 0).toNat_lt
    have k2 := (l.getD 2 0).toNat_lt
    have k3 := (l.getD 3 0).toNat_lt
    rw [decodeL_N] at h ⊢
    rcases decodeN_shape l.length (l.getD 0 0).toNat (l.getD 1 0).toNat (l.getD 2 0).toNat (l.getD 3 0).toNat with ⟨c, e⟩ | ⟨c1, c2, c3, cv, e⟩ | ⟨c1, c2, c3, c4, cv, cs, e⟩ | ⟨c1, c2, c3, c4, c5, cv, cw, e⟩ | e
    all_goals first | exact absurd e h | (rw [e]; dsimp only; omega)
  · show l = encodeRune _ ++ _
    rw [e, List.take_append_drop]
  · rw [List.length_drop]
    have hl : 0 < l.length := List.length_pos_iff.2 hne
    omega

/-- EVERY TEXT IS CHARACTERS, AND A REST THAT BEGINS WITH NONE. -/
theorem parts (n : Nat) : ∀ l : List UInt8, l.length ≤ n → ∃ L r, allC L ∧ l = ens L ++ r ∧ (r = [] ∨ Bad r) := by
  induction n with
  | zero =>
    intro l h
    have : l = [] := List.eq_nil_of_length_eq_zero (by omega)
    exact ⟨[], l, fun c h => (by cases h), rfl, .inl this⟩
  | succ n ih =>
    intro l h
    by_cases hne : l = []
    · exact ⟨[], l, fun c h => (by cases h), rfl, .inl hne⟩
    · by_cases hb : decodeL l = (65533, 1)
      · exact ⟨[], l, fun c h => (by cases h), rfl, .inr ⟨hne, hb⟩⟩
      · obtain ⟨c, r, hc, e, hl⟩ := decode_parts l hne hb
        obtain ⟨L, r2, hL, e2, hr⟩ := ih r (by omega)
        refine ⟨c :: L, r2, ?_, ?_, hr⟩
        · intro d hd
          rcases List.mem_cons.1 hd with rfl | hd
          · exact hc
          · exact hL d hd
        · rw [e, e2, ens, List.append_assoc]

theorem Bad.not_en {r : List UInt8} (h : Bad r) {c : Nat} (hc : isC c = true) (q : List UInt8) : r ≠ en c ++ q := by
  rintro rfl
  have := decode_en hc q
  rw [h.2] at this
  have e1 := congrArg Prod.fst this
  have e2 := congrArg Prod.snd this
  dsimp only at e1 e2
  rw [← e1, en3 (by decide) (by decide) (by decide)] at e2
  simp at e2

/-- Two lists of characters with the same bytes (and rests without one) are the same. -/
theorem ens_inj : ∀ {L M : List Nat} {r q : List UInt8}, allC L → allC M → (r = [] ∨ Bad r) → (q = [] ∨ Bad q) → ens L ++ r = ens M ++ q → L = M ∧ r = q
  | [], [], _, _, _, _, _, _, h => ⟨rfl, h⟩
  | [], c :: M, r, q, _, hM, hr, _, h => by
    have hc := hM c (by simp)
    have h' : r = en c ++ (ens M ++ q) := by simpa [ens] using h
    rcases hr with rfl | hr
    · have := en_length c
      have h2 := congrArg List.length h'
      simp at h2
      omega
    · exact absurd h' (hr.not_en hc _)
  | c :: L, [], r, q, hL, _, _, hq, h => by
    have hc := hL c (by simp)
    have h' : q = en c ++ (ens L ++ r) := by simpa [ens] using h.symm
    rcases hq with rfl | hq
    · have := en_length c
      have h2 := congrArg List.length h'
      simp at h2
      omega
    · exact absurd h' (hq.not_en hc _)
  | c :: L, d :: M, r, q, hL, hM, hr, hq, h => by
    have hc := hL c (by simp)
    have hd := hM d (by simp)
    have h' : en c ++ (ens L ++ r) = en d ++ (ens M ++ q) := by simpa [ens] using h
    have e := decode_en hc (ens L ++ r)
    rw [h', decode_en hd] at e
    have e1 : d = c := congrArg Prod.fst e
    subst e1
    have h2 := List.append_cancel_left h'
    obtain ⟨rfl, rfl⟩ := ens_inj (fun x hx => hL x (by simp [hx])) (fun x hx => hM x (by simp [hx])) hr hq h2
    exact ⟨rfl, rfl⟩

/-- What is behind the first k characters. -/
theorem ens_drop (L : List Nat) (r : List UInt8) (k : Nat) : (ens L ++ r).drop (ens (L.take k)).length = ens (L.drop k) ++ r := by
  conv => lhs; rw [← List.take_append_drop k L, ens_append, List.append_assoc]
  rw [show L.take k = (L.take k ++ L.drop k).take k by rw [List.take_append_drop]]
  simp
theorem ens_take (L : List Nat) (r : List UInt8) (k : Nat) : (ens L ++ r).take (ens (L.take k)).length = ens (L.take k) := by
  conv => lhs; rw [← List.take_append_drop k L, ens_append, List.append_assoc]
  rw [show (List.take k (List.take k L ++ List.drop k L)) = L.take k by rw [List.take_append_drop]]
  simp
theorem take_succ_get (L : List Nat) (k : Nat) (h : k < L.length) : L.take (k + 1) = L.take k ++ [L[k]] := by
  rw [List.take_succ_eq_append_getElem h]
theorem ens_step (L : List Nat) (k : Nat) (h : k < L.length) : (ens (L.take (k + 1))).length = (ens (L.take k)).length + (en L[k]).length := by
  rw [take_succ_get L k h, ens_append, ens_one, List.length_append]
theorem ens_take_lt (L : List Nat) (r : List UInt8) (k : Nat) (h : k < L.length) : (ens (L.take k)).length < (ens L ++ r).length := by
  have h1 := ens_step L k h
  have h2 := en_length L[k]
  have h3 := congrArg List.length (ens_take L r (k + 1))
  rw [List.length_take] at h3
  omega
theorem ens_take_all (L : List Nat) (k : Nat) (h : L.length ≤ k) : ens (L.take k) = ens L := by
  rw [List.take_of_length_le h]

end Go.Proofs.YtaocbhfehncdcaaGreatDoor

namespace Go.Proofs.YtaocbhfehncdcaaGreatDoor
open Go.Lib

/-- The digit of a number below 16. -/
def dgc (k : Nat) : UInt8 := if k < 10 then UInt8.ofNat (48 + k) else UInt8.ofNat (87 + k)
/-- The digits of a number in base 16. -/
def hxs (u : Nat) : List UInt8 := if _h : u < 16 then [dgc u] else hxs (u / 16) ++ [dgc (u % 16)]
termination_by u
decreasing_by exact Nat.div_lt_self (by omega) (by omega)
theorem hxs_one {u : Nat} (h : u < 16) : hxs u = [dgc u] := by
  rw [hxs, dif_pos h]
theorem hxs_more {u : Nat} (h : 16 ≤ u) : hxs u = hxs (u / 16) ++ [dgc (u % 16)] := by
  rw [hxs, dif_neg (by omega)]
theorem hxs_ne (u : Nat) : hxs u ≠ [] := by
  rw [hxs]
  split <;> simp
theorem hxs_len : ∀ (n u : Nat), u < 16 ^ (n + 1) → (hxs u).length ≤ n + 1
  | 0, u, h => by
    rw [hxs_one (by omega)]
    simp
  | n + 1, u, h => by
    by_cases h1 : u < 16
    · rw [hxs_one h1]
      simp
    · rw [hxs_more (by omega), List.length_append]
      have := hxs_len n (u / 16) (by rw [Nat.pow_succ] at h; omega)
      simp
      omega
theorem hxs_len6 {u : Nat} (h : u ≤ 1114111) : (hxs u).length ≤ 6 := hxs_len 5 u (by simp; omega)

/-- The number of a digit of base 16 in small or great letters; -1 if it is none. -/
def hxv (b : UInt8) : Int :=
  if 48 ≤ b.toNat ∧ b.toNat ≤ 57 then (b.toNat : Int) - 48 else if 97 ≤ b.toNat ∧ b.toNat ≤ 102 then (b.toNat : Int) - 87 else if 65 ≤ b.toNat ∧ b.toNat ≤ 70 then (b.toNat : Int) - 55 else -1
def isHx (b : UInt8) : Bool := decide (0 ≤ hxv b)
theorem hxv_bd (b : UInt8) : -1 ≤ hxv b ∧ hxv b ≤ 15 := by
  unfold hxv
  split
  · omega
  · split
    · omega
    · split <;> omega
theorem dgc_hx : ∀ k, k < 16 → hxv (dgc k) = (k : Int) ∧ (dgc k).toNat < 128 ∧ dgc k ≠ 125 ∧ dgc k ≠ 92 := by decide
/-- What a row of digits spells. -/
def hvl (m : Nat) : List UInt8 → Nat
  | [] => m
  | b :: t => hvl (m * 16 + (hxv b).toNat) t
theorem hvl_app (l t : List UInt8) (m : Nat) : hvl m (l ++ t) = hvl (hvl m l) t := by
  induction l generalizing m with
  | nil => rfl
  | cons b l ih => exact ih _
theorem hvl_snoc (l : List UInt8) (b : UInt8) (m : Nat) : hvl m (l ++ [b]) = hvl m l * 16 + (hxv b).toNat := by
  rw [hvl_app]
  rfl
theorem hvl_bd (l : List UInt8) (m : Nat) : hvl m l + 1 ≤ (m + 1) * 16 ^ l.length := by
  induction l generalizing m with
  | nil => simp [hvl]
  | cons b l ih =>
    have h1 := (hxv_bd b).2
    have h2 := ih (m * 16 + (hxv b).toNat)
    have h3 : m * 16 + (hxv b).toNat + 1 ≤ (m + 1) * 16 := by omega
    have h4 := Nat.mul_le_mul_right (16 ^ l.length) h3
    rw [List.length_cons, Nat.pow_succ, Nat.mul_comm (16 ^ l.length) 16, ← Nat.mul_assoc]
    exact Nat.le_trans h2 h4
theorem hxs_val : ∀ (f u : Nat), u ≤ f → hvl 0 (hxs u) = u ∧ ∀ b, b ∈ hxs u → isHx b = true ∧ b.toNat < 128 ∧ b ≠ 125 ∧ b ≠ 92
  | 0, u, h => by
    have hu : u = 0 := by omega
    subst hu
    rw [hxs_one (by omega)]
    decide
  | f + 1, u, h => by
    by_cases h1 : u < 16
    · rw [hxs_one h1]
      obtain ⟨d1, d2, d3, d4⟩ := dgc_hx u h1
      refine ⟨?_, fun b hb => ?_⟩
      · simp [hvl, d1]
      · have := List.mem_singleton.1 hb
        subst this
        refine ⟨?_, d2, d3, d4⟩
        unfold isHx
        rw [d1]
        simp
    · rw [hxs_more (by omega)]
      obtain ⟨i1, i2⟩ := hxs_val f (u / 16) (by omega)
      obtain ⟨d1, d2, d3, d4⟩ := dgc_hx (u % 16) (by omega)
      refine ⟨?_, fun b hb => ?_⟩
      · rw [hvl_snoc, i1, d1]
        omega
      · rcases List.mem_append.1 hb with hb | hb
        · exact i2 b hb
        · have := List.mem_singleton.1 hb
          subst this
          refine ⟨?_, d2, d3, d4⟩
          unfold isHx
          rw [d1]
          exact decide_eq_true (by omega)

/-- The digits in front, at most n. -/
def hxt : Nat → List UInt8 → List UInt8
  | 0, _ => []
  | _, [] => []
  | n + 1, b :: t => if isHx b = true then b :: hxt n t else []
theorem hxt_is : ∀ (n k : Nat) (t : List UInt8), k ≤ n → k ≤ t.length → (∀ j (_ : j < k) (h2 : j < t.length), isHx t[j] = true) → (k = n ∨ k = t.length ∨ ∃ h : k < t.length, isHx t[k] = false) → hxt n t = t.take k
  | 0, k, t, h1, _, _, _ => by
    have : k = 0 := by omega
    subst this
    rfl
  | n + 1, k, [], _, h2, _, _ => by
    simp at h2
    subst h2
    rfl
  | n + 1, 0, b :: t, _, _, _, he => by
    rcases he with he | he | ⟨h, he⟩
    · omega
    · simp at he
    · show (if isHx b = true then b :: hxt n t else []) = []
      rw [if_neg]
      have : isHx b = false := he
      rw [this]
      simp
  | n + 1, k + 1, b :: t, h1, h2, hg, he => by
    have h0 : isHx b = true := hg 0 (by omega) (by simp)
    show (if isHx b = true then b :: hxt n t else []) = b :: t.take k
    rw [if_pos h0]
    congr 1
    refine hxt_is n k t (by omega) (by simpa using h2) (fun j h h2 => ?_) ?_
    · have := hg (j + 1) (by omega) (by simpa using h2)
      simpa using this
    · rcases he with he | he | ⟨h, he⟩
      · exact .inl (by omega)
      · exact .inr (.inl (by simpa using he))
      · refine .inr (.inr ⟨by simpa using h, ?_⟩)
        simpa using he

theorem hxt_pre : ∀ (n : Nat) (t : List UInt8), ∃ k, k ≤ t.length ∧ k ≤ n ∧ (∀ j (_ : j < k) (h2 : j < t.length), isHx t[j] = true) ∧ hxt n t = t.take k
  | 0, t => ⟨0, by omega, by omega, fun j h => by omega, rfl⟩
  | n + 1, [] => ⟨0, by simp, by omega, fun j h => by omega, rfl⟩
  | n + 1, b :: t => by
    by_cases hb : isHx b = true
    · obtain ⟨k, h1, h2, h3, h4⟩ := hxt_pre n t
      refine ⟨k + 1, by simpa using h1, by omega, fun j h h' => ?_, ?_⟩
      · cases j with
        | zero => exact hb
        | succ j =>
          have := h3 j (by omega) (by simpa using h')
          simpa using this
      · show (if isHx b = true then b :: hxt n t else []) = b :: t.take k
        rw [if_pos hb, h4]
    · refine ⟨0, by simp, by omega, fun j h => by omega, ?_⟩
      show (if isHx b = true then b :: hxt n t else []) = []
      rw [if_neg hb]

/-- What stands behind x and an opening brace: the character, and the rest; none where it is none. -/
def brc (t : List UInt8) : Option (Nat × List UInt8) :=
  if hxt 6 t = [] then none else
  match t.drop (hxt 6 t).length with
  | b :: r => if b = 125 ∧ isC (hvl 0 (hxt 6 t)) = true then some (hvl 0 (hxt 6 t), r) else none
  | [] => none
/-- What stands behind a backslash. -/
def esb (t : List UInt8) : Option (Nat × List UInt8) :=
  match t with
  | 92 :: r => some (92, r)
  | 120 :: 123 :: u => brc u
  | _ => none
theorem brc_shorter {t r : List UInt8} {c : Nat} (h : brc t = some (c, r)) : r.length < t.length ∧ isC c = true := by
  unfold brc at h
  split at h
  · cases h
  · split at h
    · rename_i b r' he
      split at h
      · rename_i hb
        simp only [Option.some.injEq, Prod.mk.injEq] at h
        obtain ⟨rfl, rfl⟩ := h
        have := congrArg List.length he
        simp at this
        exact ⟨by omega, hb.2⟩
      · cases h
    · cases h
theorem esb_shorter {t r : List UInt8} {c : Nat} (h : esb t = some (c, r)) : r.length < t.length ∧ isC c = true := by
  unfold esb at h
  split at h
  · simp only [Option.some.injEq, Prod.mk.injEq] at h
    obtain ⟨rfl, rfl⟩ := h
    exact ⟨by simp, by decide⟩
  · have := brc_shorter h
    exact ⟨by have := this.1; simp; omega, this.2⟩
  · cases h
/-- A row of digits and a closing brace. -/
theorem brc_hit {d r : List UInt8} (h0 : d ≠ []) (h1 : d.length ≤ 6) (h2 : ∀ b ∈ d, isHx b = true) (hc : isC (hvl 0 d) = true) : brc (d ++ 125 :: r) = some (hvl 0 d, r) := by
  have ht : hxt 6 (d ++ 125 :: r) = d := by
    have := hxt_is 6 d.length (d ++ 125 :: r) h1 (by simp) (fun j h h' => ?_) (.inr (.inr ⟨by simp, ?_⟩))
    · rw [this, List.take_left']
      rfl
    · rw [List.getElem_append_left h]
      exact h2 _ (List.getElem_mem h)
    · rw [List.getElem_append_right (by omega)]
      simp
      decide
  unfold brc
  rw [ht, if_neg h0, List.drop_left' rfl]
  show (if (125 : UInt8) = 125 ∧ isC (hvl 0 d) = true then some (hvl 0 d, r) else none) = _
  rw [if_pos ⟨rfl, hc⟩]
/-- Where the digits are none, too many, or spell no character. -/
theorem brc_miss {d r : List UInt8} (hd : (125 : UInt8) ∉ d) (h : ¬ (d ≠ [] ∧ d.length ≤ 6 ∧ (∀ b ∈ d, isHx b = true) ∧ isC (hvl 0 d) = true)) : brc (d ++ 125 :: r) = none := by
  cases hb : brc (d ++ 125 :: r) with
  | none => rfl
  | some p =>
    exfalso
    obtain ⟨c, q⟩ := p
    unfold brc at hb
    split at hb
    · cases hb
    · rename_i hne
      split at hb
      · rename_i b r' he
        split at hb
        · rename_i hbc
          obtain ⟨rfl, hC⟩ := hbc
          exact h (by
            obtain ⟨k, hk, hk6, hpre, htk⟩ := hxt_pre 6 (d ++ 125 :: r)
            rw [htk] at he hne hC
            have hlen : ((d ++ 125 :: r).take k).length = k := by rw [List.length_take]; omega
            rw [hlen] at he
            have hkd : k = d.length := by
              rcases Nat.lt_trichotomy k d.length with hlt | heq | hgt
              · exfalso
                rw [List.drop_append_of_le_length (by omega), List.drop_eq_getElem_cons hlt] at he
                have e1 : d[k] = 125 := by
                  rw [List.cons_append] at he
                  exact (List.cons.inj he).1
                exact hd (e1 ▸ List.getElem_mem hlt)
              · exact heq
              · exfalso
                have := hpre d.length hgt (by simp)
                rw [List.getElem_append_right (by omega)] at this
                simp at this
                exact absurd this (by decide)
            subst hkd
            rw [List.take_left' rfl] at hne hC
            refine ⟨hne, hk6, fun b hb => ?_, hC⟩
            obtain ⟨j, hj, rfl⟩ := List.mem_iff_getElem.1 hb
            have := hpre j hj (by simp; omega)
            rwa [List.getElem_append_left hj] at this)
        · cases hb
      · cases hb
theorem brc_none {t : List UInt8} (h : (125 : UInt8) ∉ t) : brc t = none := by
  unfold brc
  split
  · rfl
  · split
    · rename_i b r he
      rw [if_neg]
      rintro ⟨rfl, _⟩
      exact h (List.mem_of_mem_drop (he ▸ List.mem_cons_self))
    · rfl

/-- What a text with escapes means, by at most n steps. -/
def uneF : Nat → List UInt8 → Option (List UInt8)
  | 0, _ => some []
  | _, [] => some []
  | n + 1, b :: t => if b = 92 then
      match esb t with
      | none => none
      | some (c, r) => (uneF n r).map (en c ++ ·)
    else (uneF n t).map (b :: ·)
def une (l : List UInt8) : Option (List UInt8) := uneF l.length l
theorem uneF_more : ∀ (n m : Nat) (l : List UInt8), l.length ≤ n → l.length ≤ m → uneF n l = uneF m l
  | n, m, [], _, _ => by cases n <;> cases m <;> rfl
  | 0, m, b :: t, h, _ => by simp at h
  | n + 1, 0, b :: t, _, h => by simp at h
  | n + 1, m + 1, b :: t, h1, h2 => by
    simp only [List.length_cons] at h1 h2
    show (if b = 92 then (match esb t with | none => none | some (c, r) => (uneF n r).map (en c ++ ·)) else (uneF n t).map (b :: ·)) = (if b = 92 then (match esb t with | none => none | some (c, r) => (uneF m r).map (en c ++ ·)) else (uneF m t).map (b :: ·))
    split
    · split
      · rfl
      · rename_i c r he
        have := (esb_shorter he).1
        rw [uneF_more n m r (by omega) (by omega)]
    · rw [uneF_more n m t (by omega) (by omega)]
theorem une_nil : une [] = some [] := rfl
theorem une_plain {b : UInt8} {t : List UInt8} (h : b ≠ 92) : une (b :: t) = (une t).map (b :: ·) := by
  show (if b = 92 then (match esb t with | none => none | some (c, r) => (uneF t.length r).map (en c ++ ·)) else (uneF t.length t).map (b :: ·)) = _
  rw [if_neg h]
  rfl
theorem une_esc {t r : List UInt8} {c : Nat} (h : esb t = some (c, r)) : une (92 :: t) = (une r).map (en c ++ ·) := by
  show (if (92 : UInt8) = 92 then (match esb t with | none => none | some (c, r) => (uneF t.length r).map (en c ++ ·)) else (uneF t.length t).map (92 :: ·)) = _
  rw [if_pos rfl, h]
  show (uneF t.length r).map _ = (uneF r.length r).map _
  rw [uneF_more t.length r.length r (by have := (esb_shorter h).1; omega) (Nat.le_refl _)]
theorem une_bad {t : List UInt8} (h : esb t = none) : une (92 :: t) = none := by
  show (if (92 : UInt8) = 92 then (match esb t with | none => none | some (c, r) => (uneF t.length r).map (en c ++ ·)) else (uneF t.length t).map (92 :: ·)) = _
  rw [if_pos rfl, h]
theorem une_app : ∀ (d t : List UInt8), (92 : UInt8) ∉ d → une (d ++ t) = (une t).map (d ++ ·)
  | [], t, _ => by
    show une t = (une t).map (fun x => x)
    cases une t <;> rfl
  | b :: d, t, h => by
    have h1 : b ≠ 92 := fun e => h (by simp [e])
    have h2 : (92 : UInt8) ∉ d := fun e => h (by simp [e])
    rw [List.cons_append, une_plain h1, une_app d t h2]
    cases une t <;> rfl
theorem une_len : ∀ (n : Nat) (l r : List UInt8), l.length ≤ n → une l = some r → r.length ≤ 4 * l.length
  | _, [], r, _, h => by
    cases h
    simp
  | 0, b :: t, r, h, _ => by simp at h
  | n + 1, b :: t, r, h, hu => by
    simp only [List.length_cons] at h ⊢
    by_cases hb : b = 92
    · subst hb
      cases he : esb t with
      | none =>
        rw [une_bad he] at hu
        cases hu
      | some p =>
        obtain ⟨c, q⟩ := p
        rw [une_esc he] at hu
        obtain ⟨x, hx, rfl⟩ := Option.map_eq_some_iff.1 hu
        have h1 := (esb_shorter he).1
        have h2 := une_len n q x (by omega) hx
        have h3 := (en_length c).2
        rw [List.length_append]
        omega
    · rw [une_plain hb] at hu
      obtain ⟨x, hx, rfl⟩ := Option.map_eq_some_iff.1 hu
      have h2 := une_len n t x (by omega) hx
      simp
      omega

/-- What a character becomes. -/
def esC (c : Nat) : List Nat := if c = 92 then [92, 92] else if (c < 32 ∨ 126 < c) ∧ c ≤ 1114111 then 92 :: 120 :: 123 :: ((hxs c).map (·.toNat) ++ [125]) else [c]
theorem ens_small : ∀ (l : List UInt8), (∀ b ∈ l, b.toNat < 128) → ens (l.map (·.toNat)) = l
  | [], _ => rfl
  | b :: l, h => by
    have h0 := h b (by simp)
    show en b.toNat ++ ens (l.map (·.toNat)) = b :: l
    rw [ens_small l (fun d hd => h d (by simp [hd])), en1 h0]
    simp
theorem esC_ens (c : Nat) (hc : c ≤ 1114111) : ens (esC c) = if c = 92 then [92, 92] else if c < 32 ∨ 126 < c then 92 :: 120 :: 123 :: (hxs c ++ [125]) else en c := by
  unfold esC
  simp only [hc, and_true]
  split
  · decide
  · split
    · show en 92 ++ (en 120 ++ (en 123 ++ ens ((hxs c).map (·.toNat) ++ [125]))) = _
      rw [ens_append, ens_small _ (fun b hb => ((hxs_val c c (Nat.le_refl _)).2 b hb).2.1)]
      rfl
    · exact ens_one c
theorem esC_len (c : Nat) : (esC c).length ≤ 10 := by
  unfold esC
  split
  · simp
  · split
    · rename_i h
      have := hxs_len6 (u := c) h.2
      simp
      omega
    · simp
theorem esC_small {c : Nat} (hc : c ≤ 1114111) (d : Nat) (hd : d ∈ esC c) : d < 128 := by
  unfold esC at hd
  simp only [hc, and_true] at hd
  split at hd
  · simp at hd
    omega
  · split at hd
    · simp only [List.mem_cons, List.mem_append, List.mem_map, List.not_mem_nil, or_false] at hd
      rcases hd with hd | hd | hd | ⟨b, hb, rfl⟩ | hd
      · omega
      · omega
      · omega
      · exact ((hxs_val c c (Nat.le_refl _)).2 b hb).2.1
      · omega
    · simp at hd
      omega
theorem esC_allC {c : Nat} (hc : c ≤ 1114111) : allC (esC c) := fun d hd => by
  have := esC_small hc d hd
  exact isC_iff.2 (by omega)
theorem une_one (c : Nat) (hc : isC c = true) (t : List UInt8) : une (ens (esC c) ++ t) = (une t).map (en c ++ ·) := by
  have hci := isC_iff.1 hc
  rw [esC_ens c (by omega)]
  split
  · rename_i h
    subst h
    exact une_esc (t := 92 :: t) rfl
  · split
    · rename_i h1 h2
      refine une_esc (t := 120 :: 123 :: (hxs c ++ [125] ++ t)) ?_
      show brc (hxs c ++ [125] ++ t) = _
      rw [List.append_assoc]
      have hv := hxs_val c c (Nat.le_refl _)
      have := brc_hit (d := hxs c) (r := t) (hxs_ne c) (hxs_len6 (by omega)) (fun b hb => (hv.2 b hb).1) (by rw [hv.1]; exact hc)
      rw [hv.1] at this
      exact this
    · rename_i h1 h2
      rw [en1 (by omega)]
      refine une_plain ?_
      intro e
      have := congrArg UInt8.toNat e
      rw [ofNat_toNat (by omega)] at this
      exact h1 this
/-- The one undoes the other. -/
theorem une_of : ∀ (L : List Nat), allC L → une (ens (L.flatMap esC)) = some (ens L)
  | [], _ => rfl
  | c :: L, h => by
    show une (ens (esC c ++ L.flatMap esC)) = some (en c ++ ens L)
    rw [ens_append, une_one c (h c (by simp)), une_of L (fun d hd => h d (by simp [hd]))]
    rfl

end Go.Proofs.YtaocbhfehncdcaaGreatDoor
