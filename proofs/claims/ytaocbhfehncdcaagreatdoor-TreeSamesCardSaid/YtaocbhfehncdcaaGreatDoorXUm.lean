/-
  Characters and their bytes, as plain mathematics: how a text parts into characters. No model's run in this text. No condition.
-/
import Derived.Lib.MapLaws
namespace Go.Proofs.YtaocbhfehncdcaaGreatDoor
open Go.Lib

/-- Whether a number is one of a character. -/
def isC (c : Nat) : Bool := decide (c < 55296) || (decide (57344 ≤ c) && decide (c ≤ 1114111))
/-- The bytes of a character. -/
def en (c : Nat) : List UInt8 := encodeRune (c : Int)
/-- The bytes of characters. -/
def ens : List Nat → List UInt8
  | [] => []
  | c :: l => en c ++ ens l
def allC (L : List Nat) : Prop := ∀ c ∈ L, isC c = true
/-- A rest that begins with no character. -/
def Bad (r : List UInt8) : Prop := r ≠ [] ∧ decodeL r = (65533, 1)

theorem isC_iff {c : Nat} : isC c = true ↔ c < 55296 ∨ (57344 ≤ c ∧ c ≤ 1114111) := by simp [isC]
theorem en_length (c : Nat) : 1 ≤ (en c).length ∧ (en c).length ≤ 4 := by
  have := encodeRuneZ_length (c : Int)
  simpa [en, encodeRune] using this

theorem toU8 (n : Nat) (h : n < 256) : ((n : Int).toNat.toUInt8).toNat = n := by
  simp [Int.toNat_natCast, h]

theorem en1 {c : Nat} (h : c < 128) : en c = [UInt8.ofNat c] := by
  unfold en encodeRune
  rw [encodeRuneZ_one (by omega) (by omega)]
  simp
theorem en2 {c : Nat} (h : 128 ≤ c) (h2 : c < 2048) : en c = [UInt8.ofNat (192 + c / 64), UInt8.ofNat (128 + c % 64)] := by
  unfold en encodeRune
  rw [encodeRuneZ_two (by omega) (by omega)]
  simp only [List.map_cons, List.map_nil]
  congr 1
theorem en3 {c : Nat} (h : 2048 ≤ c) (h2 : c < 65536) (hc : isC c = true) : en c = [UInt8.ofNat (224 + c / 4096), UInt8.ofNat (128 + c / 64 % 64), UInt8.ofNat (128 + c % 64)] := by
  rw [isC_iff] at hc
  unfold en encodeRune
  rw [encodeRuneZ_three (by omega)]
  simp only [List.map_cons, List.map_nil]
  congr 1
theorem en4 {c : Nat} (h : 65536 ≤ c) (hc : isC c = true) : en c = [UInt8.ofNat (240 + c / 262144), UInt8.ofNat (128 + c / 4096 % 64), UInt8.ofNat (128 + c / 64 % 64), UInt8.ofNat (128 + c % 64)] := by
  rw [isC_iff] at hc
  unfold en encodeRune
  rw [encodeRuneZ_four (by omega) (by omega)]
  simp only [List.map_cons, List.map_nil]
  congr 1

theorem ofNat_toNat {n : Nat} (h : n < 256) : (UInt8.ofNat n).toNat = n := by
  simp [h]

/-- A character's bytes are read as it, whatever follows. -/
theorem decode_en {c : Nat} (hc : isC c = true) (r : List UInt8) : decodeL (en c ++ r) = (c, (en c).length) := by
  have h := isC_iff.1 hc
  rw [decodeL_N]
  by_cases h1 : c < 128
  · rw [en1 h1]
    simp only [List.cons_append, List.nil_append, List.getD_cons_zero, List.length_cons, List.length_nil]
    rw [ofNat_toNat (by omega)]
    unfold decodeN
    rw [if_pos h1]
  by_cases h2 : c < 2048
  · rw [en2 (by omega) h2]
    simp only [List.cons_append, List.nil_append, List.getD_cons_zero, List.getD_cons_succ, List.length_cons, List.length_nil]
    rw [ofNat_toNat (by omega), ofNat_toNat (by omega)]
    unfold decodeN
    rw [if_neg (by omega), if_pos (by omega), if_pos (by omega)]
    apply Prod.ext <;> simp only <;> omega
  by_cases h3 : c < 65536
  · rw [en3 (by omega) h3 hc]
    simp only [List.cons_append, List.nil_append, List.getD_cons_zero, List.getD_cons_succ, List.length_cons, List.length_nil]
    rw [ofNat_toNat (by omega), ofNat_toNat (by omega), ofNat_toNat (by omega)]
    unfold decodeN
    rw [if_neg (by omega), if_neg (by omega), if_pos (by omega), if_pos (by omega)]
    apply Prod.ext <;> simp only <;> omega
  · rw [en4 (by omega) hc]
    simp only [List.cons_append, List.nil_append, List.getD_cons_zero, List.getD_cons_succ, List.length_cons, List.length_nil]
    rw [ofNat_toNat (by omega), ofNat_toNat (by omega), ofNat_toNat (by omega), ofNat_toNat (by omega)]
    unfold decodeN
    rw [if_neg (by omega), if_neg (by omega), if_neg (by omega), if_pos (by omega), if_pos (by omega)]
    apply Prod.ext <;> simp only <;> omega

theorem ens_append (L M : List Nat) : ens (L ++ M) = ens L ++ ens M := by
  induction L with
  | nil => rfl
  | cons c L ih => simp [ens, ih]
theorem ens_one (c : Nat) : ens [c] = en c := by simp [ens]
theorem ens_length_le (L : List Nat) : L.length ≤ (ens L).length ∧ (ens L).length ≤ 4 * L.length := by
  induction L with
  | nil => simp [ens]
  | cons c L ih =>
    have := en_length c
    simp only [ens, List.length_append, List.length_cons]
    omega

/-- What decodes to a rune of a width is a character's bytes, or no character's. -/
theorem decode_parts (l : List UInt8) (hne : l ≠ []) (h : decodeL l ≠ (65533, 1)) : ∃ c r, isC c = true ∧ l = en c ++ r ∧ r.length < l.length := by
  have hv : ¬ ((decodeL l).1 = 65533 ∧ (decodeL l).2 = 1) := fun hh => h (Prod.ext hh.1 hh.2)
  have e := encode_decode l hne hv
  have hw := decodeL_width l
  have hle := decodeL_le l hne
  refine ⟨(decodeL l).1, l.drop (decodeL l).2, ?_, ?_, ?_⟩
  · rw [isC_iff]
    have hl : 0 < l.length := List.length_pos_iff.2 hne
    have k0 := (l.getD 0 0).toNat_lt
    have k1 := (l.getD 1 0).toNat_lt
    have k2 := (l.getD 2 0).toNat_lt
    have k3 := (l.getD 3 0).toNat_lt
    rw [decodeL_N] at h ⊢
    rcases decodeN_shape l.length (l.getD 0 0).toNat (l.getD 1 0).toNat (l.getD 2 0).toNat (l.getD 3 0).toNat with ⟨c, e⟩ | ⟨c1, c2, c3, cv, e⟩ | ⟨c1, c2, c3, c4, cv, cs, e⟩ | ⟨c1, c2, c3, c4, c5, cv, cw, e⟩ | e
    all_goals first | exact absurd e h | (rw [e]; dsimp only; omega)
  · show l = encodeRune _ ++ _
    rw [e, List.take_append_drop]
  · rw [List.length_drop]
    have hl : 0 < l.length := List.length_pos_iff.2 hne
    omega

/-- EVERY TEXT IS CHARACTERS, AND A REST THAT BEGINS WITH NONE. -/
theorem parts (n : Nat) : ∀ l : List UInt8, l.length ≤ n → ∃ L r, allC L ∧ l = ens L ++ r ∧ (r = [] ∨ Bad r) := by
  induction n with
  | zero =>
    intro l h
    have : l = [] := List.eq_nil_of_length_eq_zero (by omega)
    exact ⟨[], l, fun c h => (by cases h), rfl, .inl this⟩
  | succ n ih =>
    intro l h
    by_cases hne : l = []
    · exact ⟨[], l, fun c h => (by cases h), rfl, .inl hne⟩
    · by_cases hb : decodeL l = (65533, 1)
      · exact ⟨[], l, fun c h => (by cases h), rfl, .inr ⟨hne, hb⟩⟩
      · obtain ⟨c, r, hc, e, hl⟩ := decode_parts l hne hb
        obtain ⟨L, r2, hL, e2, hr⟩ := ih r (by omega)
        refine ⟨c :: L, r2, ?_, ?_, hr⟩
        · intro d hd
          rcases List.mem_cons.1 hd with rfl | hd
          · exact hc
          · exact hL d hd
        · rw [e, e2, ens, List.append_assoc]

theorem Bad.not_en {r : List UInt8} (h : Bad r) {c : Nat} (hc : isC c = true) (q : List UInt8) : r ≠ en c ++ q := by
  rintro rfl
  have := decode_en hc q
  rw [h.2] at this
  have e1 := congrArg Prod.fst this
  have e2 := congrArg Prod.snd this
  dsimp only at e1 e2
  rw [← e1, en3 (by decide) (by decide) (by decide)] at e2
  simp at e2

/-- Two lists of characters with the same bytes (and rests without one) are the same. -/
theorem ens_inj : ∀ {L M : List Nat} {r q : List UInt8}, allC L → allC M → (r = [] ∨ Bad r) → (q = [] ∨ Bad q) → ens L ++ r = ens M ++ q → L = M ∧ r = q
  | [], [], _, _, _, _, _, _, h => ⟨rfl, h⟩
  | [], c :: M, r, q, _, hM, hr, _, h => by
    have hc := hM c (by simp)
    have h' : r = en c ++ (ens M ++ q) := by simpa [ens] using h
    rcases hr with rfl | hr
    · have := en_length c
      have h2 := congrArg List.length h'
      simp at h2
      omega
    · exact absurd h' (hr.not_en hc _)
  | c :: L, [], r, q, hL, _, _, hq, h => by
    have hc := hL c (by simp)
    have h' : q = en c ++ (ens L ++ r) := by simpa [ens] using h.symm
    rcases hq with rfl | hq
    · have := en_length c
      have h2 := congrArg List.length h'
      simp at h2
      omega
    · exact absurd h' (hq.not_en hc _)
  | c :: L, d :: M, r, q, hL, hM, hr, hq, h => by
    have hc := hL c (by simp)
    have hd := hM d (by simp)
    have h' : en c ++ (ens L ++ r) = en d ++ (ens M ++ q) := by simpa [ens] using h
    have e := decode_en hc (ens L ++ r)
    rw [h', decode_en hd] at e
    have e1 : d = c := congrArg Prod.fst e
    subst e1
    have h2 := List.append_cancel_left h'
    obtain ⟨rfl, rfl⟩ := ens_inj (fun x hx => hL x (by simp [hx])) (fun x hx => hM x (by simp [hx])) hr hq h2
    exact ⟨rfl, rfl⟩

/-- What is behind the first k characters. -/
theorem ens_drop (L : List Nat) (r : List UInt8) (k : Nat) : (ens L ++ r).drop (ens (L.take k)).length = ens (L.drop k) ++ r := by
  conv => lhs; rw [← List.take_append_drop k L, ens_append, List.append_assoc]
  rw [show L.take k = (L.take k ++ L.drop k).take k by rw [List.take_append_drop]]
  simp
theorem ens_take (L : List Nat) (r : List UInt8) (k : Nat) : (ens L ++ r).take (ens (L.take k)).length = ens (L.take k) := by
  conv => lhs; rw [← List.take_append_drop k L, ens_append, List.append_assoc]
  rw [show (List.take k (List.take k L ++ List.drop k L)) = L.take k by rw [List.take_append_drop]]
  simp
theorem take_succ_get (L : List Nat) (k : Nat) (h : k < L.length) : L.take (k + 1) = L.take k ++ [L[k]] := by
  rw [List.take_succ_eq_append_getElem h]
theorem ens_step (L : List Nat) (k : Nat) (h : k < L.length) : (ens (L.take (k + 1))).length = (ens (L.take k)).length + (en L[k]).length := by
  rw [take_succ_get L k h, ens_append, ens_one, List.length_append]
theorem ens_take_lt (L : List Nat) (r : List UInt8) (k : Nat) (h : k < L.length) : (ens (L.take k)).length < (ens L ++ r).length := by
  have h1 := ens_step L k h
  have h2 := en_length L[k]
  have h3 := congrArg List.length (ens_take L r (k + 1))
  rw [List.length_take] at h3
  omega
theorem ens_take_all (L : List Nat) (k : Nat) (h : L.length ≤ k) : ens (L.take k) = ens L := by
  rw [List.take_of_length_le h]

end Go.Proofs.YtaocbhfehncdcaaGreatDoor
