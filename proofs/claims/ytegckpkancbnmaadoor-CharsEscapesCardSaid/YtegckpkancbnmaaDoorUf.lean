/-
  What the document's way of reading one character gives, as plain mathematics. No model's run in this text. No condition.
-/
import Derived.Test.YtegckpkancbnmaaDoorUm
namespace Go.Proofs.YtegckpkancbnmaaDoor
open Go.Lib

/-- The character in front and its width; twice 0 where there is none. -/
def fstR (l : List UInt8) : Nat × Nat := if l = [] ∨ decodeL l = (65533, 1) then (0, 0) else decodeL l

theorem fst_en {c : Nat} (hc : isC c = true) (r : List UInt8) : fstR (en c ++ r) = (c, (en c).length) := by
  unfold fstR
  rw [decode_en hc]
  rw [if_neg]
  rintro (h | h)
  · have := en_length c
    have h2 := congrArg List.length h
    rw [List.length_append, List.length_nil] at h2
    omega
  · have e1 : c = 65533 := congrArg Prod.fst h
    subst e1
    have e2 : (en 65533).length = 1 := congrArg Prod.snd h
    rw [en3 (by decide) (by decide) (by decide)] at e2
    simp at e2
theorem fst_bad {r : List UInt8} (h : Bad r) : fstR r = (0, 0) := by
  unfold fstR
  rw [if_pos (.inr h.2)]
theorem fst_nil : fstR [] = (0, 0) := by simp [fstR]

/-- A leading byte of n bytes. -/
def Lead (b n : Nat) : Prop := (n = 2 ∧ 192 ≤ b ∧ b < 224) ∨ (n = 3 ∧ 224 ≤ b ∧ b < 240) ∨ (n = 4 ∧ 240 ≤ b ∧ b < 248)
def leadBase (n : Nat) : Nat := if n = 2 then 192 else if n = 3 then 224 else 240
def leadLeast (n : Nat) : Nat := if n = 2 then 128 else if n = 3 then 2048 else 65536
/-- What k bytes make. -/
def valB (b : Nat → Nat) (c0 : Int) : Nat → Int
  | 0 => c0
  | 1 => c0
  | k + 2 => valB b c0 (k + 1) * 64 + (b (k + 1) : Int) - 128
def byteAt (l : List UInt8) (k : Nat) : Nat := (l.getD k 0).toNat
def Cont (l : List UInt8) (k : Nat) : Prop := 128 ≤ byteAt l k ∧ byteAt l k < 192

theorem byteAt_lt (l : List UInt8) (k : Nat) : byteAt l k < 256 := (l.getD k 0).toNat_lt
theorem fst_N (l : List UInt8) (hne : l ≠ []) : fstR l = if decodeN l.length (byteAt l 0) (byteAt l 1) (byteAt l 2) (byteAt l 3) = (65533, 1) then (0, 0) else decodeN l.length (byteAt l 0) (byteAt l 1) (byteAt l 2) (byteAt l 3) := by
  unfold fstR
  rw [decodeL_N]
  simp only [hne, false_or]
  rfl
theorem fst_ascii (l : List UInt8) (hne : l ≠ []) (h : byteAt l 0 < 128) : fstR l = (byteAt l 0, 1) := by
  rw [fst_N l hne]
  have hd : decodeN l.length (byteAt l 0) (byteAt l 1) (byteAt l 2) (byteAt l 3) = (byteAt l 0, 1) := by
    unfold decodeN
    rw [if_pos h]
  rw [hd, if_neg]
  intro h2
  have := congrArg Prod.fst h2
  dsimp only at this
  omega
theorem dec_no (n b0 b1 b2 b3 : Nat) (h : decodeN n b0 b1 b2 b3 = (65533, 1)) : (if decodeN n b0 b1 b2 b3 = (65533, 1) then ((0, 0) : Nat × Nat) else decodeN n b0 b1 b2 b3) = (0, 0) := if_pos h
theorem fst_nolead (l : List UInt8) (hne : l ≠ []) (h1 : 128 ≤ byteAt l 0) (h2 : byteAt l 0 < 192 ∨ 248 ≤ byteAt l 0) : fstR l = (0, 0) := by
  rw [fst_N l hne]
  apply dec_no
  unfold decodeN
  rw [if_neg (by omega), if_neg (by omega), if_neg (by omega), if_neg (by omega)]
theorem fst_short (l : List UInt8) (n : Nat) (hne : l ≠ []) (h : Lead (byteAt l 0) n) (hl : l.length < n) : fstR l = (0, 0) := by
  rw [fst_N l hne]
  apply dec_no
  unfold decodeN
  unfold Lead at h
  rw [if_neg (by omega), if_neg (by omega), if_neg (by omega), if_neg (by omega)]
theorem fst_cont (l : List UInt8) (n k : Nat) (h : Lead (byteAt l 0) n) (hl : n ≤ l.length) (hk : 1 ≤ k) (hkn : k < n) (hc : ¬ Cont l k) : fstR l = (0, 0) := by
  have hne : l ≠ [] := by
    rintro rfl
    unfold Lead at h
    simp at hl
    omega
  rw [fst_N l hne]
  apply dec_no
  have hb := byteAt_lt l k
  unfold Cont at hc
  unfold decodeN
  unfold Lead at h
  have hk3 : k = 1 ∨ k = 2 ∨ k = 3 := by omega
  rcases hk3 with rfl | rfl | rfl
  · rw [if_neg (by omega), if_neg (by omega), if_neg (by omega), if_neg (by omega)]
  · rw [if_neg (by omega), if_neg (by omega), if_neg (by omega), if_neg (by omega)]
  · rw [if_neg (by omega), if_neg (by omega), if_neg (by omega), if_neg (by omega)]
theorem val_bd (b : Nat → Nat) (c0 : Int) (h0 : 0 ≤ c0) (h1 : c0 < 32) (n k : Nat) (hb : ∀ j, 1 ≤ j → j < n → 128 ≤ b j ∧ b j < 192) (hk : k ≤ n) (hn : n ≤ 4) : 0 ≤ valB b c0 k ∧ valB b c0 k < 8388608 := by
  match k with
  | 0 => exact ⟨h0, by show c0 < _; omega⟩
  | 1 => exact ⟨h0, by show c0 < _; omega⟩
  | 2 =>
    have := hb 1 (by omega) (by omega)
    show 0 ≤ c0 * 64 + (b 1 : Int) - 128 ∧ c0 * 64 + (b 1 : Int) - 128 < _
    omega
  | 3 =>
    have := hb 1 (by omega) (by omega)
    have := hb 2 (by omega) (by omega)
    show 0 ≤ (c0 * 64 + (b 1 : Int) - 128) * 64 + (b 2 : Int) - 128 ∧ (c0 * 64 + (b 1 : Int) - 128) * 64 + (b 2 : Int) - 128 < _
    omega
  | 4 =>
    have := hb 1 (by omega) (by omega)
    have := hb 2 (by omega) (by omega)
    have := hb 3 (by omega) (by omega)
    show 0 ≤ ((c0 * 64 + (b 1 : Int) - 128) * 64 + (b 2 : Int) - 128) * 64 + (b 3 : Int) - 128 ∧ ((c0 * 64 + (b 1 : Int) - 128) * 64 + (b 2 : Int) - 128) * 64 + (b 3 : Int) - 128 < _
    omega
  | k + 5 => omega
def isCI (c : Int) : Bool := decide (0 ≤ c) && decide (c ≤ 1114111) && !(decide (55296 ≤ c) && decide (c ≤ 57343))
theorem isCI_nat (c : Nat) : isCI (c : Int) = isC c := by
  unfold isCI isC
  rw [Bool.eq_iff_iff]
  simp
  omega
theorem fst_full (l : List UInt8) (n : Nat) (h : Lead (byteAt l 0) n) (hl : n ≤ l.length) (hc : ∀ k, 1 ≤ k → k < n → Cont l k) (c : Int) (hcv : c = valB (byteAt l) ((byteAt l 0 : Int) - leadBase n) n) :
    (((leadLeast n : Int) ≤ c ∧ isCI c = true) → ((fstR l).1 : Int) = c ∧ (fstR l).2 = n) ∧ (¬ ((leadLeast n : Int) ≤ c ∧ isCI c = true) → fstR l = (0, 0)) := by
  have hne : l ≠ [] := by
    rintro rfl
    unfold Lead at h
    simp at hl
    omega
  have hci : isCI c = true ↔ 0 ≤ c ∧ c ≤ 1114111 ∧ ¬ (55296 ≤ c ∧ c ≤ 57343) := by
    unfold isCI; simp; omega
  rw [fst_N l hne, hci]
  rcases h with ⟨rfl, h1, h2⟩ | ⟨rfl, h1, h2⟩ | ⟨rfl, h1, h2⟩
  · have k1 := hc 1 (by omega) (by omega)
    unfold Cont at k1
    have e : c = ((byteAt l 0 : Int) - 192) * 64 + (byteAt l 1 : Int) - 128 := hcv
    have hll : (leadLeast 2 : Int) = 128 := rfl
    rw [hll]
    constructor
    · intro hh
      have hd : decodeN l.length (byteAt l 0) (byteAt l 1) (byteAt l 2) (byteAt l 3) = (byteAt l 0 % 32 * 64 + byteAt l 1 % 64, 2) := by
        unfold decodeN
        rw [if_neg (by omega), if_pos (by omega), if_pos (by omega)]
      rw [hd, if_neg (by intro h3; have := congrArg Prod.snd h3; dsimp only at this; omega)]
      exact ⟨by dsimp only; omega, rfl⟩
    · intro hh
      apply dec_no
      unfold decodeN
      rw [if_neg (by omega), if_pos (by omega), if_neg (by omega)]
  · have k1 := hc 1 (by omega) (by omega)
    have k2 := hc 2 (by omega) (by omega)
    unfold Cont at k1 k2
    have e : c = (((byteAt l 0 : Int) - 224) * 64 + (byteAt l 1 : Int) - 128) * 64 + (byteAt l 2 : Int) - 128 := hcv
    have hll : (leadLeast 3 : Int) = 2048 := rfl
    rw [hll]
    constructor
    · intro hh
      have hd : decodeN l.length (byteAt l 0) (byteAt l 1) (byteAt l 2) (byteAt l 3) = (byteAt l 0 % 16 * 4096 + byteAt l 1 % 64 * 64 + byteAt l 2 % 64, 3) := by
        unfold decodeN
        rw [if_neg (by omega), if_neg (by omega), if_pos (by omega), if_pos (by omega)]
      rw [hd, if_neg (by intro h3; have := congrArg Prod.snd h3; dsimp only at this; omega)]
      exact ⟨by dsimp only; omega, rfl⟩
    · intro hh
      apply dec_no
      unfold decodeN
      rw [if_neg (by omega), if_neg (by omega), if_pos (by omega), if_neg (by omega)]
  · have k1 := hc 1 (by omega) (by omega)
    have k2 := hc 2 (by omega) (by omega)
    have k3 := hc 3 (by omega) (by omega)
    unfold Cont at k1 k2 k3
    have e : c = ((((byteAt l 0 : Int) - 240) * 64 + (byteAt l 1 : Int) - 128) * 64 + (byteAt l 2 : Int) - 128) * 64 + (byteAt l 3 : Int) - 128 := hcv
    have hll : (leadLeast 4 : Int) = 65536 := rfl
    rw [hll]
    constructor
    · intro hh
      have hd : decodeN l.length (byteAt l 0) (byteAt l 1) (byteAt l 2) (byteAt l 3) = (byteAt l 0 % 8 * 262144 + byteAt l 1 % 64 * 4096 + byteAt l 2 % 64 * 64 + byteAt l 3 % 64, 4) := by
        unfold decodeN
        rw [if_neg (by omega), if_neg (by omega), if_neg (by omega), if_pos (by omega), if_pos (by omega)]
      rw [hd, if_neg (by intro h3; have := congrArg Prod.snd h3; dsimp only at this; omega)]
      exact ⟨by dsimp only; omega, rfl⟩
    · intro hh
      apply dec_no
      unfold decodeN
      rw [if_neg (by omega), if_neg (by omega), if_neg (by omega), if_pos (by omega), if_neg (by omega)]

end Go.Proofs.YtegckpkancbnmaaDoor
