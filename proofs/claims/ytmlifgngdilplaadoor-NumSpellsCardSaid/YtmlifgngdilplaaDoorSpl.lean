/-
  The digits of a number in a base, as a list of bytes; what num's reader of numbers with a radix makes of them. No walk.
-/
import Derived.Test.YtmlifgngdilplaaDoorRadw
import Derived.Test.YtmlifgngdilplaaDoorWr
namespace Go.Proofs.YtmlifgngdilplaaDoor
open Go.RowKit

def dgc (k : Nat) : UInt8 := if k < 10 then UInt8.ofNat (48 + k) else UInt8.ofNat (87 + k)
def dgs (b u : Nat) : List UInt8 := if _h : u < b ∨ b < 2 then [dgc u] else dgs b (u / b) ++ [dgc (u % b)]
termination_by u
decreasing_by exact Nat.div_lt_self (by omega) (by omega)

theorem dgs_one {b u : Nat} (h : u < b) : dgs b u = [dgc u] := by
  rw [dgs, dif_pos (.inl h)]
theorem dgs_more {b u : Nat} (hb : 2 ≤ b) (h : b ≤ u) : dgs b u = dgs b (u / b) ++ [dgc (u % b)] := by
  rw [dgs, dif_neg (by omega)]
theorem dgs_dec : ∀ (f u : Nat), u ≤ f → dgs 10 u = Lib.decDigits u
  | 0, u, h => by
    rw [dgs_one (by omega), Lib.decDigits_one (by omega)]
    unfold dgc
    rw [if_pos (by omega)]
  | f + 1, u, h => by
    by_cases hs : u < 10
    · rw [dgs_one hs, Lib.decDigits_one hs]
      unfold dgc
      rw [if_pos hs]
    · rw [dgs_more (by omega) (by omega), decDigits_big u (by omega), dgs_dec f (u / 10) (by omega)]
      unfold dgc
      rw [if_pos (by omega)]

theorem dgc_dv : ∀ k, k < 16 → dvb (dgc k) = (k : Int) ∧ dgc k ≠ 95 := by decide
theorem dgc_no0 : ∀ k, k < 16 → 0 < k → dgc k ≠ 48 := by decide
theorem dgc_nox : ∀ k, k < 8 → dgc k ≠ 120 ∧ dgc k ≠ 98 := by decide

def valL (b : Int) (l : List UInt8) (m : Int) : Int := l.foldl (fun n c => n * b + dvb c) m
theorem valL_ge (b : Int) (hb : 1 ≤ b) : ∀ (l : List UInt8) (m : Int), 0 ≤ m → m ≤ valL b l m
  | [], m, _ => Int.le_refl m
  | c :: t, m, h => by
    have h1 : m * 1 ≤ m * b := Int.mul_le_mul_of_nonneg_left hb h
    have h2 := (dv_bd (c.toNat : Int)).1
    have h3 := valL_ge b hb t (m * b + dvb c) (by show 0 ≤ m * b + dv (c.toNat : Int); omega)
    show m ≤ valL b t (m * b + dvb c)
    have h4 : 0 ≤ dvb c := h2
    omega
theorem run_val (b : Int) (hb : 1 ≤ b) : ∀ (l : List UInt8) (m : Int) (bd : Bool), (∀ c, c ∈ l → c ≠ 95 ∧ dvb c < b) → 0 ≤ m → valL b l m ≤ 9007199254740992 → (bd = true ∨ l ≠ []) → runN b l m bd = some (valL b l m)
  | [], m, bd, _, _, _, h => by
    rcases h with h | h
    · subst h; rw [runN_nil]; rfl
    · exact absurd rfl h
  | c :: t, m, bd, hc, h0, h1, _ => by
    obtain ⟨c1, c2⟩ := hc c (by simp)
    have c3 : 0 ≤ dvb c := (dv_bd (c.toNat : Int)).1
    have h2 : m * 1 ≤ m * b := Int.mul_le_mul_of_nonneg_left hb h0
    have hn : 0 ≤ m * b + dvb c := by omega
    have h3 := valL_ge b hb t (m * b + dvb c) hn
    have h1' : valL b t (m * b + dvb c) ≤ 9007199254740992 := h1
    rw [runN_go (fun h => c1 h.1) (by omega) (by omega)]
    exact run_val b hb t _ true (fun d hd => hc d (by simp [hd])) hn h1' (.inl rfl)

theorem dgs_val (b : Nat) (hb : 2 ≤ b) (hb2 : b ≤ 16) : ∀ (f u : Nat), u ≤ f → valL b (dgs b u) 0 = (u : Int) ∧ (∀ c, c ∈ dgs b u → c ≠ 95 ∧ dvb c < b)
  | 0, u, h => by
    have h1 := dgc_dv u (by omega)
    rw [dgs_one (by omega)]
    refine ⟨by simp [valL, h1.1], fun c hc => ?_⟩
    rw [List.mem_singleton] at hc
    subst hc
    exact ⟨h1.2, by rw [h1.1]; omega⟩
  | f + 1, u, h => by
    by_cases hs : u < b
    · have h1 := dgc_dv u (by omega)
      rw [dgs_one hs]
      refine ⟨by simp [valL, h1.1], fun c hc => ?_⟩
      rw [List.mem_singleton] at hc
      subst hc
      exact ⟨h1.2, by rw [h1.1]; omega⟩
    · have hlt : u / b < u := Nat.div_lt_self (by omega) (by omega)
      have hm : u % b < b := Nat.mod_lt _ (by omega)
      have h1 := dgc_dv (u % b) (by omega)
      obtain ⟨i1, i2⟩ := dgs_val b hb hb2 f (u / b) (by omega)
      rw [dgs_more hb (by omega)]
      refine ⟨?_, fun c hc => ?_⟩
      · unfold valL at *
        rw [List.foldl_append, i1]
        show ((u / b : Nat) : Int) * (b : Int) + dvb (dgc (u % b)) = _
        rw [h1.1]
        have := Nat.div_add_mod u b
        have h2 : ((b * (u / b) + u % b : Nat) : Int) = (u : Int) := by rw [this]
        rw [Int.natCast_add, Int.natCast_mul, Int.mul_comm] at h2
        exact h2
      · rcases List.mem_append.1 hc with hc | hc
        · exact i2 c hc
        · rw [List.mem_singleton] at hc
          subst hc
          exact ⟨h1.2, by rw [h1.1]; omega⟩
theorem dgs_ne (b u : Nat) : dgs b u ≠ [] := by
  rw [dgs]
  split <;> simp
theorem dgs_head (b : Nat) (hb : 2 ≤ b) : ∀ (f u : Nat), u ≤ f → 0 < u → ∃ k t, dgs b u = dgc k :: t ∧ 0 < k ∧ k < b
  | 0, u, h, h0 => by omega
  | f + 1, u, h, h0 => by
    by_cases hs : u < b
    · exact ⟨u, [], dgs_one hs, h0, hs⟩
    · have hlt : u / b < u := Nat.div_lt_self (by omega) (by omega)
      obtain ⟨k, t, e, k0, k1⟩ := dgs_head b hb f (u / b) (by omega) (Nat.div_pos (by omega) (by omega))
      exact ⟨k, t ++ [dgc (u % b)], by rw [dgs_more hb (by omega), e]; rfl, k0, k1⟩
theorem dgs_run (b : Nat) (hb : 2 ≤ b) (hb2 : b ≤ 16) (u : Nat) (hu : (u : Int) ≤ 9007199254740992) : runN b (dgs b u) 0 false = some (u : Int) := by
  obtain ⟨h1, h2⟩ := dgs_val b hb hb2 u u (Nat.le_refl _)
  rw [run_val b (by omega) _ _ _ h2 (by omega) (by rw [h1]; exact hu) (.inr (dgs_ne b u)), h1]

/-- What stands in front of the digits. -/
def pre (b u : Nat) : List UInt8 := if b = 2 then [48, 98] else if b = 16 then [48, 120] else if b = 8 ∧ 0 < u then [48] else []
theorem spell_run (b : Nat) (hb : b = 2 ∨ b = 8 ∨ b = 10 ∨ b = 16) (u : Nat) (hu : (u : Int) ≤ 9007199254740992) : runN (sbB (pre b u ++ dgs b u)) (sbD (pre b u ++ dgs b u)) 0 false = some (u : Int) := by
  rcases hb with rfl | rfl | rfl | rfl
  · have e : pre 2 u ++ dgs 2 u = 48 :: 98 :: dgs 2 u := rfl
    rw [e]
    have x : isX (48 :: 98 :: dgs 2 u) = false := by simp [isX, Lib.hasPrefix, List.isPrefixOf]
    have y : isB (48 :: 98 :: dgs 2 u) = true := by simp [isB, Lib.hasPrefix, List.isPrefixOf]
    unfold sbB sbD
    rw [x, y]
    exact dgs_run 2 (by omega) (by omega) u hu
  · by_cases h0 : 0 < u
    · have e : pre 8 u ++ dgs 8 u = 48 :: dgs 8 u := by simp [pre, h0]
      rw [e]
      obtain ⟨k, t, e2, k0, k1⟩ := dgs_head 8 (by omega) u u (Nat.le_refl _) h0
      have hk := dgc_nox k k1
      have x : isX (48 :: dgs 8 u) = false := by rw [e2]; simp [isX, Lib.hasPrefix, List.isPrefixOf, Ne.symm hk.1]
      have y : isB (48 :: dgs 8 u) = false := by rw [e2]; simp [isB, Lib.hasPrefix, List.isPrefixOf, Ne.symm hk.2]
      have z : is0 (48 :: dgs 8 u) = true := by simp [is0, Lib.hasPrefix, List.isPrefixOf]
      unfold sbB sbD
      rw [x, y, z]
      show runN 8 (48 :: dgs 8 u) 0 false = _
      obtain ⟨h1, h2⟩ := dgs_val 8 (by omega) (by omega) u u (Nat.le_refl _)
      have h3 : valL 8 (48 :: dgs 8 u) 0 = (u : Int) := h1
      rw [run_val 8 (by omega) _ _ _ (fun c hc => by
        rcases List.mem_cons.1 hc with rfl | hc
        · decide
        · exact h2 c hc) (by omega) (by rw [h3]; exact hu) (.inr (by simp)), h3]
    · have h1 : u = 0 := by omega
      subst h1
      have e : pre 8 0 ++ dgs 8 0 = [48] := by rw [dgs_one (by omega)]; rfl
      rw [e]
      decide
  · by_cases h0 : 0 < u
    · have e : pre 10 u ++ dgs 10 u = dgs 10 u := rfl
      rw [e]
      obtain ⟨k, t, e2, k0, k1⟩ := dgs_head 10 (by omega) u u (Nat.le_refl _) h0
      have hk := dgc_no0 k (by omega) k0
      have x : isX (dgs 10 u) = false := by rw [e2]; simp [isX, Lib.hasPrefix, List.isPrefixOf, Ne.symm hk]
      have y : isB (dgs 10 u) = false := by rw [e2]; simp [isB, Lib.hasPrefix, List.isPrefixOf, Ne.symm hk]
      have z : is0 (dgs 10 u) = false := by rw [e2]; simp [is0, Lib.hasPrefix, List.isPrefixOf, Ne.symm hk]
      unfold sbB sbD
      rw [x, y, z]
      exact dgs_run 10 (by omega) (by omega) u hu
    · have h1 : u = 0 := by omega
      subst h1
      have e : pre 10 0 ++ dgs 10 0 = [48] := by rw [dgs_one (by omega)]; rfl
      rw [e]
      decide
  · have e : pre 16 u ++ dgs 16 u = 48 :: 120 :: dgs 16 u := rfl
    rw [e]
    have x : isX (48 :: 120 :: dgs 16 u) = true := by simp [isX, Lib.hasPrefix, List.isPrefixOf]
    unfold sbB sbD
    rw [x]
    exact dgs_run 16 (by omega) (by omega) u hu

end Go.Proofs.YtmlifgngdilplaaDoor
