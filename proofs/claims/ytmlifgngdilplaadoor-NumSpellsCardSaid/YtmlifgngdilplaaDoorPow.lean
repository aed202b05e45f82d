/-
  num.power and the document's power: the same iterated product, sticky at 2^53 + 1. Conditions: the base within 2^53, the exponent from 0 to 2^53.
-/
import Derived.Test.YtmlifgngdilplaaDoorArith
namespace Go.Proofs.YtmlifgngdilplaaDoor
open Go.RowKit

def bey : Int := 9007199254740993
def pw (a : Int) : Nat → Int
  | 0 => 1
  | k + 1 => if pw a k = bey then bey else prodI (pw a k) a

theorem prodI_cases (a b : Int) : prodI a b = bey ∨ (inR (prodI a b) ∧ prodI a b = a * b) := by
  unfold prodI
  split
  · left; rfl
  · rename_i h; right; exact ⟨prod_bd h, rfl⟩
theorem pw_cases (a : Int) (k : Nat) : pw a k = bey ∨ inR (pw a k) := by
  cases k with
  | zero => right; simp [pw, inR]
  | succ k =>
    unfold pw
    split
    · left; rfl
    · rcases prodI_cases (pw a k) a with h | h
      · exact .inl h
      · exact .inr h.1
theorem pw_stick {a : Int} {k : Nat} (h : pw a k = bey) (m : Nat) : pw a (k + m) = bey := by
  induction m with
  | zero => exact h
  | succ m ih => rw [← Nat.add_assoc]; unfold pw; rw [if_pos ih]
theorem bey_not {n : Int} (h : inR n) : n ≠ bey := by obtain ⟨h1, h2⟩ := h; unfold bey; omega
theorem pw_succ {a : Int} {k : Nat} (h : inR (pw a k)) : pw a (k + 1) = prodI (pw a k) a := by
  show (if pw a k = bey then bey else prodI (pw a k) a) = _
  rw [if_neg (bey_not h)]

theorem prodI_zero (n : Int) (h : inR n) : prodI n 0 = 0 := by
  have h1 := sizeI_bd h
  unfold prodI
  rw [if_neg]
  · omega
  · rintro ⟨h2, h3⟩
    have h4 := sizeI_pos h2
    have h5 : (0 : Int) ≤ 9007199254740992 / sizeI n := Int.ediv_nonneg (by omega) (by omega)
    have h6 : sizeI 0 = 0 := rfl
    omega
theorem pw_zero (k : Nat) : pw 0 (k + 1) = 0 := by
  have h : ∀ k, inR (pw 0 k) := by
    intro k
    induction k with
    | zero => simp [pw, inR]
    | succ k ih => rw [pw_succ ih, prodI_zero _ ih]; simp [inR]
  rw [pw_succ (h k), prodI_zero _ (h k)]
theorem pw_one (k : Nat) : pw 1 k = 1 := by
  induction k with
  | zero => rfl
  | succ k ih => rw [pw_succ (by rw [ih]; simp [inR]), ih]; decide
theorem pw_neg (k : Nat) : pw (-1) k = 1 - 2 * ((k : Int) % 2) := by
  induction k with
  | zero => rfl
  | succ k ih =>
    rcases Nat.mod_two_eq_zero_or_one k with h | h
    · have e : pw (-1) k = 1 := by rw [ih]; omega
      rw [pw_succ (by rw [e]; simp [inR]), e]
      have : prodI 1 (-1) = -1 := by decide
      rw [this]; omega
    · have e : pw (-1) k = -1 := by rw [ih]; omega
      rw [pw_succ (by rw [e]; simp [inR]), e]
      have : prodI (-1) (-1) = 1 := by decide
      rw [this]; omega

theorem pw_small {a : Int} (h : sizeI a ≤ 1) {b : Nat} (hb : 2 < b) : pw a b = pw a (2 - b % 2) := by
  have ha := of_sizeI h
  have hc : a = 0 ∨ a = 1 ∨ a = -1 := by omega
  rcases hc with rfl | rfl | rfl
  · obtain ⟨m, rfl⟩ : ∃ m, b = m + 1 := ⟨b - 1, by omega⟩
    obtain ⟨n, hn⟩ : ∃ n, 2 - (m + 1) % 2 = n + 1 := ⟨1 - (m + 1) % 2, by omega⟩
    rw [hn, pw_zero, pw_zero]
  · rw [pw_one, pw_one]
  · rw [pw_neg, pw_neg]; omega

set_option maxHeartbeats 1000000 in
theorem power_small (a : Int) (n : Nat) (w : World) (ha : inR a) (hb1 : (n : Int) ≤ 9007199254740992) (hs1 : sizeI a ≤ 1) (hs2 : 2 < (n : Int)) :
    Calls Tryd.prog 91 #[.int .i64 a, .int .i64 n] w fun e w' => e = .returned (.int .i64 (pw a n)) ∧ w = w' := by
  have sa := sizeI_bd ha
  have HA := Lib.hid ha
  obtain ⟨a1, a2⟩ := ha
  have HB := Lib.hid (show pw a n = pw a (2 - (n : Int) % 2).toNat by rw [pw_small hs1 (by omega)]; congr 1; omega)
  go_enter Tryd.func91, Tryd.ntmps91
  go_wp2_with fail
  refine (size_any a _ (by omega) (by omega)).mono ?_
  rintro e w' ⟨rfl, rfl⟩
  go_wp2_with fail
  go_loop [5, 17] (fun m i => ∃ k : Nat, (k : Int) ≤ (2 - (n : Int) % 2) ∧ i = .int .i64 k ∧ m = .int .i64 (pw a k) ∧ inR (pw a k)) (fun _ i => ((2 - (n : Int) % 2) - intOf i).toNat)
  case atStart => exact ⟨0, by omega, rfl, rfl, by simp [pw, inR]⟩
  case round =>
    obtain ⟨k, hk, rfl, rfl, hin⟩ := hrel
    by_cases hlt : (k : Int) < (2 - (n : Int) % 2)
    · have hsu := pw_succ hin
      have hca := prodI_cases (pw a k) a
      have HI := Lib.hid hin
      clear hin
      by_cases hby : prodI (pw a k) a = 9007199254740993
      · have HF := Lib.hid (show pw a n = 9007199254740993 by
          rw [HB.out]
          obtain ⟨m, hm⟩ : ∃ m, ((2 - (n : Int) % 2)).toNat = (k + 1) + m := ⟨((2 - (n : Int) % 2)).toNat - (k + 1), by omega⟩
          rw [hm]
          exact pw_stick (by rw [hsu, hby]; rfl) m)
        have HV := Lib.hid hby
        clear hsu hby hca
        go_wp2_with fail
        refine (product_any _ _ _ HI.out HA.out).mono ?_
        rintro e w' ⟨rfl, rfl⟩
        rw [HV.out]
        go_wp2
        go_ret
        exact ⟨ret_int HF.out.symm, rfl⟩
      · have hin2 : inR (prodI (pw a k) a) := by
          rcases hca with h | h
          · exact absurd h hby
          · exact h.1
        have HS := Lib.hid (And.intro hsu hin2)
        have hne : (prodI (pw a k) a == 9007199254740993) = false := by simp [hby]
        clear hsu hca hby hin2
        go_wp2_with fail
        refine (product_any _ _ _ HI.out HA.out).mono ?_
        rintro e w' ⟨rfl, rfl⟩
        go_wp2
        go_round
        case rel => exact ⟨k + 1, by omega, by go_num, by rw [HS.out.1], by rw [HS.out.1]; exact HS.out.2⟩
        case measure => simp [intOf]; omega
    · have hkk : (k : Int) = (2 - (n : Int) % 2) := by omega
      have HF := Lib.hid (show pw a n = pw a k by rw [HB.out, ← hkk]; rfl)
      clear hkk
      go_wp2
      go_ret
      exact ⟨ret_int HF.out.symm, rfl⟩

set_option maxHeartbeats 1000000 in
theorem power_few (a : Int) (n : Nat) (w : World) (ha : inR a) (hb1 : (n : Int) ≤ 9007199254740992) (hs1 : sizeI a ≤ 1) (hs2 : ¬ 2 < (n : Int)) :
    Calls Tryd.prog 91 #[.int .i64 a, .int .i64 n] w fun e w' => e = .returned (.int .i64 (pw a n)) ∧ w = w' := by
  have sa := sizeI_bd ha
  have HA := Lib.hid ha
  obtain ⟨a1, a2⟩ := ha
  have HB := Lib.hid (show pw a n = pw a (n : Int).toNat from rfl)
  go_enter Tryd.func91, Tryd.ntmps91
  go_wp2_with fail
  refine (size_any a _ (by omega) (by omega)).mono ?_
  rintro e w' ⟨rfl, rfl⟩
  go_wp2_with fail
  go_loop [5, 17] (fun m i => ∃ k : Nat, (k : Int) ≤ (n : Int) ∧ i = .int .i64 k ∧ m = .int .i64 (pw a k) ∧ inR (pw a k)) (fun _ i => ((n : Int) - intOf i).toNat)
  case atStart => exact ⟨0, by omega, rfl, rfl, by simp [pw, inR]⟩
  case round =>
    obtain ⟨k, hk, rfl, rfl, hin⟩ := hrel
    by_cases hlt : (k : Int) < (n : Int)
    · have hsu := pw_succ hin
      have hca := prodI_cases (pw a k) a
      have HI := Lib.hid hin
      clear hin
      by_cases hby : prodI (pw a k) a = 9007199254740993
      · have HF := Lib.hid (show pw a n = 9007199254740993 by
          rw [HB.out]
          obtain ⟨m, hm⟩ : ∃ m, ((n : Int)).toNat = (k + 1) + m := ⟨((n : Int)).toNat - (k + 1), by omega⟩
          rw [hm]
          exact pw_stick (by rw [hsu, hby]; rfl) m)
        have HV := Lib.hid hby
        clear hsu hby hca
        go_wp2_with fail
        refine (product_any _ _ _ HI.out HA.out).mono ?_
        rintro e w' ⟨rfl, rfl⟩
        rw [HV.out]
        go_wp2
        go_ret
        exact ⟨ret_int HF.out.symm, rfl⟩
      · have hin2 : inR (prodI (pw a k) a) := by
          rcases hca with h | h
          · exact absurd h hby
          · exact h.1
        have HS := Lib.hid (And.intro hsu hin2)
        have hne : (prodI (pw a k) a == 9007199254740993) = false := by simp [hby]
        clear hsu hca hby hin2
        go_wp2_with fail
        refine (product_any _ _ _ HI.out HA.out).mono ?_
        rintro e w' ⟨rfl, rfl⟩
        go_wp2
        go_round
        case rel => exact ⟨k + 1, by omega, by go_num, by rw [HS.out.1], by rw [HS.out.1]; exact HS.out.2⟩
        case measure => simp [intOf]; omega
    · have hkk : (k : Int) = (n : Int) := by omega
      have HF := Lib.hid (show pw a n = pw a k by rw [HB.out, ← hkk]; rfl)
      clear hkk
      go_wp2
      go_ret
      exact ⟨ret_int HF.out.symm, rfl⟩

set_option maxHeartbeats 1000000 in
theorem power_big (a : Int) (n : Nat) (w : World) (ha : inR a) (hb1 : (n : Int) ≤ 9007199254740992) (hs1 : ¬ sizeI a ≤ 1) :
    Calls Tryd.prog 91 #[.int .i64 a, .int .i64 n] w fun e w' => e = .returned (.int .i64 (pw a n)) ∧ w = w' := by
  have sa := sizeI_bd ha
  have HA := Lib.hid ha
  obtain ⟨a1, a2⟩ := ha
  have HB := Lib.hid (show pw a n = pw a (n : Int).toNat from rfl)
  go_enter Tryd.func91, Tryd.ntmps91
  go_wp2_with fail
  refine (size_any a _ (by omega) (by omega)).mono ?_
  rintro e w' ⟨rfl, rfl⟩
  go_wp2_with fail
  go_loop [5, 17] (fun m i => ∃ k : Nat, (k : Int) ≤ (n : Int) ∧ i = .int .i64 k ∧ m = .int .i64 (pw a k) ∧ inR (pw a k)) (fun _ i => ((n : Int) - intOf i).toNat)
  case atStart => exact ⟨0, by omega, rfl, rfl, by simp [pw, inR]⟩
  case round =>
    obtain ⟨k, hk, rfl, rfl, hin⟩ := hrel
    by_cases hlt : (k : Int) < (n : Int)
    · have hsu := pw_succ hin
      have hca := prodI_cases (pw a k) a
      have HI := Lib.hid hin
      clear hin
      by_cases hby : prodI (pw a k) a = 9007199254740993
      · have HF := Lib.hid (show pw a n = 9007199254740993 by
          rw [HB.out]
          obtain ⟨m, hm⟩ : ∃ m, ((n : Int)).toNat = (k + 1) + m := ⟨((n : Int)).toNat - (k + 1), by omega⟩
          rw [hm]
          exact pw_stick (by rw [hsu, hby]; rfl) m)
        have HV := Lib.hid hby
        clear hsu hby hca
        go_wp2_with fail
        refine (product_any _ _ _ HI.out HA.out).mono ?_
        rintro e w' ⟨rfl, rfl⟩
        rw [HV.out]
        go_wp2
        go_ret
        exact ⟨ret_int HF.out.symm, rfl⟩
      · have hin2 : inR (prodI (pw a k) a) := by
          rcases hca with h | h
          · exact absurd h hby
          · exact h.1
        have HS := Lib.hid (And.intro hsu hin2)
        have hne : (prodI (pw a k) a == 9007199254740993) = false := by simp [hby]
        clear hsu hca hby hin2
        go_wp2_with fail
        refine (product_any _ _ _ HI.out HA.out).mono ?_
        rintro e w' ⟨rfl, rfl⟩
        go_wp2
        go_round
        case rel => exact ⟨k + 1, by omega, by go_num, by rw [HS.out.1], by rw [HS.out.1]; exact HS.out.2⟩
        case measure => simp [intOf]; omega
    · have hkk : (k : Int) = (n : Int) := by omega
      have HF := Lib.hid (show pw a n = pw a k by rw [HB.out, ← hkk]; rfl)
      clear hkk
      go_wp2
      go_ret
      exact ⟨ret_int HF.out.symm, rfl⟩

theorem power_any (a : Int) (n : Nat) (w : World) (ha : inR a) (hb1 : (n : Int) ≤ 9007199254740992) :
    Calls Tryd.prog 91 #[.int .i64 a, .int .i64 n] w fun e w' => e = .returned (.int .i64 (pw a n)) ∧ w = w' := by
  by_cases h1 : sizeI a ≤ 1
  · by_cases h2 : 2 < (n : Int)
    · exact power_small a n w ha hb1 h1 h2
    · exact power_few a n w ha hb1 h1 h2
  · exact power_big a n w ha hb1 h1

end Go.Proofs.YtmlifgngdilplaaDoor
