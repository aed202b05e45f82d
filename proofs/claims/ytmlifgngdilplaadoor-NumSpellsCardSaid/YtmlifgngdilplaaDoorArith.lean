/-
  The nine operations and their four refusals, each by its contract: what a function computes, in plain integers. Conditions: both numbers within 2^53.
-/
import Derived.Test.YtmlifgngdilplaaDoorBase
namespace Go.Proofs.YtmlifgngdilplaaDoor
open Go.RowKit

def inR (n : Int) : Prop := -9007199254740992 ≤ n ∧ n ≤ 9007199254740992
theorem inR_iff {n : Int} : isNumB n = true ↔ inR n := by simp [isNumB, inR]

/-- The product, or 2^53 + 1. -/
def prodI (a b : Int) : Int := if a ≠ 0 ∧ 9007199254740992 / sizeI a < sizeI b then 9007199254740993 else a * b
def quoI (a b : Int) : Int := if a.tmod b ≠ 0 ∧ decide (a < 0) ≠ decide (b < 0) then a.tdiv b - 1 else a.tdiv b
def remI (a b : Int) : Int := if a.tmod b ≠ 0 ∧ decide (a.tmod b < 0) ≠ decide (b < 0) then a.tmod b + b else a.tmod b

theorem f81 (a b : Int) (w : World) : Calls Tryd.prog 81 #[.int .i64 a, .int .i64 b] w fun e w' => e = .returned (.bool false) ∧ w = w' := by
  go_enter Tryd.func81, Tryd.ntmps81
  go_wp2
  go_ret
  exact ⟨rfl, rfl⟩
theorem f82 (a b : Int) (w : World) : Calls Tryd.prog 82 #[.int .i64 a, .int .i64 b] w fun e w' => e = .returned (.bool (decide (b = 0))) ∧ w = w' := by
  by_cases h : b = 0
  all_goals
    go_enter Tryd.func82, Tryd.ntmps82
    go_wp2
    go_ret
    exact ⟨ret_bool (by simp [h]), rfl⟩
theorem f83 (a b : Int) (w : World) : Calls Tryd.prog 83 #[.int .i64 a, .int .i64 b] w fun e w' => e = .returned (.bool (decide (b < 0))) ∧ w = w' := by
  go_enter Tryd.func83, Tryd.ntmps83
  go_wp2
  go_ret
  exact ⟨rfl, rfl⟩
theorem f84 (a b : Int) (w : World) : Calls Tryd.prog 84 #[.int .i64 a, .int .i64 b] w fun e w' => e = .returned (.bool (decide (a < 0) || decide (b < 0))) ∧ w = w' := by
  by_cases h : a < 0 <;> by_cases h2 : b < 0
  all_goals
    go_enter Tryd.func84, Tryd.ntmps84
    go_wp2
    go_ret
    exact ⟨ret_bool (by simp [h, h2]), rfl⟩
theorem f86 (a b : Int) (w : World) (ha : inR a) (hb : inR b) : Calls Tryd.prog 86 #[.int .i64 a, .int .i64 b] w fun e w' => e = .returned (.int .i64 (a + b)) ∧ w = w' := by
  obtain ⟨a1, a2⟩ := ha
  obtain ⟨b1, b2⟩ := hb
  go_enter Tryd.func86, Tryd.ntmps86
  go_wp2
  go_ret
  exact ⟨rfl, rfl⟩
theorem f87 (a b : Int) (w : World) (ha : inR a) (hb : inR b) : Calls Tryd.prog 87 #[.int .i64 a, .int .i64 b] w fun e w' => e = .returned (.int .i64 (a - b)) ∧ w = w' := by
  obtain ⟨a1, a2⟩ := ha
  obtain ⟨b1, b2⟩ := hb
  go_enter Tryd.func87, Tryd.ntmps87
  go_wp2
  go_ret
  exact ⟨rfl, rfl⟩

theorem sizeI_bd {a : Int} (ha : inR a) : 0 ≤ sizeI a ∧ sizeI a ≤ 9007199254740992 := by
  unfold sizeI inR at *; split <;> omega
theorem sizeI_pos {a : Int} (h : a ≠ 0) : 1 ≤ sizeI a := by
  unfold sizeI; split <;> omega
theorem sizeI_mul (a b : Int) : sizeI (a * b) = sizeI a * sizeI b := by
  have h : ∀ x : Int, sizeI x = (x.natAbs : Int) := fun x => by unfold sizeI; split <;> omega
  rw [h, h, h, Int.natAbs_mul]; simp
theorem of_sizeI {a m : Int} (h : sizeI a ≤ m) : -m ≤ a ∧ a ≤ m := by
  unfold sizeI at h; split at h <;> omega
theorem prod_bd {a b : Int} (h : ¬ (a ≠ 0 ∧ 9007199254740992 / sizeI a < sizeI b)) : inR (a * b) := by
  by_cases h0 : a = 0
  · subst h0; simp [inR]
  · have h1 : sizeI b ≤ 9007199254740992 / sizeI a := by
      have := fun hx => h ⟨h0, hx⟩
      omega
    have hp := sizeI_pos h0
    have h2 : sizeI b * sizeI a ≤ 9007199254740992 := by
      have := (Int.le_ediv_iff_mul_le (by omega)).1 h1
      exact this
    have h3 : sizeI (a * b) ≤ 9007199254740992 := by rw [sizeI_mul, Int.mul_comm]; exact h2
    exact of_sizeI h3

theorem product_any (a b : Int) (w : World) (ha : inR a) (hb : inR b) : Calls Tryd.prog 88 #[.int .i64 a, .int .i64 b] w fun e w' => e = .returned (.int .i64 (prodI a b)) ∧ w = w' := by
  have sa := sizeI_bd ha
  have sb := sizeI_bd hb
  obtain ⟨a1, a2⟩ := ha
  obtain ⟨b1, b2⟩ := hb
  by_cases h0 : a = 0
  · subst h0
    go_enter Tryd.func88, Tryd.ntmps88
    go_wp2
    go_ret
    exact ⟨ret_int (by simp [prodI]), rfl⟩
  · have sp := sizeI_pos h0
    have hne : (a != 0) = true := by simp [h0]
    by_cases h1 : 9007199254740992 / sizeI a < sizeI b
    · have H := Lib.hid (show prodI a b = 9007199254740993 by unfold prodI; rw [if_pos ⟨h0, h1⟩])
      go_enter Tryd.func88, Tryd.ntmps88
      go_wp2_with fail
      refine (size_any b _ (by omega) (by omega)).mono ?_
      rintro e w' ⟨rfl, rfl⟩
      go_wp2_with fail
      refine (size_any a _ (by omega) (by omega)).mono ?_
      rintro e w' ⟨rfl, rfl⟩
      go_wp2
      go_ret
      exact ⟨ret_int H.out.symm, rfl⟩
    · have hb := prod_bd (a := a) (b := b) (fun h => h1 h.2)
      have H := Lib.hid (show prodI a b = a * b by unfold prodI; rw [if_neg (fun h => h1 h.2)])
      obtain ⟨m1, m2⟩ := hb
      have hw : IntKind.i64.wrap (a * b) = a * b := IntWalk.i64_in _ (by omega)
      go_enter Tryd.func88, Tryd.ntmps88
      go_wp2_with fail
      refine (size_any b _ (by omega) (by omega)).mono ?_
      rintro e w' ⟨rfl, rfl⟩
      go_wp2_with fail
      refine (size_any a _ (by omega) (by omega)).mono ?_
      rintro e w' ⟨rfl, rfl⟩
      go_wp2
      go_ret
      exact ⟨ret_int H.out.symm, rfl⟩

theorem tdiv_bd {a b : Int} (ha : inR a) : inR (a.tdiv b) := by
  have h1 : (a.tdiv b).natAbs = a.natAbs / b.natAbs := Int.natAbs_tdiv a b
  have h2 := Nat.div_le_self a.natAbs b.natAbs
  obtain ⟨a1, a2⟩ := ha
  constructor <;> omega
theorem tmod_bd {a b : Int} (ha : inR a) : inR (a.tmod b) := by
  have h1 : (a.tmod b).natAbs = a.natAbs % b.natAbs := Int.natAbs_tmod a b
  have h2 := Nat.mod_le a.natAbs b.natAbs
  obtain ⟨a1, a2⟩ := ha
  constructor <;> omega

theorem quotient_any (a b : Int) (w : World) (ha : inR a) (hb : inR b) (hn : b ≠ 0) : Calls Tryd.prog 89 #[.int .i64 a, .int .i64 b] w fun e w' => e = .returned (.int .i64 (quoI a b)) ∧ w = w' := by
  obtain ⟨q1, q2⟩ := tdiv_bd (b := b) ha
  obtain ⟨a1, a2⟩ := ha
  obtain ⟨b1, b2⟩ := hb
  have hz : (b == 0) = false := by simp [hn]
  have hw : IntKind.i64.wrap (a.tdiv b) = a.tdiv b := IntWalk.i64_in _ (by omega)
  go_enter Tryd.func89, Tryd.ntmps89
  go_wp2
  all_goals
    go_ret
    refine ⟨ret_int ?_, rfl⟩
    unfold quoI
    simp_all

theorem remainder_any (a b : Int) (w : World) (ha : inR a) (hb : inR b) (hn : b ≠ 0) : Calls Tryd.prog 90 #[.int .i64 a, .int .i64 b] w fun e w' => e = .returned (.int .i64 (remI a b)) ∧ w = w' := by
  obtain ⟨q1, q2⟩ := tmod_bd (b := b) ha
  obtain ⟨a1, a2⟩ := ha
  obtain ⟨b1, b2⟩ := hb
  have hz : (b == 0) = false := by simp [hn]
  go_enter Tryd.func90, Tryd.ntmps90
  go_wp2
  all_goals
    go_ret
    refine ⟨ret_int ?_, rfl⟩
    unfold remI
    simp_all

theorem rproduct_any (a b : Int) (w : World) (ha : inR a) (hb : inR b) : Calls Tryd.prog 59 #[.int .i64 a, .int .i64 b] w fun e w' => e = .returned (.int .i64 (prodI a b)) ∧ w = w' := by
  have sa := sizeI_bd ha
  have sb := sizeI_bd hb
  obtain ⟨a1, a2⟩ := ha
  obtain ⟨b1, b2⟩ := hb
  by_cases h0 : a = 0
  · subst h0
    go_enter Tryd.func59, Tryd.ntmps59
    go_wp2
    go_ret
    exact ⟨ret_int (by simp [prodI]), rfl⟩
  · have sp := sizeI_pos h0
    have hne : (a != 0) = true := by simp [h0]
    by_cases h1 : 9007199254740992 / sizeI a < sizeI b
    · have H := Lib.hid (show prodI a b = 9007199254740993 by unfold prodI; rw [if_pos ⟨h0, h1⟩])
      go_enter Tryd.func59, Tryd.ntmps59
      go_wp2_with fail
      refine (Size_any b _ (by omega) (by omega)).mono ?_
      rintro e w' ⟨rfl, rfl⟩
      go_wp2_with fail
      refine (Size_any a _ (by omega) (by omega)).mono ?_
      rintro e w' ⟨rfl, rfl⟩
      go_wp2
      go_ret
      exact ⟨ret_int H.out.symm, rfl⟩
    · have hb := prod_bd (a := a) (b := b) (fun h => h1 h.2)
      have H := Lib.hid (show prodI a b = a * b by unfold prodI; rw [if_neg (fun h => h1 h.2)])
      obtain ⟨m1, m2⟩ := hb
      have hw : IntKind.i64.wrap (a * b) = a * b := IntWalk.i64_in _ (by omega)
      go_enter Tryd.func59, Tryd.ntmps59
      go_wp2_with fail
      refine (Size_any b _ (by omega) (by omega)).mono ?_
      rintro e w' ⟨rfl, rfl⟩
      go_wp2_with fail
      refine (Size_any a _ (by omega) (by omega)).mono ?_
      rintro e w' ⟨rfl, rfl⟩
      go_wp2
      go_ret
      exact ⟨ret_int H.out.symm, rfl⟩

theorem quo_same {a b : Int} : (a.tdiv b * b ≠ a) ↔ (a.tmod b ≠ 0) := by
  have := Int.tmod_add_mul_tdiv a b
  have hc := Int.mul_comm b (a.tdiv b)
  omega

theorem rquotient_any (a b : Int) (w : World) (ha : inR a) (hb : inR b) (hn : b ≠ 0) : Calls Tryd.prog 60 #[.int .i64 a, .int .i64 b] w fun e w' => e = .returned (.int .i64 (quoI a b)) ∧ w = w' := by
  obtain ⟨q1, q2⟩ := tdiv_bd (b := b) ha
  obtain ⟨a1, a2⟩ := ha
  obtain ⟨b1, b2⟩ := hb
  have hz : (b == 0) = false := by simp [hn]
  have hw : IntKind.i64.wrap (a.tdiv b) = a.tdiv b := IntWalk.i64_in _ (by omega)
  have hs := quo_same (a := a) (b := b)
  have hm : (a.tdiv b * b).natAbs ≤ a.natAbs := by
    rw [Int.natAbs_mul, Int.natAbs_tdiv]; exact Nat.div_mul_le_self _ _
  have hw2 : IntKind.i64.wrap (a.tdiv b * b) = a.tdiv b * b := IntWalk.i64_in _ (by omega)
  clear hm
  have HS := Lib.hid hs
  clear hs
  go_enter Tryd.func60, Tryd.ntmps60
  go_wp2
  all_goals
    go_ret
    refine ⟨ret_int ?_, rfl⟩
    have hs := HS.out
    unfold quoI
    simp_all

end Go.Proofs.YtmlifgngdilplaaDoor
