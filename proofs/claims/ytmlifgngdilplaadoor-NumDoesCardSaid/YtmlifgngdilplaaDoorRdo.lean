/-
  The document's power, bits and Do: the same numbers as num's. Conditions: as stated of each.
-/
import Derived.Test.YtmlifgngdilplaaDoorDiv
import Derived.Test.YtmlifgngdilplaaDoorRows
namespace Go.Proofs.YtmlifgngdilplaaDoor
open Go.RowKit

theorem over_iff {n a : Int} (ha : 2 ≤ sizeI a) : (9007199254740992 / sizeI a < n ∨ n < -(9007199254740992 / sizeI a)) ↔ (n ≠ 0 ∧ 9007199254740992 / sizeI n < sizeI a) := by
  have h1 : (9007199254740992 / sizeI a < n ∨ n < -(9007199254740992 / sizeI a)) ↔ 9007199254740992 / sizeI a < sizeI n := by
    have h0 : 0 ≤ 9007199254740992 / sizeI a := Int.ediv_nonneg (by omega) (by omega)
    generalize 9007199254740992 / sizeI a = D at *
    unfold sizeI
    split <;> omega
  rw [h1]
  by_cases hn : n = 0
  · subst hn
    have h0 : 0 ≤ 9007199254740992 / sizeI a := Int.ediv_nonneg (by omega) (by omega)
    have h2 : sizeI 0 = 0 := rfl
    rw [h2]
    omega
  · have hp := sizeI_pos hn
    rw [Int.ediv_lt_iff_lt_mul (by omega), Int.mul_comm]
    constructor
    · intro h; exact ⟨hn, by rw [Int.ediv_lt_iff_lt_mul (by omega)]; exact h⟩
    · rintro ⟨_, h⟩; rwa [Int.ediv_lt_iff_lt_mul (by omega)] at h

theorem rpower_zero (a : Int) (w : World) (h : a = 0 ∨ a = 1) : Calls Tryd.prog 61 #[.int .i64 a, .int .i64 0] w fun e w' => e = .returned (.int .i64 (pw a 0)) ∧ w = w' := by
  rcases h with rfl | rfl
  all_goals
    go_enter Tryd.func61, Tryd.ntmps61
    go_wp2
    go_ret
    exact ⟨rfl, rfl⟩
theorem rpower_one (a : Int) (n : Nat) (w : World) (h : a = 0 ∨ a = 1) : Calls Tryd.prog 61 #[.int .i64 a, .int .i64 ((n : Int) + 1)] w fun e w' => e = .returned (.int .i64 (pw a (n + 1))) ∧ w = w' := by
  have hz : ((n : Int) + 1 == 0) = false := by simp; omega
  rcases h with rfl | rfl
  · rw [pw_zero]
    go_enter Tryd.func61, Tryd.ntmps61
    go_wp2
    go_ret
    exact ⟨rfl, rfl⟩
  · rw [pw_one]
    go_enter Tryd.func61, Tryd.ntmps61
    go_wp2
    go_ret
    exact ⟨rfl, rfl⟩
theorem rpower_neg (n : Nat) (w : World) (hn : (n : Int) ≤ 9007199254740992) : Calls Tryd.prog 61 #[.int .i64 (-1), .int .i64 n] w fun e w' => e = .returned (.int .i64 (pw (-1) n)) ∧ w = w' := by
  have HF := Lib.hid (pw_neg n)
  go_enter Tryd.func61, Tryd.ntmps61
  go_wp2
  go_ret
  exact ⟨ret_int HF.out.symm, rfl⟩

set_option maxHeartbeats 1000000 in
theorem rpower_big (a : Int) (n : Nat) (w : World) (ha : inR a) (h2 : 2 ≤ sizeI a) (hb1 : (n : Int) ≤ 9007199254740992) :
    Calls Tryd.prog 61 #[.int .i64 a, .int .i64 n] w fun e w' => e = .returned (.int .i64 (pw a n)) ∧ w = w' := by
  obtain ⟨s1, s2⟩ := sizeI_bd ha
  have H29 := Lib.hid (fun w => Size_any a w (by have := ha.1; omega) (by have := ha.2; omega))
  have z0 : (a == 0) = false := by simp; rintro rfl; simp [sizeI] at h2
  have z1 : (a == 1) = false := by simp; rintro rfl; simp [sizeI] at h2
  have zm : (a == -1) = false := by simp; rintro rfl; simp [sizeI] at h2
  have d0 : 0 ≤ 9007199254740992 / sizeI a := Int.ediv_nonneg (by omega) (by omega)
  have d1 : 9007199254740992 / sizeI a ≤ 9007199254740992 := Int.ediv_le_self _ (by omega)
  have HO := Lib.hid (fun m => over_iff (n := m) h2)
  obtain ⟨a1, a2⟩ := ha
  go_enter Tryd.func61, Tryd.ntmps61
  go_wp2_with fail
  go_loop [5, 6] (fun m i => ∃ k : Nat, k ≤ n ∧ i = .int .i64 k ∧ m = .int .i64 (pw a k) ∧ inR (pw a k)) (fun _ i => n - (intOf i).toNat)
  case atStart => exact ⟨0, by omega, rfl, rfl, by simp [pw, inR]⟩
  case round =>
    obtain ⟨k, hk, rfl, rfl, hin⟩ := hrel
    by_cases hlt : k < n
    · have hsu := pw_succ hin
      have hov := HO.out (pw a k)
      obtain ⟨i1, i2⟩ := hin
      by_cases c1 : 9007199254740992 / sizeI a < pw a k
      · have HF := Lib.hid (show pw a n = 9007199254740993 by
          obtain ⟨m, hm⟩ : ∃ m, n = (k + 1) + m := ⟨n - (k + 1), by omega⟩
          rw [hm]
          refine pw_stick ?_ m
          rw [hsu]
          unfold prodI
          rw [if_pos (hov.1 (.inl c1))]
          rfl)
        clear hsu hov
        generalize pw a k = V at *
        go_wp2_with fail
        refine (H29.out _).mono ?_
        rintro e w' ⟨rfl, rfl⟩
        go_wp2
        go_ret
        exact ⟨ret_int HF.out.symm, rfl⟩
      · by_cases c2 : pw a k < -(9007199254740992 / sizeI a)
        · have HF := Lib.hid (show pw a n = 9007199254740993 by
            obtain ⟨m, hm⟩ : ∃ m, n = (k + 1) + m := ⟨n - (k + 1), by omega⟩
            rw [hm]
            refine pw_stick ?_ m
            rw [hsu]
            unfold prodI
            rw [if_pos (hov.1 (.inr c2))]
            rfl)
          clear hsu hov
          generalize pw a k = V at *
          go_wp2_with fail
          refine (H29.out _).mono ?_
          rintro e w' ⟨rfl, rfl⟩
          go_wp2_with fail
          refine (H29.out _).mono ?_
          rintro e w' ⟨rfl, rfl⟩
          go_wp2
          go_ret
          exact ⟨ret_int HF.out.symm, rfl⟩
        · have hno : ¬ (pw a k ≠ 0 ∧ 9007199254740992 / sizeI (pw a k) < sizeI a) := fun h => by
            rcases hov.2 h with h | h
            · exact c1 h
            · exact c2 h
          have hbd := prod_bd hno
          have HS : Hid (pw a (k + 1) = pw a k * a ∧ inR (pw a k * a)) := by
            refine ⟨?_, hbd⟩
            rw [hsu]
            unfold prodI
            rw [if_neg hno]
          obtain ⟨m1, m2⟩ := hbd
          have hw : IntKind.i64.wrap (pw a k * a) = pw a k * a := IntWalk.i64_in _ (by omega)
          clear hsu hov hno
          generalize pw a k = V at *
          go_wp2_with fail
          refine (H29.out _).mono ?_
          rintro e w' ⟨rfl, rfl⟩
          go_wp2_with fail
          refine (H29.out _).mono ?_
          rintro e w' ⟨rfl, rfl⟩
          go_wp2
          go_round
          case rel => exact ⟨k + 1, by omega, by go_num, by rw [HS.out.1], by rw [HS.out.1]; exact HS.out.2⟩
          case measure => simp [intOf]; omega
    · obtain rfl : k = n := by omega
      go_wp2
      go_ret
      exact ⟨rfl, rfl⟩

theorem rpower_any (a : Int) (n : Nat) (w : World) (ha : inR a) (hn : (n : Int) ≤ 9007199254740992) :
    Calls Tryd.prog 61 #[.int .i64 a, .int .i64 n] w fun e w' => e = .returned (.int .i64 (pw a n)) ∧ w = w' := by
  by_cases h2 : 2 ≤ sizeI a
  · exact rpower_big a n w ha h2 hn
  · have hs := of_sizeI (a := a) (m := 1) (by omega)
    by_cases hm : a = -1
    · subst hm; exact rpower_neg n w hn
    · have h01 : a = 0 ∨ a = 1 := by omega
      cases n with
      | zero => exact rpower_zero a w h01
      | succ n =>
        have e : ((n + 1 : Nat) : Int) = (n : Int) + 1 := by omega
        rw [e]
        exact rpower_one a n w h01

theorem natOp_lt (op r s k : Nat) (hr : r < 2 ^ k) (hs : s < 2 ^ k) : natOp op r s < 2 ^ k := by
  unfold natOp
  split
  · exact Nat.and_lt_two_pow _ hs
  · split
    · exact Nat.or_lt_two_pow hr hs
    · exact Nat.xor_lt_two_pow hr hs
theorem natOp_join (op x y r s k : Nat) (hr : r < 2 ^ k) (hs : s < 2 ^ k) : natOp op (2 ^ k * x + r) (2 ^ k * y + s) = 2 ^ k * natOp op x y + natOp op r s := by
  apply Nat.eq_of_testBit_eq
  intro j
  rw [Nat.testBit_two_pow_mul_add _ (natOp_lt op r s k hr hs)]
  have h1 := Nat.testBit_two_pow_mul_add x hr j
  have h2 := Nat.testBit_two_pow_mul_add y hs j
  unfold natOp
  split
  · rw [Nat.testBit_and, h1, h2]
    split <;> simp
  · split
    · rw [Nat.testBit_or, h1, h2]
      split <;> simp
    · rw [Nat.testBit_xor, h1, h2]
      split <;> simp
theorem wrap_bit (A q : Nat) (hA : (A : Int) ≤ 9007199254740992) : (wrap64 ((A : Int) / (q : Int))).tmod 2 = ((A / q % 2 : Nat) : Int) := by
  have e : (A : Int) / (q : Int) = ((A / q : Nat) : Int) := by simp
  have hle : A / q ≤ A := Nat.div_le_self _ _
  rw [e]
  clear e
  generalize A / q = D at *
  rw [IntWalk.wrap64_in _ (by omega), Int.tmod_eq_emod_of_nonneg (by omega)]
  omega
theorem natOp_step (op A B k : Nat) : natOp op (A % 2 ^ (k + 1)) (B % 2 ^ (k + 1)) = natOp op (A % 2 ^ k) (B % 2 ^ k) + 2 ^ k * natOp op (A / 2 ^ k % 2) (B / 2 ^ k % 2) := by
  have hp : 0 < 2 ^ k := Nat.two_pow_pos k
  rw [Nat.mod_pow_succ, Nat.mod_pow_succ, Nat.add_comm (A % 2 ^ k), Nat.add_comm (B % 2 ^ k), natOp_join _ _ _ _ _ _ (Nat.mod_lt _ hp) (Nat.mod_lt _ hp), Nat.add_comm]


set_option maxHeartbeats 2000000 in
theorem bits6_any (A B : Nat) (w : World) (hA : (A : Int) ≤ 9007199254740992) (hB : (B : Int) ≤ 9007199254740992) :
    Calls Tryd.prog 62 #[.int .i64 6, .int .i64 A, .int .i64 B] w fun e w' => e = .returned (.int .i64 (natOp 6 A B : Nat)) ∧ Below w.heap.size w w' := by
  have hb0 : Hid (Below w.heap.size w w) := Below.refl _ _
  have HAB : Hid (natOp 6 (A % 2 ^ 54) (B % 2 ^ 54) = natOp 6 A B) := by
    show _ = _
    rw [Nat.mod_eq_of_lt (show A < 2 ^ 54 by omega), Nat.mod_eq_of_lt (show B < 2 ^ 54 by omega)]
  go_enter Tryd.func62, Tryd.ntmps62
  go_wp2
  go_loopw [7, 8] (fun m p wr => ∃ (k q : Nat), k ≤ 54 ∧ 1 ≤ q ∧ q ≤ 18014398509481984 ∧ Hid (q = 2 ^ k) ∧ p = .int .i64 q ∧ m = .int .i64 (natOp 6 (A % 2 ^ k) (B % 2 ^ k) : Nat) ∧ Hid (Below w.heap.size w wr)) (fun _ p _ => (36028797018963968 - intOf p).toNat)
  case atStart => exact ⟨0, 1, by omega, by omega, by omega, rfl, rfl, by rw [Nat.pow_zero, Nat.mod_one, Nat.mod_one]; rfl, hb0⟩
  case round =>
    obtain ⟨k, q, hk, hq1, hq2, hq, rfl, rfl, hb⟩ := hrel
    have hm : natOp 6 (A % 2 ^ k) (B % 2 ^ k) < q := by
      rw [hq.out]
      exact natOp_lt _ _ _ _ (Nat.mod_lt _ (Nat.two_pow_pos k)) (Nat.mod_lt _ (Nat.two_pow_pos k))
    have HS := Lib.hid (natOp_step 6 A B k)
    by_cases hlt : q ≤ 9007199254740992
    · have hk53 : k ≤ 53 := by
        by_cases h : k ≤ 53
        · exact h
        · have : k = 54 := by omega
          have hh := hq.out
          rw [this] at hh
          omega
      have hz : ((q : Int) == 0) = false := by simp; omega
      have hx1 := wrap_bit A q hA
      have hy1 := wrap_bit B q hB
      have HQ : Hid (q * 2 = 2 ^ (k + 1)) := by show _ = _; rw [Nat.pow_succ, ← hq.out]
      have hxc : A / q % 2 = 0 ∨ A / q % 2 = 1 := by omega
      have hyc : B / q % 2 = 0 ∨ B / q % 2 = 1 := by omega
      generalize natOp 6 (A % 2 ^ k) (B % 2 ^ k) = M at *
      rcases hxc with hx | hx <;> rcases hyc with hy | hy
      · have HT : Hid (natOp 6 (A % 2 ^ (k + 1)) (B % 2 ^ (k + 1)) = M + q * 0) := by
          have h := HS.out
          rw [← hq.out, hx, hy, show natOp 6 0 0 = 0 from rfl] at h
          exact h
        rw [hx] at hx1
        rw [hy] at hy1
        clear hx hy HS
        go_wp2
        go_quiet (fail)
        go_wp2
        go_roundw
        case rel => exact ⟨k + 1, q * 2, by omega, by omega, by omega, HQ.out, by go_num, by rw [HT.out]; go_num, below_drewN hb.out _⟩
        case measure => simp [intOf]; omega
      · have HT : Hid (natOp 6 (A % 2 ^ (k + 1)) (B % 2 ^ (k + 1)) = M + q * 0) := by
          have h := HS.out
          rw [← hq.out, hx, hy, show natOp 6 0 1 = 0 from rfl] at h
          exact h
        rw [hx] at hx1
        rw [hy] at hy1
        clear hx hy HS
        go_wp2
        go_quiet (fail)
        go_wp2
        go_roundw
        case rel => exact ⟨k + 1, q * 2, by omega, by omega, by omega, HQ.out, by go_num, by rw [HT.out]; go_num, below_drewN hb.out _⟩
        case measure => simp [intOf]; omega
      · have HT : Hid (natOp 6 (A % 2 ^ (k + 1)) (B % 2 ^ (k + 1)) = M + q * 0) := by
          have h := HS.out
          rw [← hq.out, hx, hy, show natOp 6 1 0 = 0 from rfl] at h
          exact h
        rw [hx] at hx1
        rw [hy] at hy1
        clear hx hy HS
        go_wp2
        go_quiet (fail)
        go_wp2
        go_roundw
        case rel => exact ⟨k + 1, q * 2, by omega, by omega, by omega, HQ.out, by go_num, by rw [HT.out]; go_num, below_drewN hb.out _⟩
        case measure => simp [intOf]; omega
      · have HT : Hid (natOp 6 (A % 2 ^ (k + 1)) (B % 2 ^ (k + 1)) = M + q * 1) := by
          have h := HS.out
          rw [← hq.out, hx, hy, show natOp 6 1 1 = 1 from rfl] at h
          exact h
        rw [hx] at hx1
        rw [hy] at hy1
        clear hx hy HS
        go_wp2
        go_quiet (fail)
        go_wp2
        go_roundw
        case rel => exact ⟨k + 1, q * 2, by omega, by omega, by omega, HQ.out, by go_num, by rw [HT.out]; go_num, below_drewN hb.out _⟩
        case measure => simp [intOf]; omega
    · have hk54 : k = 54 := by
        by_cases h : k ≤ 53
        · have := hq.out
          have h2 : 2 ^ k ≤ 2 ^ 53 := Nat.pow_le_pow_right (by omega) h
          omega
        · omega
      have HE : Hid (natOp 6 (A % 2 ^ k) (B % 2 ^ k) = natOp 6 A B) := by rw [hk54]; exact HAB
      clear hk54 HS
      generalize natOp 6 (A % 2 ^ k) (B % 2 ^ k) = M at *
      go_wp2
      go_ret
      exact ⟨ret_int (by rw [HE.out]), hb.out⟩

set_option maxHeartbeats 2000000 in
theorem bits7_any (A B : Nat) (w : World) (hA : (A : Int) ≤ 9007199254740992) (hB : (B : Int) ≤ 9007199254740992) :
    Calls Tryd.prog 62 #[.int .i64 7, .int .i64 A, .int .i64 B] w fun e w' => e = .returned (.int .i64 (natOp 7 A B : Nat)) ∧ Below w.heap.size w w' := by
  have hb0 : Hid (Below w.heap.size w w) := Below.refl _ _
  have HAB : Hid (natOp 7 (A % 2 ^ 54) (B % 2 ^ 54) = natOp 7 A B) := by
    show _ = _
    rw [Nat.mod_eq_of_lt (show A < 2 ^ 54 by omega), Nat.mod_eq_of_lt (show B < 2 ^ 54 by omega)]
  go_enter Tryd.func62, Tryd.ntmps62
  go_wp2
  go_loopw [7, 8] (fun m p wr => ∃ (k q : Nat), k ≤ 54 ∧ 1 ≤ q ∧ q ≤ 18014398509481984 ∧ Hid (q = 2 ^ k) ∧ p = .int .i64 q ∧ m = .int .i64 (natOp 7 (A % 2 ^ k) (B % 2 ^ k) : Nat) ∧ Hid (Below w.heap.size w wr)) (fun _ p _ => (36028797018963968 - intOf p).toNat)
  case atStart => exact ⟨0, 1, by omega, by omega, by omega, rfl, rfl, by rw [Nat.pow_zero, Nat.mod_one, Nat.mod_one]; rfl, hb0⟩
  case round =>
    obtain ⟨k, q, hk, hq1, hq2, hq, rfl, rfl, hb⟩ := hrel
    have hm : natOp 7 (A % 2 ^ k) (B % 2 ^ k) < q := by
      rw [hq.out]
      exact natOp_lt _ _ _ _ (Nat.mod_lt _ (Nat.two_pow_pos k)) (Nat.mod_lt _ (Nat.two_pow_pos k))
    have HS := Lib.hid (natOp_step 7 A B k)
    by_cases hlt : q ≤ 9007199254740992
    · have hk53 : k ≤ 53 := by
        by_cases h : k ≤ 53
        · exact h
        · have : k = 54 := by omega
          have hh := hq.out
          rw [this] at hh
          omega
      have hz : ((q : Int) == 0) = false := by simp; omega
      have hx1 := wrap_bit A q hA
      have hy1 := wrap_bit B q hB
      have HQ : Hid (q * 2 = 2 ^ (k + 1)) := by show _ = _; rw [Nat.pow_succ, ← hq.out]
      have hxc : A / q % 2 = 0 ∨ A / q % 2 = 1 := by omega
      have hyc : B / q % 2 = 0 ∨ B / q % 2 = 1 := by omega
      generalize natOp 7 (A % 2 ^ k) (B % 2 ^ k) = M at *
      rcases hxc with hx | hx <;> rcases hyc with hy | hy
      · have HT : Hid (natOp 7 (A % 2 ^ (k + 1)) (B % 2 ^ (k + 1)) = M + q * 0) := by
          have h := HS.out
          rw [← hq.out, hx, hy, show natOp 7 0 0 = 0 from rfl] at h
          exact h
        rw [hx] at hx1
        rw [hy] at hy1
        clear hx hy HS
        go_wp2
        go_quiet (fail)
        go_wp2
        go_roundw
        case rel => exact ⟨k + 1, q * 2, by omega, by omega, by omega, HQ.out, by go_num, by rw [HT.out]; go_num, below_drewN hb.out _⟩
        case measure => simp [intOf]; omega
      · have HT : Hid (natOp 7 (A % 2 ^ (k + 1)) (B % 2 ^ (k + 1)) = M + q * 1) := by
          have h := HS.out
          rw [← hq.out, hx, hy, show natOp 7 0 1 = 1 from rfl] at h
          exact h
        rw [hx] at hx1
        rw [hy] at hy1
        clear hx hy HS
        go_wp2
        go_quiet (fail)
        go_wp2
        go_roundw
        case rel => exact ⟨k + 1, q * 2, by omega, by omega, by omega, HQ.out, by go_num, by rw [HT.out]; go_num, below_drewN hb.out _⟩
        case measure => simp [intOf]; omega
      · have HT : Hid (natOp 7 (A % 2 ^ (k + 1)) (B % 2 ^ (k + 1)) = M + q * 1) := by
          have h := HS.out
          rw [← hq.out, hx, hy, show natOp 7 1 0 = 1 from rfl] at h
          exact h
        rw [hx] at hx1
        rw [hy] at hy1
        clear hx hy HS
        go_wp2
        go_quiet (fail)
        go_wp2
        go_roundw
        case rel => exact ⟨k + 1, q * 2, by omega, by omega, by omega, HQ.out, by go_num, by rw [HT.out]; go_num, below_drewN hb.out _⟩
        case measure => simp [intOf]; omega
      · have HT : Hid (natOp 7 (A % 2 ^ (k + 1)) (B % 2 ^ (k + 1)) = M + q * 1) := by
          have h := HS.out
          rw [← hq.out, hx, hy, show natOp 7 1 1 = 1 from rfl] at h
          exact h
        rw [hx] at hx1
        rw [hy] at hy1
        clear hx hy HS
        go_wp2
        go_quiet (fail)
        go_wp2
        go_roundw
        case rel => exact ⟨k + 1, q * 2, by omega, by omega, by omega, HQ.out, by go_num, by rw [HT.out]; go_num, below_drewN hb.out _⟩
        case measure => simp [intOf]; omega
    · have hk54 : k = 54 := by
        by_cases h : k ≤ 53
        · have := hq.out
          have h2 : 2 ^ k ≤ 2 ^ 53 := Nat.pow_le_pow_right (by omega) h
          omega
        · omega
      have HE : Hid (natOp 7 (A % 2 ^ k) (B % 2 ^ k) = natOp 7 A B) := by rw [hk54]; exact HAB
      clear hk54 HS
      generalize natOp 7 (A % 2 ^ k) (B % 2 ^ k) = M at *
      go_wp2
      go_ret
      exact ⟨ret_int (by rw [HE.out]), hb.out⟩

set_option maxHeartbeats 2000000 in
theorem bits8_any (A B : Nat) (w : World) (hA : (A : Int) ≤ 9007199254740992) (hB : (B : Int) ≤ 9007199254740992) :
    Calls Tryd.prog 62 #[.int .i64 8, .int .i64 A, .int .i64 B] w fun e w' => e = .returned (.int .i64 (natOp 8 A B : Nat)) ∧ Below w.heap.size w w' := by
  have hb0 : Hid (Below w.heap.size w w) := Below.refl _ _
  have HAB : Hid (natOp 8 (A % 2 ^ 54) (B % 2 ^ 54) = natOp 8 A B) := by
    show _ = _
    rw [Nat.mod_eq_of_lt (show A < 2 ^ 54 by omega), Nat.mod_eq_of_lt (show B < 2 ^ 54 by omega)]
  go_enter Tryd.func62, Tryd.ntmps62
  go_wp2
  go_loopw [7, 8] (fun m p wr => ∃ (k q : Nat), k ≤ 54 ∧ 1 ≤ q ∧ q ≤ 18014398509481984 ∧ Hid (q = 2 ^ k) ∧ p = .int .i64 q ∧ m = .int .i64 (natOp 8 (A % 2 ^ k) (B % 2 ^ k) : Nat) ∧ Hid (Below w.heap.size w wr)) (fun _ p _ => (36028797018963968 - intOf p).toNat)
  case atStart => exact ⟨0, 1, by omega, by omega, by omega, rfl, rfl, by rw [Nat.pow_zero, Nat.mod_one, Nat.mod_one]; rfl, hb0⟩
  case round =>
    obtain ⟨k, q, hk, hq1, hq2, hq, rfl, rfl, hb⟩ := hrel
    have hm : natOp 8 (A % 2 ^ k) (B % 2 ^ k) < q := by
      rw [hq.out]
      exact natOp_lt _ _ _ _ (Nat.mod_lt _ (Nat.two_pow_pos k)) (Nat.mod_lt _ (Nat.two_pow_pos k))
    have HS := Lib.hid (natOp_step 8 A B k)
    by_cases hlt : q ≤ 9007199254740992
    · have hk53 : k ≤ 53 := by
        by_cases h : k ≤ 53
        · exact h
        · have : k = 54 := by omega
          have hh := hq.out
          rw [this] at hh
          omega
      have hz : ((q : Int) == 0) = false := by simp; omega
      have hx1 := wrap_bit A q hA
      have hy1 := wrap_bit B q hB
      have HQ : Hid (q * 2 = 2 ^ (k + 1)) := by show _ = _; rw [Nat.pow_succ, ← hq.out]
      have hxc : A / q % 2 = 0 ∨ A / q % 2 = 1 := by omega
      have hyc : B / q % 2 = 0 ∨ B / q % 2 = 1 := by omega
      generalize natOp 8 (A % 2 ^ k) (B % 2 ^ k) = M at *
      rcases hxc with hx | hx <;> rcases hyc with hy | hy
      · have HT : Hid (natOp 8 (A % 2 ^ (k + 1)) (B % 2 ^ (k + 1)) = M + q * 0) := by
          have h := HS.out
          rw [← hq.out, hx, hy, show natOp 8 0 0 = 0 from rfl] at h
          exact h
        rw [hx] at hx1
        rw [hy] at hy1
        clear hx hy HS
        go_wp2
        go_quiet (fail)
        go_wp2
        go_roundw
        case rel => exact ⟨k + 1, q * 2, by omega, by omega, by omega, HQ.out, by go_num, by rw [HT.out]; go_num, below_drewN hb.out _⟩
        case measure => simp [intOf]; omega
      · have HT : Hid (natOp 8 (A % 2 ^ (k + 1)) (B % 2 ^ (k + 1)) = M + q * 1) := by
          have h := HS.out
          rw [← hq.out, hx, hy, show natOp 8 0 1 = 1 from rfl] at h
          exact h
        rw [hx] at hx1
        rw [hy] at hy1
        clear hx hy HS
        go_wp2
        go_quiet (fail)
        go_wp2
        go_roundw
        case rel => exact ⟨k + 1, q * 2, by omega, by omega, by omega, HQ.out, by go_num, by rw [HT.out]; go_num, below_drewN hb.out _⟩
        case measure => simp [intOf]; omega
      · have HT : Hid (natOp 8 (A % 2 ^ (k + 1)) (B % 2 ^ (k + 1)) = M + q * 1) := by
          have h := HS.out
          rw [← hq.out, hx, hy, show natOp 8 1 0 = 1 from rfl] at h
          exact h
        rw [hx] at hx1
        rw [hy] at hy1
        clear hx hy HS
        go_wp2
        go_quiet (fail)
        go_wp2
        go_roundw
        case rel => exact ⟨k + 1, q * 2, by omega, by omega, by omega, HQ.out, by go_num, by rw [HT.out]; go_num, below_drewN hb.out _⟩
        case measure => simp [intOf]; omega
      · have HT : Hid (natOp 8 (A % 2 ^ (k + 1)) (B % 2 ^ (k + 1)) = M + q * 0) := by
          have h := HS.out
          rw [← hq.out, hx, hy, show natOp 8 1 1 = 0 from rfl] at h
          exact h
        rw [hx] at hx1
        rw [hy] at hy1
        clear hx hy HS
        go_wp2
        go_quiet (fail)
        go_wp2
        go_roundw
        case rel => exact ⟨k + 1, q * 2, by omega, by omega, by omega, HQ.out, by go_num, by rw [HT.out]; go_num, below_drewN hb.out _⟩
        case measure => simp [intOf]; omega
    · have hk54 : k = 54 := by
        by_cases h : k ≤ 53
        · have := hq.out
          have h2 : 2 ^ k ≤ 2 ^ 53 := Nat.pow_le_pow_right (by omega) h
          omega
        · omega
      have HE : Hid (natOp 8 (A % 2 ^ k) (B % 2 ^ k) = natOp 8 A B) := by rw [hk54]; exact HAB
      clear hk54 HS
      generalize natOp 8 (A % 2 ^ k) (B % 2 ^ k) = M at *
      go_wp2
      go_ret
      exact ⟨ret_int (by rw [HE.out]), hb.out⟩

/-- The document's Do, op by op: what it does behind the two ranges. -/
def RdoPost (n why err : Int) (w : World) (e : Ending) (w' : World) : Prop := e = .returned (.tuple #[.int .i64 n, .int .i64 why, .int .i64 err]) ∧ Below w.heap.size w w'

theorem rDo_out (op a b : Int) (w : World) (h : op < 0 ∨ 9 ≤ op) : Calls Tryd.prog 28 #[.int .i64 op, .int .i64 a, .int .i64 b] w (RdoPost 0 0 1 w) := by
  by_cases h0 : op < 0
  · go_enter Tryd.func28, Tryd.ntmps28
    go_wp2
    go_ret3
    exact ⟨rfl, Below.refl _ _⟩
  · have h9 : 8 < op := by omega
    clear h
    go_enter Tryd.func28, Tryd.ntmps28
    go_wp2
    go_ret3
    exact ⟨rfl, Below.refl _ _⟩
theorem rDo_range (n : Nat) (hn : n ≤ 8) (a b : Int) (w : World) (h : isNumB a = false ∨ isNumB b = false) : Calls Tryd.prog 28 #[.int .i64 (n : Int), .int .i64 a, .int .i64 b] w (RdoPost 0 0 1 w) := by
  have h8 : ¬ (8 < (n : Int)) := by omega
  have h0 : ¬ ((n : Int) < 0) := by omega
  cases ha : isNumB a
  · have HA := Lib.hid ha
    clear h ha
    go_enter Tryd.func28, Tryd.ntmps28
    go_wp2_with fail
    refine (IsNum_any a _).mono ?_
    rintro e w' ⟨rfl, rfl⟩
    rw [HA.out]
    go_wp2
    go_ret3
    exact ⟨rfl, Below.refl _ _⟩
  · have hb : isNumB b = false := by
      rcases h with h | h
      · rw [ha] at h; cases h
      · exact h
    have HA := Lib.hid ha
    have HB := Lib.hid hb
    clear h ha hb
    go_enter Tryd.func28, Tryd.ntmps28
    go_wp2_with fail
    refine (IsNum_any a _).mono ?_
    rintro e w' ⟨rfl, rfl⟩
    rw [HA.out]
    go_wp2_with fail
    refine (IsNum_any b _).mono ?_
    rintro e w' ⟨rfl, rfl⟩
    rw [HB.out]
    go_wp2
    go_ret3
    exact ⟨rfl, Below.refl _ _⟩

set_option maxHeartbeats 400000 in
theorem rDo0_in (a b : Int) (w : World) (ha : inR a) (hb : inR b) (hv : isNumB (a + b) = true) : Calls Tryd.prog 28 #[.int .i64 0, .int .i64 a, .int .i64 b] w (RdoPost (a + b) 0 0 w) := by
  have HA := Lib.hid (isNumB_of ha)
  have HB := Lib.hid (isNumB_of hb)
  obtain ⟨a1, a2⟩ := ha
  obtain ⟨b1, b2⟩ := hb
  have HV := Lib.hid hv
  clear hv
  go_enter Tryd.func28, Tryd.ntmps28
  go_wp2_with fail
  refine (IsNum_any a _).mono ?_
  rintro e w' ⟨rfl, rfl⟩
  rw [HA.out]
  go_wp2_with fail
  refine (IsNum_any b _).mono ?_
  rintro e w' ⟨rfl, rfl⟩
  rw [HB.out]
  go_wp2_with fail
  refine (IsNum_any _ _).mono ?_
  rintro e w' ⟨rfl, rfl⟩
  rw [HV.out]
  go_wp2
  go_ret3
  exact ⟨rfl, Below.refl _ _⟩

set_option maxHeartbeats 400000 in
theorem rDo0_no (a b : Int) (w : World) (ha : inR a) (hb : inR b) (hv : isNumB (a + b) = false) : Calls Tryd.prog 28 #[.int .i64 0, .int .i64 a, .int .i64 b] w (RdoPost 0 1 0 w) := by
  have HA := Lib.hid (isNumB_of ha)
  have HB := Lib.hid (isNumB_of hb)
  obtain ⟨a1, a2⟩ := ha
  obtain ⟨b1, b2⟩ := hb
  have HV := Lib.hid hv
  clear hv
  go_enter Tryd.func28, Tryd.ntmps28
  go_wp2_with fail
  refine (IsNum_any a _).mono ?_
  rintro e w' ⟨rfl, rfl⟩
  rw [HA.out]
  go_wp2_with fail
  refine (IsNum_any b _).mono ?_
  rintro e w' ⟨rfl, rfl⟩
  rw [HB.out]
  go_wp2_with fail
  refine (IsNum_any _ _).mono ?_
  rintro e w' ⟨rfl, rfl⟩
  rw [HV.out]
  go_wp2
  go_ret3
  exact ⟨rfl, Below.refl _ _⟩

set_option maxHeartbeats 400000 in
theorem rDo1_in (a b : Int) (w : World) (ha : inR a) (hb : inR b) (hv : isNumB (a - b) = true) : Calls Tryd.prog 28 #[.int .i64 1, .int .i64 a, .int .i64 b] w (RdoPost (a - b) 0 0 w) := by
  have HA := Lib.hid (isNumB_of ha)
  have HB := Lib.hid (isNumB_of hb)
  obtain ⟨a1, a2⟩ := ha
  obtain ⟨b1, b2⟩ := hb
  have HV := Lib.hid hv
  clear hv
  go_enter Tryd.func28, Tryd.ntmps28
  go_wp2_with fail
  refine (IsNum_any a _).mono ?_
  rintro e w' ⟨rfl, rfl⟩
  rw [HA.out]
  go_wp2_with fail
  refine (IsNum_any b _).mono ?_
  rintro e w' ⟨rfl, rfl⟩
  rw [HB.out]
  go_wp2_with fail
  refine (IsNum_any _ _).mono ?_
  rintro e w' ⟨rfl, rfl⟩
  rw [HV.out]
  go_wp2
  go_ret3
  exact ⟨rfl, Below.refl _ _⟩

set_option maxHeartbeats 400000 in
theorem rDo1_no (a b : Int) (w : World) (ha : inR a) (hb : inR b) (hv : isNumB (a - b) = false) : Calls Tryd.prog 28 #[.int .i64 1, .int .i64 a, .int .i64 b] w (RdoPost 0 1 0 w) := by
  have HA := Lib.hid (isNumB_of ha)
  have HB := Lib.hid (isNumB_of hb)
  obtain ⟨a1, a2⟩ := ha
  obtain ⟨b1, b2⟩ := hb
  have HV := Lib.hid hv
  clear hv
  go_enter Tryd.func28, Tryd.ntmps28
  go_wp2_with fail
  refine (IsNum_any a _).mono ?_
  rintro e w' ⟨rfl, rfl⟩
  rw [HA.out]
  go_wp2_with fail
  refine (IsNum_any b _).mono ?_
  rintro e w' ⟨rfl, rfl⟩
  rw [HB.out]
  go_wp2_with fail
  refine (IsNum_any _ _).mono ?_
  rintro e w' ⟨rfl, rfl⟩
  rw [HV.out]
  go_wp2
  go_ret3
  exact ⟨rfl, Below.refl _ _⟩

set_option maxHeartbeats 400000 in
theorem rDo2_in (a b : Int) (w : World) (ha : inR a) (hb : inR b) (hv : isNumB (prodI a b) = true) : Calls Tryd.prog 28 #[.int .i64 2, .int .i64 a, .int .i64 b] w (RdoPost (prodI a b) 0 0 w) := by
  have HA := Lib.hid (isNumB_of ha)
  have HB := Lib.hid (isNumB_of hb)
  have HC := Lib.hid (fun w => rproduct_any a b w ha hb)
  have HV := Lib.hid hv
  clear hv ha hb
  go_enter Tryd.func28, Tryd.ntmps28
  go_wp2_with fail
  refine (IsNum_any a _).mono ?_
  rintro e w' ⟨rfl, rfl⟩
  rw [HA.out]
  go_wp2_with fail
  refine (IsNum_any b _).mono ?_
  rintro e w' ⟨rfl, rfl⟩
  rw [HB.out]
  go_wp2_with fail
  refine (HC.out _).mono ?_
  rintro e w' ⟨rfl, rfl⟩
  go_wp2_with fail
  refine (IsNum_any _ _).mono ?_
  rintro e w' ⟨rfl, rfl⟩
  rw [HV.out]
  go_wp2
  go_ret3
  exact ⟨rfl, Below.refl _ _⟩

set_option maxHeartbeats 400000 in
theorem rDo2_no (a b : Int) (w : World) (ha : inR a) (hb : inR b) (hv : isNumB (prodI a b) = false) : Calls Tryd.prog 28 #[.int .i64 2, .int .i64 a, .int .i64 b] w (RdoPost 0 1 0 w) := by
  have HA := Lib.hid (isNumB_of ha)
  have HB := Lib.hid (isNumB_of hb)
  have HC := Lib.hid (fun w => rproduct_any a b w ha hb)
  have HV := Lib.hid hv
  clear hv ha hb
  go_enter Tryd.func28, Tryd.ntmps28
  go_wp2_with fail
  refine (IsNum_any a _).mono ?_
  rintro e w' ⟨rfl, rfl⟩
  rw [HA.out]
  go_wp2_with fail
  refine (IsNum_any b _).mono ?_
  rintro e w' ⟨rfl, rfl⟩
  rw [HB.out]
  go_wp2_with fail
  refine (HC.out _).mono ?_
  rintro e w' ⟨rfl, rfl⟩
  go_wp2_with fail
  refine (IsNum_any _ _).mono ?_
  rintro e w' ⟨rfl, rfl⟩
  rw [HV.out]
  go_wp2
  go_ret3
  exact ⟨rfl, Below.refl _ _⟩

set_option maxHeartbeats 400000 in
theorem rDo3_zero (a b : Int) (w : World) (ha : inR a) (hb : inR b) (hz : b = 0) : Calls Tryd.prog 28 #[.int .i64 3, .int .i64 a, .int .i64 b] w (RdoPost 0 2 0 w) := by
  have HA := Lib.hid (isNumB_of ha)
  have HB := Lib.hid (isNumB_of hb)
  have hz2 : (b == 0) = true := by simp [hz]
  clear ha hb hz
  go_enter Tryd.func28, Tryd.ntmps28
  go_wp2_with fail
  refine (IsNum_any a _).mono ?_
  rintro e w' ⟨rfl, rfl⟩
  rw [HA.out]
  go_wp2_with fail
  refine (IsNum_any b _).mono ?_
  rintro e w' ⟨rfl, rfl⟩
  rw [HB.out]
  go_wp2
  go_ret3
  exact ⟨rfl, Below.refl _ _⟩

set_option maxHeartbeats 400000 in
theorem rDo4_zero (a b : Int) (w : World) (ha : inR a) (hb : inR b) (hz : b = 0) : Calls Tryd.prog 28 #[.int .i64 4, .int .i64 a, .int .i64 b] w (RdoPost 0 2 0 w) := by
  have HA := Lib.hid (isNumB_of ha)
  have HB := Lib.hid (isNumB_of hb)
  have hz2 : (b == 0) = true := by simp [hz]
  clear ha hb hz
  go_enter Tryd.func28, Tryd.ntmps28
  go_wp2_with fail
  refine (IsNum_any a _).mono ?_
  rintro e w' ⟨rfl, rfl⟩
  rw [HA.out]
  go_wp2_with fail
  refine (IsNum_any b _).mono ?_
  rintro e w' ⟨rfl, rfl⟩
  rw [HB.out]
  go_wp2
  go_ret3
  exact ⟨rfl, Below.refl _ _⟩

set_option maxHeartbeats 400000 in
theorem rDo3_in (a b : Int) (w : World) (ha : inR a) (hb : inR b) (hz : b ≠ 0) : Calls Tryd.prog 28 #[.int .i64 3, .int .i64 a, .int .i64 b] w (RdoPost (quoI a b) 0 0 w) := by
  have HA := Lib.hid (isNumB_of ha)
  have HB := Lib.hid (isNumB_of hb)
  have HC := Lib.hid (fun w => rquotient_any a b w ha hb hz)
  have hz2 : (b == 0) = false := by simp [hz]
  have hv := isNumB_of (quo_bd ha hz)
  have HV := Lib.hid hv
  clear ha hb hz hv
  go_enter Tryd.func28, Tryd.ntmps28
  go_wp2_with fail
  refine (IsNum_any a _).mono ?_
  rintro e w' ⟨rfl, rfl⟩
  rw [HA.out]
  go_wp2_with fail
  refine (IsNum_any b _).mono ?_
  rintro e w' ⟨rfl, rfl⟩
  rw [HB.out]
  go_wp2_with fail
  refine (HC.out _).mono ?_
  rintro e w' ⟨rfl, rfl⟩
  go_wp2_with fail
  refine (IsNum_any _ _).mono ?_
  rintro e w' ⟨rfl, rfl⟩
  rw [HV.out]
  go_wp2
  go_ret3
  exact ⟨rfl, Below.refl _ _⟩

set_option maxHeartbeats 400000 in
theorem rDo4_in (a b : Int) (w : World) (ha : inR a) (hb : inR b) (hz : b ≠ 0) : Calls Tryd.prog 28 #[.int .i64 4, .int .i64 a, .int .i64 b] w (RdoPost (remI a b) 0 0 w) := by
  have HA := Lib.hid (isNumB_of ha)
  have HB := Lib.hid (isNumB_of hb)
  have HC := Lib.hid (fun w => rquotient_any a b w ha hb hz)
  have hz2 : (b == 0) = false := by simp [hz]
  have HR := Lib.hid (show a - b * quoI a b = remI a b by have := quo_rem (a := a) (b := b); omega)
  have hr := rem_bd (a := a) hb hz
  have HV := Lib.hid (isNumB_of hr)
  obtain ⟨r1, r2⟩ := hr
  obtain ⟨a1, a2⟩ := ha
  have hqr := quo_rem (a := a) (b := b)
  have m1 : -18014398509481984 ≤ b * quoI a b := by omega
  have m2 : b * quoI a b ≤ 18014398509481984 := by omega
  have hw : IntKind.i64.wrap (b * quoI a b) = b * quoI a b := IntWalk.i64_in _ (by omega)
  clear hb hz hqr
  generalize quoI a b = Q at *
  generalize remI a b = R at *
  go_enter Tryd.func28, Tryd.ntmps28
  go_wp2_with fail
  refine (IsNum_any a _).mono ?_
  rintro e w' ⟨rfl, rfl⟩
  rw [HA.out]
  go_wp2_with fail
  refine (IsNum_any b _).mono ?_
  rintro e w' ⟨rfl, rfl⟩
  rw [HB.out]
  go_wp2_with fail
  refine (HC.out _).mono ?_
  rintro e w' ⟨rfl, rfl⟩
  go_wp2_with fail
  rw [HR.out]
  refine (IsNum_any _ _).mono ?_
  rintro e w' ⟨rfl, rfl⟩
  rw [HV.out]
  go_wp2
  go_ret3
  exact ⟨rfl, Below.refl _ _⟩

set_option maxHeartbeats 400000 in
theorem rDo5_low (a b : Int) (w : World) (ha : inR a) (hb : inR b) (hn : b < 0) : Calls Tryd.prog 28 #[.int .i64 5, .int .i64 a, .int .i64 b] w (RdoPost 0 1 0 w) := by
  have HA := Lib.hid (isNumB_of ha)
  have HB := Lib.hid (isNumB_of hb)
  clear ha hb
  go_enter Tryd.func28, Tryd.ntmps28
  go_wp2_with fail
  refine (IsNum_any a _).mono ?_
  rintro e w' ⟨rfl, rfl⟩
  rw [HA.out]
  go_wp2_with fail
  refine (IsNum_any b _).mono ?_
  rintro e w' ⟨rfl, rfl⟩
  rw [HB.out]
  go_wp2
  go_ret3
  exact ⟨rfl, Below.refl _ _⟩

set_option maxHeartbeats 400000 in
theorem rDo5_in (a b : Int) (w : World) (ha : inR a) (hb : inR b) (hn : ¬ b < 0) (hv : isNumB (pw a b.toNat) = true) : Calls Tryd.prog 28 #[.int .i64 5, .int .i64 a, .int .i64 b] w (RdoPost (pw a b.toNat) 0 0 w) := by
  have HA := Lib.hid (isNumB_of ha)
  have HB := Lib.hid (isNumB_of hb)
  have HC : Hid (∀ w, Calls Tryd.prog 61 #[.int .i64 a, .int .i64 b] w fun e w' => e = .returned (.int .i64 (pw a b.toNat)) ∧ w = w') := by
    obtain ⟨m, rfl⟩ := Int.eq_ofNat_of_zero_le (show 0 ≤ b by omega)
    exact fun w => rpower_any a m w ha hb.2
  generalize pw a b.toNat = V at *
  have HV := Lib.hid hv
  clear hv ha hb
  go_enter Tryd.func28, Tryd.ntmps28
  go_wp2_with fail
  refine (IsNum_any a _).mono ?_
  rintro e w' ⟨rfl, rfl⟩
  rw [HA.out]
  go_wp2_with fail
  refine (IsNum_any b _).mono ?_
  rintro e w' ⟨rfl, rfl⟩
  rw [HB.out]
  go_wp2_with fail
  refine (HC.out _).mono ?_
  rintro e w' ⟨rfl, rfl⟩
  go_wp2_with fail
  refine (IsNum_any _ _).mono ?_
  rintro e w' ⟨rfl, rfl⟩
  rw [HV.out]
  go_wp2
  go_ret3
  exact ⟨rfl, Below.refl _ _⟩

set_option maxHeartbeats 400000 in
theorem rDo5_no (a b : Int) (w : World) (ha : inR a) (hb : inR b) (hn : ¬ b < 0) (hv : isNumB (pw a b.toNat) = false) : Calls Tryd.prog 28 #[.int .i64 5, .int .i64 a, .int .i64 b] w (RdoPost 0 1 0 w) := by
  have HA := Lib.hid (isNumB_of ha)
  have HB := Lib.hid (isNumB_of hb)
  have HC : Hid (∀ w, Calls Tryd.prog 61 #[.int .i64 a, .int .i64 b] w fun e w' => e = .returned (.int .i64 (pw a b.toNat)) ∧ w = w') := by
    obtain ⟨m, rfl⟩ := Int.eq_ofNat_of_zero_le (show 0 ≤ b by omega)
    exact fun w => rpower_any a m w ha hb.2
  generalize pw a b.toNat = V at *
  have HV := Lib.hid hv
  clear hv ha hb
  go_enter Tryd.func28, Tryd.ntmps28
  go_wp2_with fail
  refine (IsNum_any a _).mono ?_
  rintro e w' ⟨rfl, rfl⟩
  rw [HA.out]
  go_wp2_with fail
  refine (IsNum_any b _).mono ?_
  rintro e w' ⟨rfl, rfl⟩
  rw [HB.out]
  go_wp2_with fail
  refine (HC.out _).mono ?_
  rintro e w' ⟨rfl, rfl⟩
  go_wp2_with fail
  refine (IsNum_any _ _).mono ?_
  rintro e w' ⟨rfl, rfl⟩
  rw [HV.out]
  go_wp2
  go_ret3
  exact ⟨rfl, Below.refl _ _⟩

set_option maxHeartbeats 400000 in
theorem rDo6_low (a b : Int) (w : World) (ha : inR a) (hb : inR b) (hn : a < 0 ∨ b < 0) : Calls Tryd.prog 28 #[.int .i64 6, .int .i64 a, .int .i64 b] w (RdoPost 0 1 0 w) := by
  have HA := Lib.hid (isNumB_of ha)
  have HB := Lib.hid (isNumB_of hb)
  clear ha hb
  go_enter Tryd.func28, Tryd.ntmps28
  go_wp2_with fail
  refine (IsNum_any a _).mono ?_
  rintro e w' ⟨rfl, rfl⟩
  rw [HA.out]
  go_wp2_with fail
  refine (IsNum_any b _).mono ?_
  rintro e w' ⟨rfl, rfl⟩
  rw [HB.out]
  by_cases h : a < 0
  · clear hn
    go_wp2
    go_ret3
    exact ⟨rfl, Below.refl _ _⟩
  · have h2 : b < 0 := by omega
    clear hn
    go_wp2
    go_ret3
    exact ⟨rfl, Below.refl _ _⟩

set_option maxHeartbeats 400000 in
theorem rDo6_in (a b : Int) (w : World) (ha : inR a) (hb : inR b) (hn : ¬ a < 0 ∧ ¬ b < 0) (hv : isNumB ((natOp 6 a.toNat b.toNat : Nat)) = true) : Calls Tryd.prog 28 #[.int .i64 6, .int .i64 a, .int .i64 b] w (RdoPost ((natOp 6 a.toNat b.toNat : Nat)) 0 0 w) := by
  have HA := Lib.hid (isNumB_of ha)
  have HB := Lib.hid (isNumB_of hb)
  have HC : Hid (∀ w, Calls Tryd.prog 62 #[.int .i64 6, .int .i64 a, .int .i64 b] w fun e w' => e = .returned (.int .i64 (natOp 6 a.toNat b.toNat : Nat)) ∧ Below w.heap.size w w') := by
    obtain ⟨m, rfl⟩ := Int.eq_ofNat_of_zero_le (show 0 ≤ a by omega)
    obtain ⟨n, rfl⟩ := Int.eq_ofNat_of_zero_le (show 0 ≤ b by omega)
    exact fun w => bits6_any m n w ha.2 hb.2
  obtain ⟨n1, n2⟩ := hn
  generalize natOp 6 a.toNat b.toNat = V at *
  have HV := Lib.hid hv
  clear hv ha hb
  go_enter Tryd.func28, Tryd.ntmps28
  go_wp2_with fail
  refine (IsNum_any a _).mono ?_
  rintro e w' ⟨rfl, rfl⟩
  rw [HA.out]
  go_wp2_with fail
  refine (IsNum_any b _).mono ?_
  rintro e w' ⟨rfl, rfl⟩
  rw [HB.out]
  go_wp2_with fail
  refine (HC.out _).mono ?_
  rintro e w1 ⟨rfl, hb1⟩
  have HB1 := Lib.hid hb1
  clear hb1
  go_wp2_with fail
  refine (IsNum_any _ _).mono ?_
  rintro e w' ⟨rfl, rfl⟩
  rw [HV.out]
  go_wp2
  go_ret3
  exact ⟨rfl, HB1.out⟩

set_option maxHeartbeats 400000 in
theorem rDo6_no (a b : Int) (w : World) (ha : inR a) (hb : inR b) (hn : ¬ a < 0 ∧ ¬ b < 0) (hv : isNumB ((natOp 6 a.toNat b.toNat : Nat)) = false) : Calls Tryd.prog 28 #[.int .i64 6, .int .i64 a, .int .i64 b] w (RdoPost 0 1 0 w) := by
  have HA := Lib.hid (isNumB_of ha)
  have HB := Lib.hid (isNumB_of hb)
  have HC : Hid (∀ w, Calls Tryd.prog 62 #[.int .i64 6, .int .i64 a, .int .i64 b] w fun e w' => e = .returned (.int .i64 (natOp 6 a.toNat b.toNat : Nat)) ∧ Below w.heap.size w w') := by
    obtain ⟨m, rfl⟩ := Int.eq_ofNat_of_zero_le (show 0 ≤ a by omega)
    obtain ⟨n, rfl⟩ := Int.eq_ofNat_of_zero_le (show 0 ≤ b by omega)
    exact fun w => bits6_any m n w ha.2 hb.2
  obtain ⟨n1, n2⟩ := hn
  generalize natOp 6 a.toNat b.toNat = V at *
  have HV := Lib.hid hv
  clear hv ha hb
  go_enter Tryd.func28, Tryd.ntmps28
  go_wp2_with fail
  refine (IsNum_any a _).mono ?_
  rintro e w' ⟨rfl, rfl⟩
  rw [HA.out]
  go_wp2_with fail
  refine (IsNum_any b _).mono ?_
  rintro e w' ⟨rfl, rfl⟩
  rw [HB.out]
  go_wp2_with fail
  refine (HC.out _).mono ?_
  rintro e w1 ⟨rfl, hb1⟩
  have HB1 := Lib.hid hb1
  clear hb1
  go_wp2_with fail
  refine (IsNum_any _ _).mono ?_
  rintro e w' ⟨rfl, rfl⟩
  rw [HV.out]
  go_wp2
  go_ret3
  exact ⟨rfl, HB1.out⟩

set_option maxHeartbeats 400000 in
theorem rDo7_low (a b : Int) (w : World) (ha : inR a) (hb : inR b) (hn : a < 0 ∨ b < 0) : Calls Tryd.prog 28 #[.int .i64 7, .int .i64 a, .int .i64 b] w (RdoPost 0 1 0 w) := by
  have HA := Lib.hid (isNumB_of ha)
  have HB := Lib.hid (isNumB_of hb)
  clear ha hb
  go_enter Tryd.func28, Tryd.ntmps28
  go_wp2_with fail
  refine (IsNum_any a _).mono ?_
  rintro e w' ⟨rfl, rfl⟩
  rw [HA.out]
  go_wp2_with fail
  refine (IsNum_any b _).mono ?_
  rintro e w' ⟨rfl, rfl⟩
  rw [HB.out]
  by_cases h : a < 0
  · clear hn
    go_wp2
    go_ret3
    exact ⟨rfl, Below.refl _ _⟩
  · have h2 : b < 0 := by omega
    clear hn
    go_wp2
    go_ret3
    exact ⟨rfl, Below.refl _ _⟩

set_option maxHeartbeats 400000 in
theorem rDo7_in (a b : Int) (w : World) (ha : inR a) (hb : inR b) (hn : ¬ a < 0 ∧ ¬ b < 0) (hv : isNumB ((natOp 7 a.toNat b.toNat : Nat)) = true) : Calls Tryd.prog 28 #[.int .i64 7, .int .i64 a, .int .i64 b] w (RdoPost ((natOp 7 a.toNat b.toNat : Nat)) 0 0 w) := by
  have HA := Lib.hid (isNumB_of ha)
  have HB := Lib.hid (isNumB_of hb)
  have HC : Hid (∀ w, Calls Tryd.prog 62 #[.int .i64 7, .int .i64 a, .int .i64 b] w fun e w' => e = .returned (.int .i64 (natOp 7 a.toNat b.toNat : Nat)) ∧ Below w.heap.size w w') := by
    obtain ⟨m, rfl⟩ := Int.eq_ofNat_of_zero_le (show 0 ≤ a by omega)
    obtain ⟨n, rfl⟩ := Int.eq_ofNat_of_zero_le (show 0 ≤ b by omega)
    exact fun w => bits7_any m n w ha.2 hb.2
  obtain ⟨n1, n2⟩ := hn
  generalize natOp 7 a.toNat b.toNat = V at *
  have HV := Lib.hid hv
  clear hv ha hb
  go_enter Tryd.func28, Tryd.ntmps28
  go_wp2_with fail
  refine (IsNum_any a _).mono ?_
  rintro e w' ⟨rfl, rfl⟩
  rw [HA.out]
  go_wp2_with fail
  refine (IsNum_any b _).mono ?_
  rintro e w' ⟨rfl, rfl⟩
  rw [HB.out]
  go_wp2_with fail
  refine (HC.out _).mono ?_
  rintro e w1 ⟨rfl, hb1⟩
  have HB1 := Lib.hid hb1
  clear hb1
  go_wp2_with fail
  refine (IsNum_any _ _).mono ?_
  rintro e w' ⟨rfl, rfl⟩
  rw [HV.out]
  go_wp2
  go_ret3
  exact ⟨rfl, HB1.out⟩

set_option maxHeartbeats 400000 in
theorem rDo7_no (a b : Int) (w : World) (ha : inR a) (hb : inR b) (hn : ¬ a < 0 ∧ ¬ b < 0) (hv : isNumB ((natOp 7 a.toNat b.toNat : Nat)) = false) : Calls Tryd.prog 28 #[.int .i64 7, .int .i64 a, .int .i64 b] w (RdoPost 0 1 0 w) := by
  have HA := Lib.hid (isNumB_of ha)
  have HB := Lib.hid (isNumB_of hb)
  have HC : Hid (∀ w, Calls Tryd.prog 62 #[.int .i64 7, .int .i64 a, .int .i64 b] w fun e w' => e = .returned (.int .i64 (natOp 7 a.toNat b.toNat : Nat)) ∧ Below w.heap.size w w') := by
    obtain ⟨m, rfl⟩ := Int.eq_ofNat_of_zero_le (show 0 ≤ a by omega)
    obtain ⟨n, rfl⟩ := Int.eq_ofNat_of_zero_le (show 0 ≤ b by omega)
    exact fun w => bits7_any m n w ha.2 hb.2
  obtain ⟨n1, n2⟩ := hn
  generalize natOp 7 a.toNat b.toNat = V at *
  have HV := Lib.hid hv
  clear hv ha hb
  go_enter Tryd.func28, Tryd.ntmps28
  go_wp2_with fail
  refine (IsNum_any a _).mono ?_
  rintro e w' ⟨rfl, rfl⟩
  rw [HA.out]
  go_wp2_with fail
  refine (IsNum_any b _).mono ?_
  rintro e w' ⟨rfl, rfl⟩
  rw [HB.out]
  go_wp2_with fail
  refine (HC.out _).mono ?_
  rintro e w1 ⟨rfl, hb1⟩
  have HB1 := Lib.hid hb1
  clear hb1
  go_wp2_with fail
  refine (IsNum_any _ _).mono ?_
  rintro e w' ⟨rfl, rfl⟩
  rw [HV.out]
  go_wp2
  go_ret3
  exact ⟨rfl, HB1.out⟩

set_option maxHeartbeats 400000 in
theorem rDo8_low (a b : Int) (w : World) (ha : inR a) (hb : inR b) (hn : a < 0 ∨ b < 0) : Calls Tryd.prog 28 #[.int .i64 8, .int .i64 a, .int .i64 b] w (RdoPost 0 1 0 w) := by
  have HA := Lib.hid (isNumB_of ha)
  have HB := Lib.hid (isNumB_of hb)
  clear ha hb
  go_enter Tryd.func28, Tryd.ntmps28
  go_wp2_with fail
  refine (IsNum_any a _).mono ?_
  rintro e w' ⟨rfl, rfl⟩
  rw [HA.out]
  go_wp2_with fail
  refine (IsNum_any b _).mono ?_
  rintro e w' ⟨rfl, rfl⟩
  rw [HB.out]
  by_cases h : a < 0
  · clear hn
    go_wp2
    go_ret3
    exact ⟨rfl, Below.refl _ _⟩
  · have h2 : b < 0 := by omega
    clear hn
    go_wp2
    go_ret3
    exact ⟨rfl, Below.refl _ _⟩

set_option maxHeartbeats 400000 in
theorem rDo8_in (a b : Int) (w : World) (ha : inR a) (hb : inR b) (hn : ¬ a < 0 ∧ ¬ b < 0) (hv : isNumB ((natOp 8 a.toNat b.toNat : Nat)) = true) : Calls Tryd.prog 28 #[.int .i64 8, .int .i64 a, .int .i64 b] w (RdoPost ((natOp 8 a.toNat b.toNat : Nat)) 0 0 w) := by
  have HA := Lib.hid (isNumB_of ha)
  have HB := Lib.hid (isNumB_of hb)
  have HC : Hid (∀ w, Calls Tryd.prog 62 #[.int .i64 8, .int .i64 a, .int .i64 b] w fun e w' => e = .returned (.int .i64 (natOp 8 a.toNat b.toNat : Nat)) ∧ Below w.heap.size w w') := by
    obtain ⟨m, rfl⟩ := Int.eq_ofNat_of_zero_le (show 0 ≤ a by omega)
    obtain ⟨n, rfl⟩ := Int.eq_ofNat_of_zero_le (show 0 ≤ b by omega)
    exact fun w => bits8_any m n w ha.2 hb.2
  obtain ⟨n1, n2⟩ := hn
  generalize natOp 8 a.toNat b.toNat = V at *
  have HV := Lib.hid hv
  clear hv ha hb
  go_enter Tryd.func28, Tryd.ntmps28
  go_wp2_with fail
  refine (IsNum_any a _).mono ?_
  rintro e w' ⟨rfl, rfl⟩
  rw [HA.out]
  go_wp2_with fail
  refine (IsNum_any b _).mono ?_
  rintro e w' ⟨rfl, rfl⟩
  rw [HB.out]
  go_wp2_with fail
  refine (HC.out _).mono ?_
  rintro e w1 ⟨rfl, hb1⟩
  have HB1 := Lib.hid hb1
  clear hb1
  go_wp2_with fail
  refine (IsNum_any _ _).mono ?_
  rintro e w' ⟨rfl, rfl⟩
  rw [HV.out]
  go_wp2
  go_ret3
  exact ⟨rfl, HB1.out⟩

set_option maxHeartbeats 400000 in
theorem rDo8_no (a b : Int) (w : World) (ha : inR a) (hb : inR b) (hn : ¬ a < 0 ∧ ¬ b < 0) (hv : isNumB ((natOp 8 a.toNat b.toNat : Nat)) = false) : Calls Tryd.prog 28 #[.int .i64 8, .int .i64 a, .int .i64 b] w (RdoPost 0 1 0 w) := by
  have HA := Lib.hid (isNumB_of ha)
  have HB := Lib.hid (isNumB_of hb)
  have HC : Hid (∀ w, Calls Tryd.prog 62 #[.int .i64 8, .int .i64 a, .int .i64 b] w fun e w' => e = .returned (.int .i64 (natOp 8 a.toNat b.toNat : Nat)) ∧ Below w.heap.size w w') := by
    obtain ⟨m, rfl⟩ := Int.eq_ofNat_of_zero_le (show 0 ≤ a by omega)
    obtain ⟨n, rfl⟩ := Int.eq_ofNat_of_zero_le (show 0 ≤ b by omega)
    exact fun w => bits8_any m n w ha.2 hb.2
  obtain ⟨n1, n2⟩ := hn
  generalize natOp 8 a.toNat b.toNat = V at *
  have HV := Lib.hid hv
  clear hv ha hb
  go_enter Tryd.func28, Tryd.ntmps28
  go_wp2_with fail
  refine (IsNum_any a _).mono ?_
  rintro e w' ⟨rfl, rfl⟩
  rw [HA.out]
  go_wp2_with fail
  refine (IsNum_any b _).mono ?_
  rintro e w' ⟨rfl, rfl⟩
  rw [HB.out]
  go_wp2_with fail
  refine (HC.out _).mono ?_
  rintro e w1 ⟨rfl, hb1⟩
  have HB1 := Lib.hid hb1
  clear hb1
  go_wp2_with fail
  refine (IsNum_any _ _).mono ?_
  rintro e w' ⟨rfl, rfl⟩
  rw [HV.out]
  go_wp2
  go_ret3
  exact ⟨rfl, HB1.out⟩


end Go.Proofs.YtmlifgngdilplaaDoor
