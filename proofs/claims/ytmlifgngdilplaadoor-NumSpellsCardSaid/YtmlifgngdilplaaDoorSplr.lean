/-
  The document's digits of a number and its Spell. Conditions: a base from 2 to 16, a number within 2^53.
-/
import Derived.Test.YtmlifgngdilplaaDoorSpl
namespace Go.Proofs.YtmlifgngdilplaaDoor
open Go.RowKit

theorem wrap_div (u b : Nat) (hu : (u : Int) ≤ 9007199254740992) : wrap64 ((u : Int) / (b : Int)) = ((u / b : Nat) : Int) := by
  have e : (u : Int) / (b : Int) = ((u / b : Nat) : Int) := by simp
  rw [e]
  clear e
  have h := Nat.div_le_self u b
  generalize u / b = D at *
  exact IntWalk.wrap64_in _ (by omega)

def hexS : ByteArray := ⟨#[48, 49, 50, 51, 52, 53, 54, 55, 56, 57, 97, 98, 99, 100, 101, 102]⟩
theorem hex_at : ∀ k, k < 16 → hexS.extract k (k + 1) = bs [dgc k] := by decide

theorem dgs_len (b : Nat) (hb : 2 ≤ b) : ∀ (n u : Nat), u < 2 ^ (n + 1) → (dgs b u).length ≤ n + 1
  | 0, u, h => by rw [dgs_one (by omega)]; simp
  | n + 1, u, h => by
    by_cases hs : u < b
    · rw [dgs_one hs]; simp
    · have h1 : u / b ≤ u / 2 := Nat.div_le_div_left hb (by omega)
      have h2 : u / b < 2 ^ (n + 1) := by
        have : 2 ^ (n + 2) = 2 * 2 ^ (n + 1) := by rw [Nat.pow_succ, Nat.mul_comm]
        omega
      have := dgs_len b hb n (u / b) h2
      rw [dgs_more hb (by omega), List.length_append, List.length_singleton]
      omega
theorem dgs_size (b : Nat) (hb : 2 ≤ b) (u : Nat) (h : (u : Int) ≤ 9007199254740992) : (dgs b u).length ≤ 54 := dgs_len b hb 53 u (by omega)

set_option maxRecDepth 100000 in
set_option maxHeartbeats 1600000 in
theorem spelled_any (b : Nat) (b0 : 2 ≤ b) (b1 : b ≤ 16) (f : Nat) : ∀ (u : Nat) (w : World), u ≤ f → (u : Int) ≤ 9007199254740992 →
    Calls Tryd.prog 76 #[.int .i64 u, .int .i64 b] w fun e w' => e = .returned (.string (bs (dgs b u))) ∧ Below w.heap.size w w' := by
  induction f using Nat.strongRecOn with
  | ind f ih =>
    intro u w hf hu
    have hb0 : Hid (Below w.heap.size w w) := Below.refl _ _
    have IH := Lib.hid ih
    clear ih
    have hm : u % b < b := Nat.mod_lt _ (by omega)
    have HMORE := Lib.hid (fun h => dgs_more (u := u) b0 h)
    have HONE := Lib.hid (fun h => dgs_one (b := b) (u := u) h)
    have HMD : Hid (u < b → u % b = u) := Nat.mod_eq_of_lt
    have ht0 : (u : Int).tmod (b : Int) = ((u % b : Nat) : Int) := by rw [Int.tmod_eq_emod_of_nonneg (by omega)]; rfl
    obtain ⟨k, hk⟩ : ∃ k, u % b = k := ⟨_, rfl⟩
    rw [hk] at hm ht0 HMD HMORE
    have hw1 : IntKind.i64.wrap ((k : Int) + 1) = (k : Int) + 1 := IntWalk.i64_in _ (by omega)
    have hw0 : IntKind.i64.wrap (k : Int) = (k : Int) := IntWalk.i64_in _ (by omega)
    have hk16 : (k : Int) + 1 ≤ 16 := by omega
    have hk0 : 0 ≤ (k : Int) + 1 := by omega
    have hbz : ((b : Int) == 0) = false := by simp; omega
    have hn1 : ((k : Int) + 1).toNat = k + 1 := by omega
    have HX := Lib.hid (hex_at k (by omega))
    clear hk
    have hd1 : ((bs [dgc k]).size : Int) ≤ 8388608 := by rw [bs_size]; simp
    by_cases hs : u < b
    · have HE : Hid (bs (dgs b u) = bs [dgc k]) := by
        show _ = _
        rw [HONE.out hs]
        rw [HMD.out hs]
      clear HMORE HONE HMD
      go_enter Tryd.func76, Tryd.ntmps76
      go_wp2_with fail
      go_quiet (fail)
      rw [show (ByteArray.mk #[48, 49, 50, 51, 52, 53, 54, 55, 56, 57, 97, 98, 99, 100, 101, 102]).extract k (k + 1) = bs [dgc k] from HX.out]
      generalize bs [dgc k] = D at *
      go_wp2
      go_ret
      exact ⟨by rw [HE.out]; rfl, below_drewN hb0.out _⟩
    · have hlt : u / b < u := Nat.div_lt_self (by omega) (by omega)
      have HI : Hid (∀ w, Calls Tryd.prog 76 #[.int .i64 ((u / b : Nat) : Int), .int .i64 b] w fun e w' => e = .returned (.string (bs (dgs b (u / b)))) ∧ Below w.heap.size w w') := fun w => IH.out (u / b) (by omega) (u / b) w (Nat.le_refl _) (by omega)
      have HE : Hid (bs (dgs b u) = bs (dgs b (u / b)) ++ bs [dgc k]) := by
        show _ = _
        rw [HMORE.out (by omega), bs_append]
      have hl : ((bs (dgs b (u / b))).size : Int) ≤ 8388608 := by
        rw [bs_size]
        have := dgs_size b b0 (u / b) (by omega)
        omega
      clear HMORE HONE HMD IH hlt
      generalize bs (dgs b (u / b)) = T at *
      have HDV : Hid (wrap64 ((u : Int) / (b : Int)) = ((u / b : Nat) : Int)) := wrap_div u b hu
      go_enter Tryd.func76, Tryd.ntmps76
      go_wp2_with fail
      go_quiet (fail)
      rw [show (ByteArray.mk #[48, 49, 50, 51, 52, 53, 54, 55, 56, 57, 97, 98, 99, 100, 101, 102]).extract k (k + 1) = bs [dgc k] from HX.out]
      generalize bs [dgc k] = D at *
      generalize hq : w.drewN nq = wq
      have HBQ : Hid (Below w.heap.size w wq) := by rw [← hq]; exact below_drewN hb0.out _
      clear hq
      go_wp2_with fail
      rw [HDV.out]
      refine (HI.out _).mono ?_
      rintro e w' ⟨rfl, hb1⟩
      have HB1 : Hid (Below w.heap.size w w') := HBQ.out.trans (hb1.mono HBQ.out.size)
      clear hb1
      go_wp2
      go_ret
      exact ⟨by rw [HE.out]; rfl, HB1.out⟩

def SpP (v : ByteArray) (k : Int) (w : World) (e : Ending) (w' : World) : Prop := e = .returned (.tuple #[.string v, .int .i64 k]) ∧ Below w.heap.size w w'
def okB (b : Int) : Prop := b = 2 ∨ b = 8 ∨ b = 10 ∨ b = 16

theorem rSpell_no (n b : Int) (w : World) (h : ¬ okB b ∨ isNumB n = false) : Calls Tryd.prog 44 #[.int .i64 n, .int .i64 b] w (SpP ⟨#[]⟩ 1 w) := by
  have hb0 : Hid (Below w.heap.size w w) := Below.refl _ _
  by_cases hb : okB b
  · have hn : isNumB n = false := by
      rcases h with h | h
      · exact absurd hb h
      · exact h
    have HN := Lib.hid hn
    clear hn h
    rcases hb with rfl | rfl | rfl | rfl
    all_goals
      go_enter Tryd.func44, Tryd.ntmps44
      go_wp2_with fail
      refine (IsNum_any n _).mono ?_
      rintro e w' ⟨rfl, rfl⟩
      rw [HN.out]
      go_wp2
      go_ret2
      exact ⟨rfl, hb0.out⟩
  · unfold okB at hb
    have b2 : (b != 2) = true := by simp; omega
    have b8 : (b != 8) = true := by simp; omega
    have b10 : (b != 10) = true := by simp; omega
    have b16 : (b != 16) = true := by simp; omega
    clear hb h
    go_enter Tryd.func44, Tryd.ntmps44
    go_wp2
    go_ret2
    exact ⟨rfl, hb0.out⟩

theorem nat_in {u : Nat} (hu : (u : Int) ≤ 9007199254740992) : isNumB (u : Int) = true := inR_iff.2 ⟨by omega, hu⟩

set_option maxHeartbeats 800000 in
theorem rSpell_nat (b : Nat) (hb : b = 2 ∨ b = 8 ∨ b = 10 ∨ b = 16) (u : Nat) (hu : (u : Int) ≤ 9007199254740992) (w : World) :
    Calls Tryd.prog 44 #[.int .i64 u, .int .i64 b] w (SpP (bs (pre b u ++ dgs b u)) 0 w) := by
  have HN := Lib.hid (nat_in hu)
  have HI := Lib.hid (fun w => spelled_any b (by omega) (by omega) u u w (Nat.le_refl _) hu)
  have hl : ((bs (dgs b u)).size : Int) ≤ 8388608 := by
    rw [bs_size]
    have := dgs_size b (by omega) u hu
    omega
  rcases hb with rfl | rfl | rfl | rfl
  · have HE : Hid (bs (pre 2 u ++ dgs 2 u) = ⟨#[48, 98]⟩ ++ bs (dgs 2 u)) := by show _ = _; rw [← bs_append]; rfl
    generalize bs (pre 2 u ++ dgs 2 u) = R at *
    generalize bs (dgs 2 u) = D at *
    go_enter Tryd.func44, Tryd.ntmps44
    go_wp2_with fail
    refine (IsNum_any u _).mono ?_
    rintro e w' ⟨rfl, rfl⟩
    rw [HN.out]
    go_wp2_with fail
    refine (HI.out _).mono ?_
    rintro e w' ⟨rfl, hb1⟩
    have HB1 := Lib.hid hb1
    clear hb1
    go_wp2
    go_ret2
    exact ⟨by rw [HE.out]; rfl, HB1.out⟩
  · by_cases h0 : 0 < u
    · have HE : Hid (bs (pre 8 u ++ dgs 8 u) = ⟨#[48]⟩ ++ bs (dgs 8 u)) := by
        show _ = _
        rw [show pre 8 u = [48] by simp [pre, h0], ← bs_append]; rfl
      generalize bs (pre 8 u ++ dgs 8 u) = R at *
      generalize bs (dgs 8 u) = D at *
      go_enter Tryd.func44, Tryd.ntmps44
      go_wp2_with fail
      refine (IsNum_any u _).mono ?_
      rintro e w' ⟨rfl, rfl⟩
      rw [HN.out]
      go_wp2_with fail
      refine (HI.out _).mono ?_
      rintro e w' ⟨rfl, hb1⟩
      have HB1 := Lib.hid hb1
      clear hb1
      go_wp2
      go_ret2
      exact ⟨by rw [HE.out]; rfl, HB1.out⟩
    · obtain rfl : u = 0 := by omega
      have HE : Hid (bs (pre 8 0 ++ dgs 8 0) = bs (dgs 8 0)) := by
        show _ = _
        rw [show pre 8 0 = [] by simp [pre]]; rfl
      generalize bs (pre 8 0 ++ dgs 8 0) = R at *
      generalize bs (dgs 8 0) = D at *
      clear h0
      go_enter Tryd.func44, Tryd.ntmps44
      go_wp2_with fail
      refine (IsNum_any _ _).mono ?_
      rintro e w' ⟨rfl, rfl⟩
      rw [show isNumB 0 = true from rfl]
      go_wp2_with fail
      refine (HI.out _).mono ?_
      rintro e w' ⟨rfl, hb1⟩
      have HB1 := Lib.hid hb1
      clear hb1
      go_wp2
      go_ret2
      exact ⟨by rw [HE.out]; rfl, HB1.out⟩
  · have HE : Hid (bs (pre 10 u ++ dgs 10 u) = bs (dgs 10 u)) := rfl
    generalize bs (pre 10 u ++ dgs 10 u) = R at *
    generalize bs (dgs 10 u) = D at *
    go_enter Tryd.func44, Tryd.ntmps44
    go_wp2_with fail
    refine (IsNum_any u _).mono ?_
    rintro e w' ⟨rfl, rfl⟩
    rw [HN.out]
    go_wp2_with fail
    refine (HI.out _).mono ?_
    rintro e w' ⟨rfl, hb1⟩
    have HB1 := Lib.hid hb1
    clear hb1
    go_wp2
    go_ret2
    exact ⟨by rw [HE.out]; rfl, HB1.out⟩
  · have HE : Hid (bs (pre 16 u ++ dgs 16 u) = ⟨#[48, 120]⟩ ++ bs (dgs 16 u)) := by show _ = _; rw [← bs_append]; rfl
    generalize bs (pre 16 u ++ dgs 16 u) = R at *
    generalize bs (dgs 16 u) = D at *
    go_enter Tryd.func44, Tryd.ntmps44
    go_wp2_with fail
    refine (IsNum_any u _).mono ?_
    rintro e w' ⟨rfl, rfl⟩
    rw [HN.out]
    go_wp2_with fail
    refine (HI.out _).mono ?_
    rintro e w' ⟨rfl, hb1⟩
    have HB1 := Lib.hid hb1
    clear hb1
    go_wp2
    go_ret2
    exact ⟨by rw [HE.out]; rfl, HB1.out⟩

/-- The text of a number in a base that is one. -/
def spT (n : Int) (b : Nat) : ByteArray := if n < 0 then bs (45 :: (pre b n.natAbs ++ dgs b n.natAbs)) else bs (pre b n.natAbs ++ dgs b n.natAbs)

theorem pre_len (b u : Nat) : (pre b u).length ≤ 2 := by
  unfold pre
  split
  · simp
  · split
    · simp
    · split <;> simp

theorem rSpell_any (b : Nat) (hb : b = 2 ∨ b = 8 ∨ b = 10 ∨ b = 16) (n : Int) (hn : inR n) (w : World) :
    Calls Tryd.prog 44 #[.int .i64 n, .int .i64 b] w (SpP (spT n b) 0 w) := by
  have hin := inR_iff.2 hn
  obtain ⟨n1, n2⟩ := hn
  by_cases h : n < 0
  · obtain ⟨u, hu⟩ := Int.eq_ofNat_of_zero_le (show 0 ≤ -n by omega)
    have hnu : n = -(u : Int) := by omega
    subst hnu
    have HI := Lib.hid (fun w => rSpell_nat b hb u (by omega) w)
    have HN := Lib.hid hin
    have hl : ((bs (pre b u ++ dgs b u)).size : Int) ≤ 8388608 := by
      rw [bs_size, List.length_append]
      have h1 := dgs_size b (by omega) u (by omega)
      have h2 := pre_len b u
      omega
    have HF : Hid (spT (-(u : Int)) b = ⟨#[45]⟩ ++ bs (pre b u ++ dgs b u)) := by
      show _ = _
      unfold spT
      rw [if_pos h, show (-(u : Int)).natAbs = u by omega]
      exact (bs_append [45] _).symm
    have hneg : - -(u : Int) = (u : Int) := by omega
    unfold SpP at HI
    generalize spT (-(u : Int)) b = R at *
    generalize bs (pre b u ++ dgs b u) = T at *
    rcases hb with rfl | rfl | rfl | rfl
    all_goals
      go_enter Tryd.func44, Tryd.ntmps44
      go_wp2_with fail
      refine (IsNum_any _ _).mono ?_
      rintro e w' ⟨rfl, rfl⟩
      rw [HN.out]
      go_wp2_with fail
      refine (HI.out _).mono ?_
      rintro e w' ⟨rfl, hb1⟩
      have HB1 := Lib.hid hb1
      clear hb1
      go_wp2
      go_ret2
      exact ⟨by rw [HF.out]; rfl, HB1.out⟩
  · obtain ⟨u, rfl⟩ := Int.eq_ofNat_of_zero_le (show 0 ≤ n by omega)
    have e : spT (u : Int) b = bs (pre b u ++ dgs b u) := by
      unfold spT
      rw [if_neg h]
      rfl
    rw [e]
    exact rSpell_nat b hb u n2 w

end Go.Proofs.YtmlifgngdilplaaDoor
