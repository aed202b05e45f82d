/-
  The document's forms of one character. Conditions: characters.
-/
import Derived.Test.YtdjpjknbbedamaaKn
namespace Go.Proofs.Ytdjpjknbbedamaa
open Go.RowKit

/-- New cells of integers, as a slice without spare room. -/
def NewP (L : List Int) (w : World) (e : Ending) (w' : World) : Prop :=
  ∃ g, e = .returned (.slice (some ⟨g, 0, none⟩) L.length L.length) ∧ Below w.heap.size w w' ∧ g < w'.heap.size ∧ w.heap.size ≤ g ∧ ∀ j (h : j < L.length), w'.cell? ⟨g, j, none⟩ = some (.int .i64 L[j])
theorem new_mk (w : World) (L M : List Int) (h : L = M) : NewP M w (.returned (.slice (some ⟨w.heap.size, 0, none⟩) L.length L.length)) (w.alloc (.cells (L.map (Value.int .i64)).toArray 3)) := by
  subst h
  refine ⟨_, rfl, (Below.refl _ _).alloc (Nat.le_refl _) _, by simp, Nat.le_refl _, fun j h => ?_⟩
  rw [World.cell?_alloc_new]
  simp [h]
theorem new1 (w : World) (x : Int) (M : List Int) (h : [x] = M) : NewP M w (.returned (.slice (some ⟨w.heap.size, 0, none⟩) 1 1)) (w.alloc (.cells #[.int .i64 x] 3)) := new_mk w [x] M h
theorem new2 (w : World) (x y : Int) (M : List Int) (h : [x, y] = M) : NewP M w (.returned (.slice (some ⟨w.heap.size, 0, none⟩) 2 2)) (w.alloc (.cells #[.int .i64 x, .int .i64 y] 3)) := new_mk w [x, y] M h
theorem new3 (w : World) (x y z : Int) (M : List Int) (h : [x, y, z] = M) : NewP M w (.returned (.slice (some ⟨w.heap.size, 0, none⟩) 3 3)) (w.alloc (.cells #[.int .i64 x, .int .i64 y, .int .i64 z] 3)) := new_mk w [x, y, z] M h

/-- One number; the world as it was. -/
def IntS (n : Nat) (w : World) (e : Ending) (w' : World) : Prop := e = .returned (.int .i64 n) ∧ w = w'

set_option maxHeartbeats 2000000 in
theorem rsmall_any (c : Nat) (w : World) (hc : isC c = true) : Calls Try.prog 86 #[.int .i64 c] w (IntS (smC c) w) := by
  have hi := isC_iff.1 hc
  have h1 : c ≤ 1114111 := by omega
  have HP : Hid (∀ x w, x = ((smC c : Nat) : Int) → IntS (smC c) w (.returned (.int .i64 x)) w) := fun x w h => by
    rw [h]
    exact ⟨rfl, rfl⟩
  by_cases k1 : c = 7838
  · subst k1
    go_enter Try.func86, Try.ntmps86
    go_wp2
    go_ret
    exact HP.out _ _ (by decide +kernel)
  by_cases k2 : c = 8490
  · subst k2
    go_enter Try.func86, Try.ntmps86
    go_wp2
    go_ret
    exact HP.out _ _ (by decide +kernel)
  by_cases k3 : c = 8491
  · subst k3
    go_enter Try.func86, Try.ntmps86
    go_wp2
    go_ret
    exact HP.out _ _ (by decide +kernel)
  have m1 : ((c : Int) == 7838) = false := by rw [beq_eq_false_iff_ne]; omega
  have m2 : ((c : Int) == 8490) = false := by rw [beq_eq_false_iff_ne]; omega
  have m3 : ((c : Int) == 8491) = false := by rw [beq_eq_false_iff_ne]; omega
  have HS : Hid (smC c = if pcap c = true then c + 32 else c) := by
    show _ = _
    unfold smC
    rw [if_neg k1, if_neg k2, if_neg k3]
  clear k1 k2 k3 hc hi
  generalize smC c = S at *
  go_enter Try.func86, Try.ntmps86
  go_wp2
  all_goals
    go_ret
    refine HP.out _ _ ?_
    have hs := HS.out
    simp only [pcap_iff] at hs
    clear m1 m2 m3
    simp only [bne_iff_ne, bne_eq_false_iff_eq, ne_eq] at *
    split at hs <;> omega

set_option maxRecDepth 100000 in
set_option maxHeartbeats 4000000 in
theorem rcapital_any (c : Nat) (w : World) (hc : isC c = true) : Calls Try.prog 83 #[.int .i64 c] w (NewP (up (cpC c)) w) := by
  have hi := isC_iff.1 hc
  have h1 : c ≤ 1114111 := by omega
  have HP1 : Hid (∀ x, [x] = up (cpC c) → NewP (up (cpC c)) w (.returned (.slice (some ⟨w.heap.size, 0, none⟩) 1 1)) (w.alloc (.cells #[.int .i64 x] 3))) := fun x h => new1 w x _ h
  have HP2 : Hid (∀ x y, [x, y] = up (cpC c) → NewP (up (cpC c)) w (.returned (.slice (some ⟨w.heap.size, 0, none⟩) 2 2)) (w.alloc (.cells #[.int .i64 x, .int .i64 y] 3))) := fun x y h => new2 w x y _ h
  have HP3 : Hid (∀ x y z, [x, y, z] = up (cpC c) → NewP (up (cpC c)) w (.returned (.slice (some ⟨w.heap.size, 0, none⟩) 3 3)) (w.alloc (.cells #[.int .i64 x, .int .i64 y, .int .i64 z] 3))) := fun x y z h => new3 w x y z _ h
  by_cases k0 : c = 962
  · subst k0
    go_enter Try.func83, Try.ntmps83
    go_wp2
    go_ret
    first
      | exact HP1.out _ (by decide +kernel)
      | exact HP2.out _ _ (by decide +kernel)
      | exact HP3.out _ _ _ (by decide +kernel)
  have m0 : ((c : Int) == 962) = false := by rw [beq_eq_false_iff_ne]; omega
  by_cases k1 : c = 383
  · subst k1
    go_enter Try.func83, Try.ntmps83
    go_wp2
    go_ret
    first
      | exact HP1.out _ (by decide +kernel)
      | exact HP2.out _ _ (by decide +kernel)
      | exact HP3.out _ _ _ (by decide +kernel)
  have m1 : ((c : Int) == 383) = false := by rw [beq_eq_false_iff_ne]; omega
  by_cases k2 : c = 223
  · subst k2
    go_enter Try.func83, Try.ntmps83
    go_wp2
    go_ret
    first
      | exact HP1.out _ (by decide +kernel)
      | exact HP2.out _ _ (by decide +kernel)
      | exact HP3.out _ _ _ (by decide +kernel)
  have m2 : ((c : Int) == 223) = false := by rw [beq_eq_false_iff_ne]; omega
  by_cases k3 : c = 329
  · subst k3
    go_enter Try.func83, Try.ntmps83
    go_wp2
    go_ret
    first
      | exact HP1.out _ (by decide +kernel)
      | exact HP2.out _ _ (by decide +kernel)
      | exact HP3.out _ _ _ (by decide +kernel)
  have m3 : ((c : Int) == 329) = false := by rw [beq_eq_false_iff_ne]; omega
  by_cases k4 : c = 64256
  · subst k4
    go_enter Try.func83, Try.ntmps83
    go_wp2
    go_ret
    first
      | exact HP1.out _ (by decide +kernel)
      | exact HP2.out _ _ (by decide +kernel)
      | exact HP3.out _ _ _ (by decide +kernel)
  have m4 : ((c : Int) == 64256) = false := by rw [beq_eq_false_iff_ne]; omega
  by_cases k5 : c = 64257
  · subst k5
    go_enter Try.func83, Try.ntmps83
    go_wp2
    go_ret
    first
      | exact HP1.out _ (by decide +kernel)
      | exact HP2.out _ _ (by decide +kernel)
      | exact HP3.out _ _ _ (by decide +kernel)
  have m5 : ((c : Int) == 64257) = false := by rw [beq_eq_false_iff_ne]; omega
  by_cases k6 : c = 64258
  · subst k6
    go_enter Try.func83, Try.ntmps83
    go_wp2
    go_ret
    first
      | exact HP1.out _ (by decide +kernel)
      | exact HP2.out _ _ (by decide +kernel)
      | exact HP3.out _ _ _ (by decide +kernel)
  have m6 : ((c : Int) == 64258) = false := by rw [beq_eq_false_iff_ne]; omega
  by_cases k7 : c = 64259
  · subst k7
    go_enter Try.func83, Try.ntmps83
    go_wp2
    go_ret
    first
      | exact HP1.out _ (by decide +kernel)
      | exact HP2.out _ _ (by decide +kernel)
      | exact HP3.out _ _ _ (by decide +kernel)
  have m7 : ((c : Int) == 64259) = false := by rw [beq_eq_false_iff_ne]; omega
  by_cases k8 : c = 64260
  · subst k8
    go_enter Try.func83, Try.ntmps83
    go_wp2
    go_ret
    first
      | exact HP1.out _ (by decide +kernel)
      | exact HP2.out _ _ (by decide +kernel)
      | exact HP3.out _ _ _ (by decide +kernel)
  have m8 : ((c : Int) == 64260) = false := by rw [beq_eq_false_iff_ne]; omega
  by_cases k9 : c = 64261
  · subst k9
    go_enter Try.func83, Try.ntmps83
    go_wp2
    go_ret
    first
      | exact HP1.out _ (by decide +kernel)
      | exact HP2.out _ _ (by decide +kernel)
      | exact HP3.out _ _ _ (by decide +kernel)
  have m9 : ((c : Int) == 64261) = false := by rw [beq_eq_false_iff_ne]; omega
  by_cases k10 : c = 64262
  · subst k10
    go_enter Try.func83, Try.ntmps83
    go_wp2
    go_ret
    first
      | exact HP1.out _ (by decide +kernel)
      | exact HP2.out _ _ (by decide +kernel)
      | exact HP3.out _ _ _ (by decide +kernel)
  have m10 : ((c : Int) == 64262) = false := by rw [beq_eq_false_iff_ne]; omega
  have hcc : (((97 ≤ c ∧ c ≤ 122) ∨ (224 ≤ c ∧ c ≤ 254 ∧ c ≠ 247) ∨ (945 ≤ c ∧ c ≤ 969) ∨ (1072 ≤ c ∧ c ≤ 1103)) ∧ cpC c = [c - 32]) ∨ (¬ ((97 ≤ c ∧ c ≤ 122) ∨ (224 ≤ c ∧ c ≤ 254 ∧ c ≠ 247) ∨ (945 ≤ c ∧ c ≤ 969) ∨ (1072 ≤ c ∧ c ≤ 1103)) ∧ cpC c = [c]) := by
    rcases cpC_cases c with h | h | h | h | h | h | h | h | h | h | h | ⟨_, h⟩
    all_goals first
      | exact h
      | (exfalso; omega)
  clear k0 k1 k2 k3 k4 k5 k6 k7 k8 k9 k10 hc hi HP2 HP3
  rcases hcc with ⟨hr, he⟩ | ⟨hr, he⟩
  · have HF : Hid ([(c : Int) - 32] = up (cpC c)) := by
      show _ = _
      rw [he]
      show [(c : Int) - 32] = [((c - 32 : Nat) : Int)]
      rw [show (c : Int) - 32 = ((c - 32 : Nat) : Int) by omega]
    clear he
    rcases hr with ⟨r1, r2⟩ | ⟨r1, r2, r3⟩ | ⟨r1, r2⟩ | ⟨r1, r2⟩
    all_goals
      try have r4 : ((c : Int) != 247) = true := by rw [bne_iff_ne]; omega
      go_enter Try.func83, Try.ntmps83
      go_wp2
      go_ret
      exact HP1.out _ HF.out
  · have HF : Hid ([(c : Int)] = up (cpC c)) := by
      show _ = _
      rw [he]
      rfl
    have q1 : ¬ (97 ≤ c ∧ c ≤ 122) := by omega
    have q2 : ¬ (945 ≤ c ∧ c ≤ 969) := by omega
    have q3 : ¬ (1072 ≤ c ∧ c ≤ 1103) := by omega
    have q4 : c = 247 ∨ c < 224 ∨ 254 < c := by omega
    have Q1 : (97 ≤ c ∧ c ≤ 122) = False := by simp only [q1]
    clear Q1 hr he
    rcases q4 with rfl | q4 | q4
    all_goals
      go_enter Try.func83, Try.ntmps83
      go_wp2
      all_goals first
        | (exfalso; omega)
        | (go_ret
           exact HP1.out _ HF.out)

set_option maxRecDepth 100000 in
set_option maxHeartbeats 4000000 in
theorem rfold_any (c : Nat) (w : World) (hc : isC c = true) : Calls Try.prog 84 #[.int .i64 c] w (NewP (up (fdC c)) w) := by
  have hi := isC_iff.1 hc
  have h1 : c ≤ 1114111 := by omega
  have HP1 : Hid (∀ x, [x] = up (fdC c) → NewP (up (fdC c)) w (.returned (.slice (some ⟨w.heap.size, 0, none⟩) 1 1)) (w.alloc (.cells #[.int .i64 x] 3))) := fun x h => new1 w x _ h
  have HP2 : Hid (∀ x y, [x, y] = up (fdC c) → NewP (up (fdC c)) w (.returned (.slice (some ⟨w.heap.size, 0, none⟩) 2 2)) (w.alloc (.cells #[.int .i64 x, .int .i64 y] 3))) := fun x y h => new2 w x y _ h
  have HP3 : Hid (∀ x y z, [x, y, z] = up (fdC c) → NewP (up (fdC c)) w (.returned (.slice (some ⟨w.heap.size, 0, none⟩) 3 3)) (w.alloc (.cells #[.int .i64 x, .int .i64 y, .int .i64 z] 3))) := fun x y z h => new3 w x y z _ h
  by_cases k0 : c = 181
  · subst k0
    go_enter Try.func84, Try.ntmps84
    go_wp2
    go_ret
    first
      | exact HP1.out _ (by decide +kernel)
      | exact HP2.out _ _ (by decide +kernel)
      | exact HP3.out _ _ _ (by decide +kernel)
  have m0 : ((c : Int) == 181) = false := by rw [beq_eq_false_iff_ne]; omega
  by_cases k1 : c = 223
  · subst k1
    go_enter Try.func84, Try.ntmps84
    go_wp2
    go_ret
    first
      | exact HP1.out _ (by decide +kernel)
      | exact HP2.out _ _ (by decide +kernel)
      | exact HP3.out _ _ _ (by decide +kernel)
  have m1 : ((c : Int) == 223) = false := by rw [beq_eq_false_iff_ne]; omega
  by_cases k2 : c = 7838
  · subst k2
    go_enter Try.func84, Try.ntmps84
    go_wp2
    go_ret
    first
      | exact HP1.out _ (by decide +kernel)
      | exact HP2.out _ _ (by decide +kernel)
      | exact HP3.out _ _ _ (by decide +kernel)
  have m2 : ((c : Int) == 7838) = false := by rw [beq_eq_false_iff_ne]; omega
  by_cases k3 : c = 329
  · subst k3
    go_enter Try.func84, Try.ntmps84
    go_wp2
    go_ret
    first
      | exact HP1.out _ (by decide +kernel)
      | exact HP2.out _ _ (by decide +kernel)
      | exact HP3.out _ _ _ (by decide +kernel)
  have m3 : ((c : Int) == 329) = false := by rw [beq_eq_false_iff_ne]; omega
  by_cases k4 : c = 383
  · subst k4
    go_enter Try.func84, Try.ntmps84
    go_wp2
    go_ret
    first
      | exact HP1.out _ (by decide +kernel)
      | exact HP2.out _ _ (by decide +kernel)
      | exact HP3.out _ _ _ (by decide +kernel)
  have m4 : ((c : Int) == 383) = false := by rw [beq_eq_false_iff_ne]; omega
  by_cases k5 : c = 962
  · subst k5
    go_enter Try.func84, Try.ntmps84
    go_wp2
    go_ret
    first
      | exact HP1.out _ (by decide +kernel)
      | exact HP2.out _ _ (by decide +kernel)
      | exact HP3.out _ _ _ (by decide +kernel)
  have m5 : ((c : Int) == 962) = false := by rw [beq_eq_false_iff_ne]; omega
  by_cases k6 : c = 64256
  · subst k6
    go_enter Try.func84, Try.ntmps84
    go_wp2
    go_ret
    first
      | exact HP1.out _ (by decide +kernel)
      | exact HP2.out _ _ (by decide +kernel)
      | exact HP3.out _ _ _ (by decide +kernel)
  have m6 : ((c : Int) == 64256) = false := by rw [beq_eq_false_iff_ne]; omega
  by_cases k7 : c = 64257
  · subst k7
    go_enter Try.func84, Try.ntmps84
    go_wp2
    go_ret
    first
      | exact HP1.out _ (by decide +kernel)
      | exact HP2.out _ _ (by decide +kernel)
      | exact HP3.out _ _ _ (by decide +kernel)
  have m7 : ((c : Int) == 64257) = false := by rw [beq_eq_false_iff_ne]; omega
  by_cases k8 : c = 64258
  · subst k8
    go_enter Try.func84, Try.ntmps84
    go_wp2
    go_ret
    first
      | exact HP1.out _ (by decide +kernel)
      | exact HP2.out _ _ (by decide +kernel)
      | exact HP3.out _ _ _ (by decide +kernel)
  have m8 : ((c : Int) == 64258) = false := by rw [beq_eq_false_iff_ne]; omega
  by_cases k9 : c = 64259
  · subst k9
    go_enter Try.func84, Try.ntmps84
    go_wp2
    go_ret
    first
      | exact HP1.out _ (by decide +kernel)
      | exact HP2.out _ _ (by decide +kernel)
      | exact HP3.out _ _ _ (by decide +kernel)
  have m9 : ((c : Int) == 64259) = false := by rw [beq_eq_false_iff_ne]; omega
  by_cases k10 : c = 64260
  · subst k10
    go_enter Try.func84, Try.ntmps84
    go_wp2
    go_ret
    first
      | exact HP1.out _ (by decide +kernel)
      | exact HP2.out _ _ (by decide +kernel)
      | exact HP3.out _ _ _ (by decide +kernel)
  have m10 : ((c : Int) == 64260) = false := by rw [beq_eq_false_iff_ne]; omega
  by_cases k11 : c = 64261
  · subst k11
    go_enter Try.func84, Try.ntmps84
    go_wp2
    go_ret
    first
      | exact HP1.out _ (by decide +kernel)
      | exact HP2.out _ _ (by decide +kernel)
      | exact HP3.out _ _ _ (by decide +kernel)
  have m11 : ((c : Int) == 64261) = false := by rw [beq_eq_false_iff_ne]; omega
  by_cases k12 : c = 64262
  · subst k12
    go_enter Try.func84, Try.ntmps84
    go_wp2
    go_ret
    first
      | exact HP1.out _ (by decide +kernel)
      | exact HP2.out _ _ (by decide +kernel)
      | exact HP3.out _ _ _ (by decide +kernel)
  have m12 : ((c : Int) == 64262) = false := by rw [beq_eq_false_iff_ne]; omega
  have he : fdC c = [smC c] := by
    rcases fdC_cases c with h | h | h | h | h | h | h | h | h | h | h | h | h | ⟨_, h⟩
    all_goals first
      | exact h
      | (exfalso; omega)
  have HF : Hid ([((smC c : Nat) : Int)] = up (fdC c)) := by
    show _ = _
    rw [he]
    rfl
  have HSM := Lib.hid (fun w => rsmall_any c w hc)
  clear k0 k1 k2 k3 k4 k5 k6 k7 k8 k9 k10 k11 k12 hc hi HP2 HP3 he
  generalize smC c = S at *
  go_enter Try.func84, Try.ntmps84
  go_wp2_with fail
  refine (HSM.out _).mono ?_
  rintro e w' ⟨rfl, rfl⟩
  go_wp2
  go_ret
  exact HP1.out _ HF.out

end Go.Proofs.Ytdjpjknbbedamaa
