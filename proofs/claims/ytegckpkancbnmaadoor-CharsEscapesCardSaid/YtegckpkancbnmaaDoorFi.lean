/-
  The document's reader of one character, and both tests whether a number is a character's. Conditions: a text of at most 2^47 bytes.
-/
import Derived.Test.YtegckpkancbnmaaDoorUf
import Derived.Test.YtegckpkancbnmaaDoorBd
namespace Go.Proofs.YtegckpkancbnmaaDoor
open Go.RowKit

theorem ret_bool {a b : Bool} (h : a = b) : Ending.returned (.bool a) = .returned (.bool b) := by rw [h]
theorem ret_int {k : IntKind} {a b : Int} (h : a = b) : Ending.returned (.int k a) = .returned (.int k b) := by rw [h]
def TwoP (a b : Int) (w : World) (e : Ending) (w' : World) : Prop := e = .returned (.tuple #[.int .i64 a, .int .i64 b]) ∧ w = w'

theorem isCI_iff {n : Int} : isCI n = true ↔ 0 ≤ n ∧ n ≤ 1114111 ∧ ¬ (55296 ≤ n ∧ n ≤ 57343) := by
  unfold isCI; simp; omega

theorem IsChar_any (n : Int) (w : World) :
    Calls Tryd.prog 68 #[.int .i64 n] w fun e w' => e = .returned (.bool (isCI n)) ∧ w = w' := by
  by_cases h1 : 0 ≤ n <;> by_cases h2 : n ≤ 1114111 <;> by_cases h3 : 55296 ≤ n <;> by_cases h4 : n ≤ 57343
  all_goals first
    | (exfalso; omega)
    | (go_enter Tryd.func68, Tryd.ntmps68
       go_wp2
       go_ret
       exact ⟨ret_bool (by first | exact (isCI_iff.2 (by omega)).symm | exact (Bool.eq_false_iff.2 (fun h => by have := (isCI_iff (n := n)).1 h; omega)).symm | (rw [Bool.eq_iff_iff, isCI_iff]; simp; omega)), rfl⟩)

theorem isCharacter_any (n : Int) (w : World) :
    Calls Tryd.prog 65 #[.int .i64 n] w fun e w' => e = .returned (.bool (isCI n)) ∧ w = w' := by
  by_cases h1 : 0 ≤ n <;> by_cases h2 : n ≤ 1114111 <;> by_cases h3 : 55296 ≤ n <;> by_cases h4 : n ≤ 57343
  all_goals first
    | (exfalso; omega)
    | (go_enter Tryd.func65, Tryd.ntmps65
       go_wp2
       go_ret
       exact ⟨ret_bool (by first | exact (isCI_iff.2 (by omega)).symm | exact (Bool.eq_false_iff.2 (fun h => by have := (isCI_iff (n := n)).1 h; omega)).symm | (rw [Bool.eq_iff_iff, isCI_iff]; simp; omega)), rfl⟩)

theorem getElem_list (s : ByteArray) (k : Nat) (h : k < s.size) : s.data.toList[k]? = some s[k] := by
  simp [ByteArray.getElem_eq_getElem_data]
theorem byteAt_get (s : ByteArray) (k : Nat) (h : k < s.size) : byteAt s.data.toList k = (s[k]).toNat := by
  unfold byteAt
  rw [List.getD_eq_getElem?_getD, getElem_list s k h]
  rfl

theorem valB_succ (b : Nat → Nat) (c0 : Int) (k : Nat) (h : 1 ≤ k) : valB b c0 (k + 1) = valB b c0 k * 64 + (b k : Int) - 128 := by
  match k with
  | k + 1 => rfl

set_option maxRecDepth 100000 in
set_option maxHeartbeats 4000000 in
theorem first_2 (s : ByteArray) (w : World) (hs : s.size ≤ 140737488355328) (hp : 0 < s.size) (h1 : 192 ≤ s[0].toNat) (h2 : s[0].toNat < 224) :
    Calls Tryd.prog 59 #[.string s] w (TwoP (fstR s.data.toList).1 (fstR s.data.toList).2 w) := by
  have hne : s.data.toList ≠ [] := by
    intro h
    rw [size_list, h] at hp
    exact absurd hp (by simp)
  have hz : ((s.size : Int) == 0) = false := by rw [beq_eq_false_iff_ne]; omega
  have hb0 := byteAt_get s 0 hp
  have hL : Hid (Lead (byteAt s.data.toList 0) 2) := by
    show Lead _ _
    rw [hb0]
    unfold Lead
    omega
  by_cases hsh : s.size < 2
  · have HF : Hid (∀ w, TwoP (fstR s.data.toList).1 (fstR s.data.toList).2 w (.returned (.tuple #[.int .i64 0, .int .i64 0])) w) := fun w => by
      refine ⟨?_, rfl⟩
      rw [fst_short _ 2 hne hL.out hsh]
      rfl
    clear hb0 hne hL
    generalize fstR s.data.toList = R at *
    go_enter Tryd.func59, Tryd.ntmps59
    go_wp2
    go_ret2
    exact HF.out _
  · have hn : 2 ≤ s.size := by omega
    have HFc : Hid (∀ k, 1 ≤ k → k < 2 → ¬ Cont s.data.toList k → ∀ w, TwoP (fstR s.data.toList).1 (fstR s.data.toList).2 w (.returned (.tuple #[.int .i64 0, .int .i64 0])) w) := fun k hk hkn hc w => by
      refine ⟨?_, rfl⟩
      rw [fst_cont _ 2 k hL.out hn hk hkn hc]
      rfl
    have HFv : Hid (∀ c, (∀ k, 1 ≤ k → k < 2 → Cont s.data.toList k) → c = valB (byteAt s.data.toList) ((s[0].toNat : Int) - 192) 2 → ((128 ≤ c ∧ isCI c = true) → ∀ w, TwoP (fstR s.data.toList).1 (fstR s.data.toList).2 w (.returned (.tuple #[.int .i64 c, .int .i64 2])) w) ∧ (¬ (128 ≤ c ∧ isCI c = true) → ∀ w, TwoP (fstR s.data.toList).1 (fstR s.data.toList).2 w (.returned (.tuple #[.int .i64 0, .int .i64 0])) w)) := fun c hc hv => by
      obtain ⟨f1, f2⟩ := fst_full s.data.toList 2 hL.out hn hc c (by rw [hb0]; exact hv)
      constructor
      · intro h w
        obtain ⟨g1, g2⟩ := f1 h
        refine ⟨?_, rfl⟩
        rw [g1, g2]
        rfl
      · intro h w
        refine ⟨?_, rfl⟩
        rw [f2 h]
        rfl
    have HB : Hid (∀ k, (h : k < s.size) → byteAt s.data.toList k = (s[k]).toNat) := fun k h => byteAt_get s k h
    have HVB : Hid (∀ k, k ≤ 2 → (∀ j, 1 ≤ j → j < k → Cont s.data.toList j) → 0 ≤ valB (byteAt s.data.toList) ((s[0].toNat : Int) - 192) k ∧ valB (byteAt s.data.toList) ((s[0].toNat : Int) - 192) k < 8388608) := fun k hk hc =>
      val_bd _ _ (by omega) (by omega) k k (fun j h1 h2 => hc j h1 h2) (Nat.le_refl _) (by omega)
    clear hb0 hne hL hsh
    generalize fstR s.data.toList = R at *
    go_enter Tryd.func59, Tryd.ntmps59
    go_wp2
    go_loop [6, 8] (fun c i => ∃ k : Nat, 1 ≤ k ∧ k ≤ 2 ∧ i = .int .i64 k ∧ c = .int .i64 (valB (byteAt s.data.toList) ((s[0].toNat : Int) - 192) k) ∧ Hid (∀ j, 1 ≤ j → j < k → Cont s.data.toList j)) (fun _ i => 2 - (intOf i).toNat)
    case atStart => exact ⟨1, by omega, by omega, rfl, rfl, fun j h1 h2 => absurd h2 (by omega)⟩
    case round =>
      obtain ⟨k, hk1, hkn, rfl, rfl, hco⟩ := hrel
      have hvb := HVB.out k hkn hco.out
      have HSU := Lib.hid (valB_succ (byteAt s.data.toList) ((s[0].toNat : Int) - 192) k hk1)
      by_cases hlt : k < 2
      · have hks : k < s.size := by omega
        have hBk := HB.out k hks
        generalize valB (byteAt s.data.toList) ((s[0].toNat : Int) - 192) k = V at *
        by_cases c1 : s[k].toNat < 128
        · have HF := Lib.hid (HFc.out k hk1 hlt (by unfold Cont; omega))
          clear hBk
          go_wp2
          go_ret2
          exact HF.out _
        · by_cases c2 : 192 ≤ s[k].toNat
          · have HF := Lib.hid (HFc.out k hk1 hlt (by unfold Cont; omega))
            clear hBk
            go_wp2
            go_ret2
            exact HF.out _
          · have HN : Hid (∀ j, 1 ≤ j → j < k + 1 → Cont s.data.toList j) := fun j hj1 hj2 => by
              by_cases hjk : j = k
              · subst hjk; unfold Cont; omega
              · exact hco.out j hj1 (by omega)
            have c1' : 128 ≤ s[k].toNat := by omega
            have c2' : s[k].toNat < 192 := by omega
            have HS2 : Hid (valB (byteAt s.data.toList) ((s[0].toNat : Int) - 192) (k + 1) = V * 64 + (s[k].toNat : Int) - 128) := by
              show _ = _
              rw [HSU.out, hBk]
            clear hBk c1 c2
            go_wp2
            go_round
            case rel => exact ⟨_, _, _, _, ⟨k + 1, by omega, by omega, by go_num, by rw [HS2.out], HN⟩, rfl, rfl, rfl, rfl⟩
            case measure => simp [intOf]; omega
      · obtain rfl : k = 2 := by omega
        obtain ⟨HV1, HV2⟩ := HFv.out _ hco.out rfl
        generalize valB (byteAt s.data.toList) ((s[0].toNat : Int) - 192) 2 = V at *
        have HV1 := Lib.hid HV1
        have HV2 := Lib.hid HV2
        by_cases hlv : 128 ≤ V
        · cases hci : isCI V
          · have HF := Lib.hid (HV2.out (by rw [hci]; simp))
            have HC := Lib.hid hci
            clear hci
            go_wp2_with fail
            refine (IsChar_any _ _).mono ?_
            rintro e w' ⟨rfl, rfl⟩
            rw [HC.out]
            go_wp2
            go_ret2
            exact HF.out _
          · have HF := Lib.hid (HV1.out ⟨hlv, hci⟩)
            have HC := Lib.hid hci
            clear hci
            go_wp2_with fail
            refine (IsChar_any _ _).mono ?_
            rintro e w' ⟨rfl, rfl⟩
            rw [HC.out]
            go_wp2
            go_ret2
            exact HF.out _
        · have HF := Lib.hid (HV2.out (fun h => hlv h.1))
          go_wp2
          go_ret2
          exact HF.out _

set_option maxRecDepth 100000 in
set_option maxHeartbeats 4000000 in
theorem first_3 (s : ByteArray) (w : World) (hs : s.size ≤ 140737488355328) (hp : 0 < s.size) (h1 : 224 ≤ s[0].toNat) (h2 : s[0].toNat < 240) :
    Calls Tryd.prog 59 #[.string s] w (TwoP (fstR s.data.toList).1 (fstR s.data.toList).2 w) := by
  have hne : s.data.toList ≠ [] := by
    intro h
    rw [size_list, h] at hp
    exact absurd hp (by simp)
  have hz : ((s.size : Int) == 0) = false := by rw [beq_eq_false_iff_ne]; omega
  have hb0 := byteAt_get s 0 hp
  have hL : Hid (Lead (byteAt s.data.toList 0) 3) := by
    show Lead _ _
    rw [hb0]
    unfold Lead
    omega
  by_cases hsh : s.size < 3
  · have HF : Hid (∀ w, TwoP (fstR s.data.toList).1 (fstR s.data.toList).2 w (.returned (.tuple #[.int .i64 0, .int .i64 0])) w) := fun w => by
      refine ⟨?_, rfl⟩
      rw [fst_short _ 3 hne hL.out hsh]
      rfl
    clear hb0 hne hL
    generalize fstR s.data.toList = R at *
    go_enter Tryd.func59, Tryd.ntmps59
    go_wp2
    go_ret2
    exact HF.out _
  · have hn : 3 ≤ s.size := by omega
    have HFc : Hid (∀ k, 1 ≤ k → k < 3 → ¬ Cont s.data.toList k → ∀ w, TwoP (fstR s.data.toList).1 (fstR s.data.toList).2 w (.returned (.tuple #[.int .i64 0, .int .i64 0])) w) := fun k hk hkn hc w => by
      refine ⟨?_, rfl⟩
      rw [fst_cont _ 3 k hL.out hn hk hkn hc]
      rfl
    have HFv : Hid (∀ c, (∀ k, 1 ≤ k → k < 3 → Cont s.data.toList k) → c = valB (byteAt s.data.toList) ((s[0].toNat : Int) - 224) 3 → ((2048 ≤ c ∧ isCI c = true) → ∀ w, TwoP (fstR s.data.toList).1 (fstR s.data.toList).2 w (.returned (.tuple #[.int .i64 c, .int .i64 3])) w) ∧ (¬ (2048 ≤ c ∧ isCI c = true) → ∀ w, TwoP (fstR s.data.toList).1 (fstR s.data.toList).2 w (.returned (.tuple #[.int .i64 0, .int .i64 0])) w)) := fun c hc hv => by
      obtain ⟨f1, f2⟩ := fst_full s.data.toList 3 hL.out hn hc c (by rw [hb0]; exact hv)
      constructor
      · intro h w
        obtain ⟨g1, g2⟩ := f1 h
        refine ⟨?_, rfl⟩
        rw [g1, g2]
        rfl
      · intro h w
        refine ⟨?_, rfl⟩
        rw [f2 h]
        rfl
    have HB : Hid (∀ k, (h : k < s.size) → byteAt s.data.toList k = (s[k]).toNat) := fun k h => byteAt_get s k h
    have HVB : Hid (∀ k, k ≤ 3 → (∀ j, 1 ≤ j → j < k → Cont s.data.toList j) → 0 ≤ valB (byteAt s.data.toList) ((s[0].toNat : Int) - 224) k ∧ valB (byteAt s.data.toList) ((s[0].toNat : Int) - 224) k < 8388608) := fun k hk hc =>
      val_bd _ _ (by omega) (by omega) k k (fun j h1 h2 => hc j h1 h2) (Nat.le_refl _) (by omega)
    clear hb0 hne hL hsh
    generalize fstR s.data.toList = R at *
    go_enter Tryd.func59, Tryd.ntmps59
    go_wp2
    go_loop [6, 8] (fun c i => ∃ k : Nat, 1 ≤ k ∧ k ≤ 3 ∧ i = .int .i64 k ∧ c = .int .i64 (valB (byteAt s.data.toList) ((s[0].toNat : Int) - 224) k) ∧ Hid (∀ j, 1 ≤ j → j < k → Cont s.data.toList j)) (fun _ i => 3 - (intOf i).toNat)
    case atStart => exact ⟨1, by omega, by omega, rfl, rfl, fun j h1 h2 => absurd h2 (by omega)⟩
    case round =>
      obtain ⟨k, hk1, hkn, rfl, rfl, hco⟩ := hrel
      have hvb := HVB.out k hkn hco.out
      have HSU := Lib.hid (valB_succ (byteAt s.data.toList) ((s[0].toNat : Int) - 224) k hk1)
      by_cases hlt : k < 3
      · have hks : k < s.size := by omega
        have hBk := HB.out k hks
        generalize valB (byteAt s.data.toList) ((s[0].toNat : Int) - 224) k = V at *
        by_cases c1 : s[k].toNat < 128
        · have HF := Lib.hid (HFc.out k hk1 hlt (by unfold Cont; omega))
          clear hBk
          go_wp2
          go_ret2
          exact HF.out _
        · by_cases c2 : 192 ≤ s[k].toNat
          · have HF := Lib.hid (HFc.out k hk1 hlt (by unfold Cont; omega))
            clear hBk
            go_wp2
            go_ret2
            exact HF.out _
          · have HN : Hid (∀ j, 1 ≤ j → j < k + 1 → Cont s.data.toList j) := fun j hj1 hj2 => by
              by_cases hjk : j = k
              · subst hjk; unfold Cont; omega
              · exact hco.out j hj1 (by omega)
            have c1' : 128 ≤ s[k].toNat := by omega
            have c2' : s[k].toNat < 192 := by omega
            have HS2 : Hid (valB (byteAt s.data.toList) ((s[0].toNat : Int) - 224) (k + 1) = V * 64 + (s[k].toNat : Int) - 128) := by
              show _ = _
              rw [HSU.out, hBk]
            clear hBk c1 c2
            go_wp2
            go_round
            case rel => exact ⟨_, _, _, _, ⟨k + 1, by omega, by omega, by go_num, by rw [HS2.out], HN⟩, rfl, rfl, rfl, rfl⟩
            case measure => simp [intOf]; omega
      · obtain rfl : k = 3 := by omega
        obtain ⟨HV1, HV2⟩ := HFv.out _ hco.out rfl
        generalize valB (byteAt s.data.toList) ((s[0].toNat : Int) - 224) 3 = V at *
        have HV1 := Lib.hid HV1
        have HV2 := Lib.hid HV2
        by_cases hlv : 2048 ≤ V
        · cases hci : isCI V
          · have HF := Lib.hid (HV2.out (by rw [hci]; simp))
            have HC := Lib.hid hci
            clear hci
            go_wp2_with fail
            refine (IsChar_any _ _).mono ?_
            rintro e w' ⟨rfl, rfl⟩
            rw [HC.out]
            go_wp2
            go_ret2
            exact HF.out _
          · have HF := Lib.hid (HV1.out ⟨hlv, hci⟩)
            have HC := Lib.hid hci
            clear hci
            go_wp2_with fail
            refine (IsChar_any _ _).mono ?_
            rintro e w' ⟨rfl, rfl⟩
            rw [HC.out]
            go_wp2
            go_ret2
            exact HF.out _
        · have HF := Lib.hid (HV2.out (fun h => hlv h.1))
          go_wp2
          go_ret2
          exact HF.out _

set_option maxRecDepth 100000 in
set_option maxHeartbeats 4000000 in
theorem first_4 (s : ByteArray) (w : World) (hs : s.size ≤ 140737488355328) (hp : 0 < s.size) (h1 : 240 ≤ s[0].toNat) (h2 : s[0].toNat < 248) :
    Calls Tryd.prog 59 #[.string s] w (TwoP (fstR s.data.toList).1 (fstR s.data.toList).2 w) := by
  have hne : s.data.toList ≠ [] := by
    intro h
    rw [size_list, h] at hp
    exact absurd hp (by simp)
  have hz : ((s.size : Int) == 0) = false := by rw [beq_eq_false_iff_ne]; omega
  have hb0 := byteAt_get s 0 hp
  have hL : Hid (Lead (byteAt s.data.toList 0) 4) := by
    show Lead _ _
    rw [hb0]
    unfold Lead
    omega
  by_cases hsh : s.size < 4
  · have HF : Hid (∀ w, TwoP (fstR s.data.toList).1 (fstR s.data.toList).2 w (.returned (.tuple #[.int .i64 0, .int .i64 0])) w) := fun w => by
      refine ⟨?_, rfl⟩
      rw [fst_short _ 4 hne hL.out hsh]
      rfl
    clear hb0 hne hL
    generalize fstR s.data.toList = R at *
    go_enter Tryd.func59, Tryd.ntmps59
    go_wp2
    go_ret2
    exact HF.out _
  · have hn : 4 ≤ s.size := by omega
    have HFc : Hid (∀ k, 1 ≤ k → k < 4 → ¬ Cont s.data.toList k → ∀ w, TwoP (fstR s.data.toList).1 (fstR s.data.toList).2 w (.returned (.tuple #[.int .i64 0, .int .i64 0])) w) := fun k hk hkn hc w => by
      refine ⟨?_, rfl⟩
      rw [fst_cont _ 4 k hL.out hn hk hkn hc]
      rfl
    have HFv : Hid (∀ c, (∀ k, 1 ≤ k → k < 4 → Cont s.data.toList k) → c = valB (byteAt s.data.toList) ((s[0].toNat : Int) - 240) 4 → ((65536 ≤ c ∧ isCI c = true) → ∀ w, TwoP (fstR s.data.toList).1 (fstR s.data.toList).2 w (.returned (.tuple #[.int .i64 c, .int .i64 4])) w) ∧ (¬ (65536 ≤ c ∧ isCI c = true) → ∀ w, TwoP (fstR s.data.toList).1 (fstR s.data.toList).2 w (.returned (.tuple #[.int .i64 0, .int .i64 0])) w)) := fun c hc hv => by
      obtain ⟨f1, f2⟩ := fst_full s.data.toList 4 hL.out hn hc c (by rw [hb0]; exact hv)
      constructor
      · intro h w
        obtain ⟨g1, g2⟩ := f1 h
        refine ⟨?_, rfl⟩
        rw [g1, g2]
        rfl
      · intro h w
        refine ⟨?_, rfl⟩
        rw [f2 h]
        rfl
    have HB : Hid (∀ k, (h : k < s.size) → byteAt s.data.toList k = (s[k]).toNat) := fun k h => byteAt_get s k h
    have HVB : Hid (∀ k, k ≤ 4 → (∀ j, 1 ≤ j → j < k → Cont s.data.toList j) → 0 ≤ valB (byteAt s.data.toList) ((s[0].toNat : Int) - 240) k ∧ valB (byteAt s.data.toList) ((s[0].toNat : Int) - 240) k < 8388608) := fun k hk hc =>
      val_bd _ _ (by omega) (by omega) k k (fun j h1 h2 => hc j h1 h2) (Nat.le_refl _) (by omega)
    clear hb0 hne hL hsh
    generalize fstR s.data.toList = R at *
    go_enter Tryd.func59, Tryd.ntmps59
    go_wp2
    go_loop [6, 8] (fun c i => ∃ k : Nat, 1 ≤ k ∧ k ≤ 4 ∧ i = .int .i64 k ∧ c = .int .i64 (valB (byteAt s.data.toList) ((s[0].toNat : Int) - 240) k) ∧ Hid (∀ j, 1 ≤ j → j < k → Cont s.data.toList j)) (fun _ i => 4 - (intOf i).toNat)
    case atStart => exact ⟨1, by omega, by omega, rfl, rfl, fun j h1 h2 => absurd h2 (by omega)⟩
    case round =>
      obtain ⟨k, hk1, hkn, rfl, rfl, hco⟩ := hrel
      have hvb := HVB.out k hkn hco.out
      have HSU := Lib.hid (valB_succ (byteAt s.data.toList) ((s[0].toNat : Int) - 240) k hk1)
      by_cases hlt : k < 4
      · have hks : k < s.size := by omega
        have hBk := HB.out k hks
        generalize valB (byteAt s.data.toList) ((s[0].toNat : Int) - 240) k = V at *
        by_cases c1 : s[k].toNat < 128
        · have HF := Lib.hid (HFc.out k hk1 hlt (by unfold Cont; omega))
          clear hBk
          go_wp2
          go_ret2
          exact HF.out _
        · by_cases c2 : 192 ≤ s[k].toNat
          · have HF := Lib.hid (HFc.out k hk1 hlt (by unfold Cont; omega))
            clear hBk
            go_wp2
            go_ret2
            exact HF.out _
          · have HN : Hid (∀ j, 1 ≤ j → j < k + 1 → Cont s.data.toList j) := fun j hj1 hj2 => by
              by_cases hjk : j = k
              · subst hjk; unfold Cont; omega
              · exact hco.out j hj1 (by omega)
            have c1' : 128 ≤ s[k].toNat := by omega
            have c2' : s[k].toNat < 192 := by omega
            have HS2 : Hid (valB (byteAt s.data.toList) ((s[0].toNat : Int) - 240) (k + 1) = V * 64 + (s[k].toNat : Int) - 128) := by
              show _ = _
              rw [HSU.out, hBk]
            clear hBk c1 c2
            go_wp2
            go_round
            case rel => exact ⟨_, _, _, _, ⟨k + 1, by omega, by omega, by go_num, by rw [HS2.out], HN⟩, rfl, rfl, rfl, rfl⟩
            case measure => simp [intOf]; omega
      · obtain rfl : k = 4 := by omega
        obtain ⟨HV1, HV2⟩ := HFv.out _ hco.out rfl
        generalize valB (byteAt s.data.toList) ((s[0].toNat : Int) - 240) 4 = V at *
        have HV1 := Lib.hid HV1
        have HV2 := Lib.hid HV2
        by_cases hlv : 65536 ≤ V
        · cases hci : isCI V
          · have HF := Lib.hid (HV2.out (by rw [hci]; simp))
            have HC := Lib.hid hci
            clear hci
            go_wp2_with fail
            refine (IsChar_any _ _).mono ?_
            rintro e w' ⟨rfl, rfl⟩
            rw [HC.out]
            go_wp2
            go_ret2
            exact HF.out _
          · have HF := Lib.hid (HV1.out ⟨hlv, hci⟩)
            have HC := Lib.hid hci
            clear hci
            go_wp2_with fail
            refine (IsChar_any _ _).mono ?_
            rintro e w' ⟨rfl, rfl⟩
            rw [HC.out]
            go_wp2
            go_ret2
            exact HF.out _
        · have HF := Lib.hid (HV2.out (fun h => hlv h.1))
          go_wp2
          go_ret2
          exact HF.out _

set_option maxRecDepth 100000 in
set_option maxHeartbeats 4000000 in
theorem first_any (s : ByteArray) (w : World) (hs : s.size ≤ 140737488355328) :
    Calls Tryd.prog 59 #[.string s] w (TwoP (fstR s.data.toList).1 (fstR s.data.toList).2 w) := by
  by_cases h0 : s.size = 0
  · have hl : s.data.toList = [] := List.eq_nil_of_length_eq_zero h0
    have HF : Hid (∀ w, TwoP (fstR s.data.toList).1 (fstR s.data.toList).2 w (.returned (.tuple #[.int .i64 0, .int .i64 0])) w) := fun w => by
      refine ⟨?_, rfl⟩
      rw [hl, fst_nil]
      rfl
    have hz : ((s.size : Int) == 0) = true := by simp [h0]
    clear hl
    generalize fstR s.data.toList = R at *
    go_enter Tryd.func59, Tryd.ntmps59
    go_wp2
    go_ret2
    exact HF.out _
  · have hp : 0 < s.size := by omega
    have hne : s.data.toList ≠ [] := by
      intro h
      exact h0 (by rw [size_list, h]; rfl)
    have hz : ((s.size : Int) == 0) = false := by rw [beq_eq_false_iff_ne]; omega
    have hb0 := byteAt_get s 0 hp
    have hb0l := byteAt_lt s.data.toList 0
    by_cases hasc : byteAt s.data.toList 0 < 128
    · have HF : Hid (∀ w, TwoP (fstR s.data.toList).1 (fstR s.data.toList).2 w (.returned (.tuple #[.int .i64 (s[0].toNat : Int), .int .i64 1])) w) := fun w => by
        refine ⟨?_, rfl⟩
        rw [fst_ascii _ hne hasc, hb0]
        rfl
      have ha : s[0].toNat < 128 := by omega
      clear hb0 hasc hb0l h0 hne
      generalize fstR s.data.toList = R at *
      go_enter Tryd.func59, Tryd.ntmps59
      go_wp2
      go_ret2
      exact HF.out _
    · by_cases h2 : 192 ≤ s[0].toNat ∧ s[0].toNat < 224
      · exact first_2 s w hs hp h2.1 h2.2
      by_cases h3 : 224 ≤ s[0].toNat ∧ s[0].toNat < 240
      · exact first_3 s w hs hp h3.1 h3.2
      by_cases h4 : 240 ≤ s[0].toNat ∧ s[0].toNat < 248
      · exact first_4 s w hs hp h4.1 h4.2
      have HF : Hid (∀ w, TwoP (fstR s.data.toList).1 (fstR s.data.toList).2 w (.returned (.tuple #[.int .i64 0, .int .i64 0])) w) := fun w => by
        refine ⟨?_, rfl⟩
        rw [fst_nolead _ hne (by omega) (by omega)]
        rfl
      have hlo : 128 ≤ s[0].toNat := by omega
      have hub : s[0].toNat < 256 := s[0].toNat_lt
      have hor : s[0].toNat < 192 ∨ 248 ≤ s[0].toNat := by omega
      clear h2 h3 h4 hb0 hasc hb0l h0 hne
      generalize fstR s.data.toList = R at *
      rcases hor with hor | hor
      all_goals
        go_enter Tryd.func59, Tryd.ntmps59
        go_wp2
        go_ret2
        exact HF.out _

end Go.Proofs.YtegckpkancbnmaaDoor
