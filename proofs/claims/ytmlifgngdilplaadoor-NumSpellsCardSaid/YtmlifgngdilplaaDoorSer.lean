/-
  Texts of letters and then digits: num.isSerial and the document's counts. Conditions: a text of at most 2^47 bytes.
-/
import Derived.Test.YtmlifgngdilplaaDoorLooks
namespace Go.Proofs.YtmlifgngdilplaaDoor
open Go.RowKit

def ltr (c : UInt8) : Bool := letB (c.toNat : Int)
def nl (l : List UInt8) : Nat := (l.takeWhile ltr).length
def cntB (l : List UInt8) : Bool := !l.isEmpty && decide (nl l + ldig (l.drop (nl l)) = l.length)

theorem isLetter_any (c : Int) (w : World) : Calls Tryd.prog 97 #[.int .u8 c] w fun e w' => e = .returned (.bool (letB c)) ∧ w = w' := by
  by_cases h1 : 97 ≤ c <;> by_cases h2 : c ≤ 122 <;> by_cases h3 : 65 ≤ c <;> by_cases h4 : c ≤ 90 <;> try (exfalso; omega)
  all_goals
    go_enter Tryd.func97, Tryd.ntmps97
    go_wp2
    go_ret
    exact ⟨ret_bool (by simp [letB, h1, h2, h3, h4]), rfl⟩

theorem letter_any (c : Int) (w : World) : Calls Tryd.prog 115 #[.int .u8 c] w fun e w' => e = .returned (.bool (letB c)) ∧ w = w' := by
  by_cases h1 : 97 ≤ c <;> by_cases h2 : c ≤ 122 <;> by_cases h3 : 65 ≤ c <;> by_cases h4 : c ≤ 90 <;> try (exfalso; omega)
  all_goals
    go_enter Tryd.func115, Tryd.ntmps115
    go_wp2
    go_ret
    exact ⟨ret_bool (by simp [letB, h1, h2, h3, h4]), rfl⟩

theorem beq_add (k D z : Nat) : ((k : Int) + (D : Int) == (z : Int)) = decide (k + D = z) := by
  rw [Bool.eq_iff_iff]; simp; omega
theorem beq_nat (k z : Nat) : ((k : Int) == (z : Int)) = decide (k = z) := by
  rw [Bool.eq_iff_iff]; simp; omega
theorem nl_le (l : List UInt8) : nl l ≤ l.length := (List.takeWhile_sublist _).length_le

set_option maxHeartbeats 800000 in
theorem isSerial_any (s : ByteArray) (w : World) (hs : s.size ≤ 140737488355328) : Calls Tryd.prog 66 #[.string s] w fun e w' => e = .returned (.bool (cntB s.data.toList)) ∧ w = w' := by
  go_enter Tryd.func66, Tryd.ntmps66
  go_wp2
  go_loop [3] (fun i => ∃ k : Nat, k ≤ s.size ∧ i = .int .i64 k ∧ Hid (∀ j c, j < k → s.data.toList[j]? = some c → ltr c = true)) (fun i => s.size - (intOf i).toNat)
  case atStart => exact ⟨0, Nat.zero_le _, rfl, fun j c h => absurd h (Nat.not_lt_zero j)⟩
  case round =>
    obtain ⟨k, hk, rfl, hd⟩ := hrel
    by_cases hmore : k < s.size ∧ ltr s[k]! = true
    · obtain ⟨hlt, hb⟩ := hmore
      have hbb : s[k]! = s[k] := getElem!_pos s k hlt
      rw [hbb] at hb
      clear hbb
      have HF : Hid (∀ j c, j < k + 1 → s.data.toList[j]? = some c → ltr c = true) := fun j c hj hc => by
        by_cases hjk : j = k
        · subst hjk; rw [getElem_list s j hlt] at hc; cases hc; exact hb
        · exact hd.out j c (by omega) hc
      have HB := Lib.hid (show letB (s[k].toNat : Int) = true from hb)
      clear hb
      go_wp2_with fail
      refine (isLetter_any _ _).mono ?_
      rintro e w' ⟨rfl, rfl⟩
      rw [HB.out]
      go_wp2
      go_round
      case rel => exact ⟨k + 1, by omega, by go_num, HF⟩
      case measure => simp [intOf]; omega
    · have HN : Hid (nl s.data.toList = k) := takeWhile_at _ _ k hd.out (by rw [← size_list]; exact hk) (fun c hc => by
        have hlt := (List.getElem?_eq_some_iff.1 hc).1
        rw [← size_list] at hlt
        rw [getElem_list s k hlt] at hc
        cases hc
        have hbb : s[k]! = s[k] := getElem!_pos s k hlt
        cases hx : ltr s[k]
        · rfl
        · exact absurd ⟨hlt, by rw [hbb]; exact hx⟩ hmore)
      have HC : Hid (cntB s.data.toList = (!decide (s.size = 0) && decide (k + ldig (s.extract k s.size).data.toList = s.size))) := by
        show _ = _
        unfold cntB
        rw [HN.out, Lib.extract_to_end, ← isEmpty_size, Lib.toList_data]
        rfl
      have hz : (s.extract k s.size).size ≤ 140737488355328 := by rw [ByteArray.size_extract]; omega
      have HL := Lib.hid (fun w => leadingDigits_any (s.extract k s.size) w hz)
      have hD : ldig (s.extract k s.size).data.toList ≤ (s.extract k s.size).size := ldig_le _
      rw [ByteArray.size_extract] at hD
      have hem := isEmpty_size s
      generalize ldig (s.extract k s.size).data.toList = D at *
      by_cases hlt : k < s.size
      · have HB := Lib.hid (show letB (s[k].toNat : Int) = false by
          have hbb : s[k]! = s[k] := getElem!_pos s k hlt
          cases hx : letB (s[k].toNat : Int)
          · rfl
          · exact absurd ⟨hlt, by rw [hbb]; exact hx⟩ hmore)
        clear hmore hd
        have hem' : s.toList.isEmpty = false := by rw [hem]; exact decide_eq_false (by omega)
        have HC2 : Hid (cntB s.data.toList = decide (k + D = s.size)) := by
          show _ = _
          rw [HC.out, decide_eq_false (show ¬ s.size = 0 by omega)]; rfl
        clear hem
        go_wp2_with fail
        refine (isLetter_any _ _).mono ?_
        rintro e w' ⟨rfl, rfl⟩
        rw [HB.out]
        go_wp2_with fail
        refine (HL.out _).mono ?_
        rintro e w' ⟨rfl, rfl⟩
        go_wp2
        go_ret
        exact ⟨ret_bool (by rw [HC2.out, beq_add]), rfl⟩
      · clear hmore hd
        have hks : k = s.size := by omega
        by_cases hz0 : s.size = 0
        · have hem' : s.toList.isEmpty = true := by rw [hem]; simp [hz0]
          have HC2 : Hid (cntB s.data.toList = false) := by
            show _ = _
            rw [HC.out, hz0]; simp
          clear hem hks
          go_wp2
          go_ret
          exact ⟨ret_bool HC2.out.symm, rfl⟩
        · have hem' : s.toList.isEmpty = false := by rw [hem]; simp [hz0]
          have HC2 : Hid (cntB s.data.toList = decide (k + D = s.size)) := by
            show _ = _
            rw [HC.out, decide_eq_false (show ¬ s.size = 0 by omega)]; rfl
          clear hem hks
          go_wp2_with fail
          refine (HL.out _).mono ?_
          rintro e w' ⟨rfl, rfl⟩
          go_wp2
          go_ret
          exact ⟨ret_bool (by rw [HC2.out, beq_add]), rfl⟩

set_option maxHeartbeats 1600000 in
theorem counts_any (s : ByteArray) (w : World) (hs : s.size ≤ 140737488355328) : Calls Tryd.prog 99 #[.string s] w fun e w' => e = .returned (.bool (cntB s.data.toList)) ∧ w = w' := by
  go_enter Tryd.func99, Tryd.ntmps99
  go_wp2
  go_loop [3] (fun i => ∃ k : Nat, k ≤ s.size ∧ i = .int .i64 k ∧ Hid (∀ j c, j < k → s.data.toList[j]? = some c → ltr c = true)) (fun i => s.size - (intOf i).toNat)
  case atStart => exact ⟨0, Nat.zero_le _, rfl, fun j c h => absurd h (Nat.not_lt_zero j)⟩
  case round =>
    obtain ⟨k, hk, rfl, hd⟩ := hrel
    by_cases hmore : k < s.size ∧ ltr s[k]! = true
    · obtain ⟨hlt, hb⟩ := hmore
      have hbb : s[k]! = s[k] := getElem!_pos s k hlt
      rw [hbb] at hb
      clear hbb
      have HF : Hid (∀ j c, j < k + 1 → s.data.toList[j]? = some c → ltr c = true) := fun j c hj hc => by
        by_cases hjk : j = k
        · subst hjk; rw [getElem_list s j hlt] at hc; cases hc; exact hb
        · exact hd.out j c (by omega) hc
      have HB := Lib.hid (show letB (s[k].toNat : Int) = true from hb)
      clear hb
      go_wp2_with fail
      refine (letter_any _ _).mono ?_
      rintro e w' ⟨rfl, rfl⟩
      rw [HB.out]
      go_wp2
      go_round
      case rel => exact ⟨k + 1, by omega, by go_num, HF⟩
      case measure => simp [intOf]; omega
    · have HN : Hid (nl s.data.toList = k) := takeWhile_at _ _ k hd.out (by rw [← size_list]; exact hk) (fun c hc => by
        have hlt := (List.getElem?_eq_some_iff.1 hc).1
        rw [← size_list] at hlt
        rw [getElem_list s k hlt] at hc
        cases hc
        have hbb : s[k]! = s[k] := getElem!_pos s k hlt
        cases hx : ltr s[k]
        · rfl
        · exact absurd ⟨hlt, by rw [hbb]; exact hx⟩ hmore)
      have HC : Hid (cntB s.data.toList = (!decide (s.size = 0) && decide (k + ldig (s.data.toList.drop k) = s.size))) := by
        show _ = _
        unfold cntB
        rw [HN.out, ← isEmpty_size, Lib.toList_data]
        rfl
      clear hd
      by_cases hlt : k < s.size
      · have HB := Lib.hid (show letB (s[k].toNat : Int) = false by
          have hbb : s[k]! = s[k] := getElem!_pos s k hlt
          cases hx : letB (s[k].toNat : Int)
          · rfl
          · exact absurd ⟨hlt, by rw [hbb]; exact hx⟩ hmore)
        have hem : s.toList.isEmpty = false := by rw [isEmpty_size s]; exact decide_eq_false (by omega)
        have HC2 : Hid (cntB s.data.toList = decide (k + ldig (s.data.toList.drop k) = s.size)) := by
          show _ = _
          rw [HC.out, decide_eq_false (show ¬ s.size = 0 by omega)]; rfl
        clear hmore HC HN
        go_wp2_with fail
        refine (letter_any _ _).mono ?_
        rintro e w' ⟨rfl, rfl⟩
        rw [HB.out]
        go_wp2_with fail
        clear HB
        go_loop [3] (fun i => ∃ m : Nat, k + m ≤ s.size ∧ i = .int .i64 ((k + m : Nat) : Int) ∧ Hid (∀ j c, j < m → (s.data.toList.drop k)[j]? = some c → dig c = true)) (fun i => s.size - (intOf i).toNat)
        case atStart => exact ⟨0, by omega, by go_num, fun j c h => absurd h (Nat.not_lt_zero j)⟩
        case round =>
          obtain ⟨m, hm, rfl, hdm⟩ := hrel
          by_cases hmore : k + m < s.size ∧ dig s[k + m]! = true
          · obtain ⟨hlt, hb⟩ := hmore
            have hbb : s[k + m]! = s[k + m] := getElem!_pos s (k + m) hlt
            rw [hbb] at hb
            clear hbb
            have HG : Hid (∀ j c, j < m + 1 → (s.data.toList.drop k)[j]? = some c → dig c = true) := fun j c hj hc => by
              by_cases hjk : j = m
              · subst hjk; have hc2 := drop_at s k j c hc; rw [getElem_list s (k + j) hlt] at hc2; cases hc2; exact hb
              · exact hdm.out j c (by omega) hc
            have HB := Lib.hid (show digB (s[k + m].toNat : Int) = true from hb)
            clear hb
            generalize hq : k + m = q at *
            have HQ := Lib.hid hq
            clear hq
            go_wp2_with fail
            refine (digit_any _ _).mono ?_
            rintro e w' ⟨rfl, rfl⟩
            rw [HB.out]
            go_wp2
            go_round
            case rel => exact ⟨m + 1, by have := HQ.out; omega, by have := HQ.out; rw [show k + (m + 1) = q + 1 by omega]; go_num, HG⟩
            case measure => simp [intOf]; omega
          · have HL : Hid (ldig (s.data.toList.drop k) = m) := takeWhile_at _ _ m hdm.out (by rw [List.length_drop, ← size_list]; omega) (fun c hc => by
              have hc2 := drop_at s k m c hc
              have hlt := (List.getElem?_eq_some_iff.1 hc2).1
              rw [← size_list] at hlt
              rw [getElem_list s (k + m) hlt] at hc2
              cases hc2
              have hbb : s[k + m]! = s[k + m] := getElem!_pos s (k + m) hlt
              cases hx : dig s[k + m]
              · rfl
              · exact absurd ⟨hlt, by rw [hbb]; exact hx⟩ hmore)
            have HC3 : Hid (cntB s.data.toList = decide (k + m = s.size)) := by
              show _ = _
              rw [HC2.out, HL.out]
            by_cases hlt : k + m < s.size
            · have HB := Lib.hid (show digB (s[k + m].toNat : Int) = false by
                have hbb : s[k + m]! = s[k + m] := getElem!_pos s (k + m) hlt
                cases hx : digB (s[k + m].toNat : Int)
                · rfl
                · exact absurd ⟨hlt, by rw [hbb]; exact hx⟩ hmore)
              have HC4 : Hid (cntB s.data.toList = false) := by
                show _ = _
                rw [HC3.out]; simp; omega
              clear hmore hdm HL HC2 HC3
              generalize k + m = q at *
              go_wp2_with fail
              refine (digit_any _ _).mono ?_
              rintro e w' ⟨rfl, rfl⟩
              rw [HB.out]
              go_wp2
              go_ret
              exact ⟨ret_bool (by rw [HC4.out, beq_nat]; exact decide_eq_false (by omega)), rfl⟩
            · have HC4 : Hid (cntB s.data.toList = true) := by
                show _ = _
                rw [HC3.out]; simp; omega
              clear hmore hdm HL HC2 HC3
              generalize k + m = q at *
              go_wp2
              go_ret
              exact ⟨ret_bool (by rw [HC4.out, beq_nat]; exact decide_eq_true (by omega)), rfl⟩
      · by_cases hz0 : s.size = 0
        · have hem : s.toList.isEmpty = true := by rw [isEmpty_size s]; simp [hz0]
          have HC2 : Hid (cntB s.data.toList = false) := by
            show _ = _
            rw [HC.out, hz0]; simp
          clear hmore HC HN
          go_wp2_with fail
          go_loop [3] (fun i => i = .int .i64 (k : Int)) (fun _ => 0)
          case atStart => rfl
          case round =>
            cases hrel
            go_wp2
            go_ret
            exact ⟨ret_bool HC2.out.symm, rfl⟩
        · have hem : s.toList.isEmpty = false := by rw [isEmpty_size s]; simp [hz0]
          have HC2 : Hid (cntB s.data.toList = true) := by
            show _ = _
            have : ldig (s.data.toList.drop k) = 0 := by
              have := ldig_le (s.data.toList.drop k)
              rw [List.length_drop, ← size_list] at this
              omega
            rw [HC.out, this]; simp [hz0]; omega
          clear hmore HC HN
          go_wp2_with fail
          go_loop [3] (fun i => i = .int .i64 (k : Int)) (fun _ => 0)
          case atStart => rfl
          case round =>
            cases hrel
            go_wp2
            go_ret
            exact ⟨ret_bool (by rw [HC2.out, beq_nat]; exact decide_eq_true (by omega)), rfl⟩

end Go.Proofs.YtmlifgngdilplaaDoor
