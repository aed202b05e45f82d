/-
  The document's readers of texts: where the digits of a text begin and end; whether it looks like a number. Conditions: a text of at most 2^47 bytes.
-/
import Derived.Test.YtmlifgngdilplaaDoorText
namespace Go.Proofs.YtmlifgngdilplaaDoor
open Go.RowKit

def blk (c : UInt8) : Bool := blankB (c.toNat : Int)
/-- How many blanks a list begins with; how long its sign is; where its digits begin. -/
def nb (l : List UInt8) : Nat := (l.takeWhile blk).length
def hI (l : List UInt8) : Nat := nb l + (if signed (l.drop (nb l)) then 1 else 0)

theorem blk_iff (c : UInt8) : blk c = [9, 10, 13, 32].contains c := by
  have h : ∀ m : UInt8, decide ((c.toNat : Int) = (m.toNat : Int)) = (c == m) := fun m => by
    rw [Bool.eq_iff_iff]
    simp only [decide_eq_true_eq, beq_iff_eq]
    exact ⟨fun h => UInt8.toNat_inj.1 (by omega), fun h => by rw [h]⟩
  have h9 := h 9
  have h10 := h 10
  have h13 := h 13
  have h32 := h 32
  have e9 : (((9 : UInt8).toNat : Nat) : Int) = 9 := rfl
  have e10 : (((10 : UInt8).toNat : Nat) : Int) = 10 := rfl
  have e13 : (((13 : UInt8).toNat : Nat) : Int) = 13 := rfl
  have e32 : (((32 : UInt8).toNat : Nat) : Int) = 32 := rfl
  rw [e9] at h9
  rw [e10] at h10
  rw [e13] at h13
  rw [e32] at h32
  simp only [blk, blankB, h9, h10, h13, h32, List.contains_cons, List.contains_nil, Bool.or_false, Bool.or_assoc]
theorem skipL_drop (l : List UInt8) : skipL l = l.drop (nb l) := by
  have h : skipL l = l.dropWhile blk := by
    unfold skipL Lib.trimLeftS
    congr 1
    funext c
    rw [blk_iff]
  rw [h]
  clear h
  unfold nb
  induction l with
  | nil => rfl
  | cons c l ih =>
    simp only [List.dropWhile_cons, List.takeWhile_cons]
    split <;> simp_all
theorem cutL_drop (l : List UInt8) : cutL (skipL l) = l.drop (hI l) := by
  rw [skipL_drop]
  unfold cutL hI
  split <;> simp
theorem nb_le (l : List UInt8) : nb l ≤ l.length := (List.takeWhile_sublist _).length_le
theorem hI_le (l : List UInt8) : hI l ≤ l.length := by
  have h := nb_le l
  unfold hI
  split
  · rename_i hs
    by_cases hn : nb l = l.length
    · rw [hn] at hs; simp [signed] at hs
    · omega
  · omega
theorem signed_at (s : ByteArray) (k : Nat) (h : k < s.size) : signed (s.data.toList.drop k) = (s[k] == 43 || s[k] == 45) := by
  have h1 := getElem_list s k h
  rw [List.drop_eq_getElem?_toList_append, h1]
  rfl
theorem signed_end (s : ByteArray) (k : Nat) (h : s.size ≤ k) : signed (s.data.toList.drop k) = false := by
  rw [List.drop_eq_nil_of_le (by rw [← size_list]; exact h)]
  rfl

theorem blank_any (c : Int) (w : World) : Calls Tryd.prog 57 #[.int .u8 c] w fun e w' => e = .returned (.bool (blankB c)) ∧ w = w' := by
  by_cases h1 : c = 9
  · subst h1
    go_enter Tryd.func57, Tryd.ntmps57
    go_wp2
    go_ret
    exact ⟨ret_bool rfl, rfl⟩
  · by_cases h2 : c = 10
    · subst h2
      go_enter Tryd.func57, Tryd.ntmps57
      go_wp2
      go_ret
      exact ⟨ret_bool rfl, rfl⟩
    · by_cases h3 : c = 13
      · subst h3
        go_enter Tryd.func57, Tryd.ntmps57
        go_wp2
        go_ret
        exact ⟨ret_bool rfl, rfl⟩
      · by_cases h4 : c = 32
        · subst h4
          go_enter Tryd.func57, Tryd.ntmps57
          go_wp2
          go_ret
          exact ⟨ret_bool rfl, rfl⟩
        · have e1 : (c == 9) = false := by simp [h1]
          have e2 : (c == 10) = false := by simp [h2]
          have e3 : (c == 13) = false := by simp [h3]
          have e4 : (c == 32) = false := by simp [h4]
          have HF := Lib.hid (show blankB c = false by simp [blankB, h1, h2, h3, h4])
          clear h1 h2 h3 h4
          go_enter Tryd.func57, Tryd.ntmps57
          go_wp2
          go_ret
          exact ⟨ret_bool HF.out.symm, rfl⟩

def hK (l : List UInt8) : Nat := hI l + ldig (l.drop (hI l))
def HeadPost (l : List UInt8) (w : World) (e : Ending) (w' : World) : Prop := e = .returned (.tuple #[.int .i64 (hI l), .int .i64 (hK l)]) ∧ w = w'

theorem drop_at (s : ByteArray) (i k : Nat) (c : UInt8) (h : (s.data.toList.drop i)[k]? = some c) : s.data.toList[i + k]? = some c := by
  rwa [List.getElem?_drop] at h

set_option maxHeartbeats 1600000 in
theorem head_any (s : ByteArray) (w : World) (hs : s.size ≤ 140737488355328) : Calls Tryd.prog 56 #[.string s] w (HeadPost s.data.toList w) := by
  go_enter Tryd.func56, Tryd.ntmps56
  go_wp2
  go_loop [4] (fun i => ∃ k : Nat, k ≤ s.size ∧ i = .int .i64 k ∧ Hid (∀ j c, j < k → s.data.toList[j]? = some c → blk c = true)) (fun i => s.size - (intOf i).toNat)
  case atStart => exact ⟨0, Nat.zero_le _, rfl, fun j c h => absurd h (Nat.not_lt_zero j)⟩
  case round =>
    obtain ⟨k, hk, rfl, hd⟩ := hrel
    by_cases hmore : k < s.size ∧ blk s[k]! = true
    · obtain ⟨hlt, hb⟩ := hmore
      have hbb : s[k]! = s[k] := getElem!_pos s k hlt
      rw [hbb] at hb
      clear hbb
      have HF : Hid (∀ j c, j < k + 1 → s.data.toList[j]? = some c → blk c = true) := fun j c hj hc => by
        by_cases hjk : j = k
        · subst hjk; rw [getElem_list s j hlt] at hc; cases hc; exact hb
        · exact hd.out j c (by omega) hc
      have HB := Lib.hid (show blankB (s[k].toNat : Int) = true from hb)
      clear hb
      go_wp2_with fail
      refine (blank_any _ _).mono ?_
      rintro e w' ⟨rfl, rfl⟩
      rw [HB.out]
      go_wp2
      go_round
      case rel => exact ⟨k + 1, by omega, by go_num, HF⟩
      case measure => simp [intOf]; omega
    · have HN : Hid (nb s.data.toList = k) := takeWhile_at _ _ k hd.out (by rw [← size_list]; exact hk) (fun c hc => by
        have hlt := (List.getElem?_eq_some_iff.1 hc).1
        rw [← size_list] at hlt
        rw [getElem_list s k hlt] at hc
        cases hc
        have hbb : s[k]! = s[k] := getElem!_pos s k hlt
        cases hx : blk s[k]
        · rfl
        · exact absurd ⟨hlt, by rw [hbb]; exact hx⟩ hmore)
      by_cases hlt : k < s.size
      · have HB := Lib.hid (show blankB (s[k].toNat : Int) = false by
          have hbb : s[k]! = s[k] := getElem!_pos s k hlt
          cases hx : blankB (s[k].toNat : Int)
          · rfl
          · exact absurd ⟨hlt, by rw [hbb]; exact hx⟩ hmore)
        have HS := Lib.hid (signed_at s k hlt)
        clear hmore hd
        by_cases h43 : s[k] = 43
        · have e43 : s[k].toNat = 43 := by rw [h43]; rfl
          have HI : Hid (hI s.data.toList = k + 1) := by
            show hI _ = _
            unfold hI; rw [HN.out, HS.out, h43]; rfl
          clear h43 HS
          go_wp2_with fail
          refine (blank_any _ _).mono ?_
          rintro e w' ⟨rfl, rfl⟩
          rw [show blankB 43 = false from rfl]
          have hp1 : k + 1 ≤ s.size := hlt

          go_wp2_with fail
          rw [show (k : Int) + 1 = ((k + 1 : Nat) : Int) from by omega]
          clear e43 HB
          generalize k + 1 = I at *
          go_loop [5] (fun i => ∃ m : Nat, I + m ≤ s.size ∧ i = .int .i64 ((I + m : Nat) : Int) ∧ Hid (∀ j c, j < m → (s.data.toList.drop I)[j]? = some c → dig c = true)) (fun i => s.size - (intOf i).toNat)
          case atStart => exact ⟨0, by omega, by go_num, fun j c h => absurd h (Nat.not_lt_zero j)⟩
          case round =>
            obtain ⟨m, hm, rfl, hdm⟩ := hrel
            by_cases hmore : I + m < s.size ∧ dig s[I + m]! = true
            · obtain ⟨hlt, hb⟩ := hmore
              have hbb : s[I + m]! = s[I + m] := getElem!_pos s (I + m) hlt
              rw [hbb] at hb
              clear hbb
              have HG : Hid (∀ j c, j < m + 1 → (s.data.toList.drop I)[j]? = some c → dig c = true) := fun j c hj hc => by
                by_cases hjk : j = m
                · subst hjk; have hc2 := drop_at s I j c hc; rw [getElem_list s (I + j) hlt] at hc2; cases hc2; exact hb
                · exact hdm.out j c (by omega) hc
              have HB := Lib.hid (show digB (s[I + m].toNat : Int) = true from hb)
              clear hb
              generalize hq : I + m = q at *
              have HQ := Lib.hid hq
              clear hq
              go_wp2_with fail
              refine (digit_any _ _).mono ?_
              rintro e w' ⟨rfl, rfl⟩
              rw [HB.out]
              go_wp2
              go_round
              case rel => exact ⟨m + 1, by have := HQ.out; omega, by have := HQ.out; rw [show I + (m + 1) = q + 1 by omega]; go_num, HG⟩
              case measure => simp [intOf]; omega
            · have HL : Hid (ldig (s.data.toList.drop I) = m) := takeWhile_at _ _ m hdm.out (by rw [List.length_drop, ← size_list]; omega) (fun c hc => by
                have hc2 := drop_at s I m c hc
                have hlt := (List.getElem?_eq_some_iff.1 hc2).1
                rw [← size_list] at hlt
                rw [getElem_list s (I + m) hlt] at hc2
                cases hc2
                have hbb : s[I + m]! = s[I + m] := getElem!_pos s (I + m) hlt
                cases hx : dig s[I + m]
                · rfl
                · exact absurd ⟨hlt, by rw [hbb]; exact hx⟩ hmore)
              have HE : Hid (∀ w', w = w' → HeadPost s.data.toList w (.returned (.tuple #[.int .i64 (I : Int), .int .i64 ((I + m : Nat) : Int)])) w') := fun w' hw => by
                refine ⟨?_, hw⟩
                unfold hK
                rw [HI.out, HL.out]
              by_cases hlt : I + m < s.size
              · have HB := Lib.hid (show digB (s[I + m].toNat : Int) = false by
                  have hbb : s[I + m]! = s[I + m] := getElem!_pos s (I + m) hlt
                  cases hx : digB (s[I + m].toNat : Int)
                  · rfl
                  · exact absurd ⟨hlt, by rw [hbb]; exact hx⟩ hmore)
                clear hmore HL
                generalize I + m = q at *
                go_wp2_with fail
                refine (digit_any _ _).mono ?_
                rintro e w' ⟨rfl, rfl⟩
                rw [HB.out]
                go_wp2
                go_ret2
                exact HE.out _ rfl
              · clear hmore HL
                generalize I + m = q at *
                go_wp2
                go_ret2
                exact HE.out _ rfl
        · by_cases h45 : s[k] = 45
          · have e45 : s[k].toNat = 45 := by rw [h45]; rfl
            have HI : Hid (hI s.data.toList = k + 1) := by
              show hI _ = _
              unfold hI; rw [HN.out, HS.out, h45]; rfl
            clear h43 h45 HS
            go_wp2_with fail
            refine (blank_any _ _).mono ?_
            rintro e w' ⟨rfl, rfl⟩
            rw [show blankB 45 = false from rfl]
            have hp1 : k + 1 ≤ s.size := hlt

            go_wp2_with fail
            rw [show (k : Int) + 1 = ((k + 1 : Nat) : Int) from by omega]
            clear e45 HB
            generalize k + 1 = I at *
            go_loop [5] (fun i => ∃ m : Nat, I + m ≤ s.size ∧ i = .int .i64 ((I + m : Nat) : Int) ∧ Hid (∀ j c, j < m → (s.data.toList.drop I)[j]? = some c → dig c = true)) (fun i => s.size - (intOf i).toNat)
            case atStart => exact ⟨0, by omega, by go_num, fun j c h => absurd h (Nat.not_lt_zero j)⟩
            case round =>
              obtain ⟨m, hm, rfl, hdm⟩ := hrel
              by_cases hmore : I + m < s.size ∧ dig s[I + m]! = true
              · obtain ⟨hlt, hb⟩ := hmore
                have hbb : s[I + m]! = s[I + m] := getElem!_pos s (I + m) hlt
                rw [hbb] at hb
                clear hbb
                have HG : Hid (∀ j c, j < m + 1 → (s.data.toList.drop I)[j]? = some c → dig c = true) := fun j c hj hc => by
                  by_cases hjk : j = m
                  · subst hjk; have hc2 := drop_at s I j c hc; rw [getElem_list s (I + j) hlt] at hc2; cases hc2; exact hb
                  · exact hdm.out j c (by omega) hc
                have HB := Lib.hid (show digB (s[I + m].toNat : Int) = true from hb)
                clear hb
                generalize hq : I + m = q at *
                have HQ := Lib.hid hq
                clear hq
                go_wp2_with fail
                refine (digit_any _ _).mono ?_
                rintro e w' ⟨rfl, rfl⟩
                rw [HB.out]
                go_wp2
                go_round
                case rel => exact ⟨m + 1, by have := HQ.out; omega, by have := HQ.out; rw [show I + (m + 1) = q + 1 by omega]; go_num, HG⟩
                case measure => simp [intOf]; omega
              · have HL : Hid (ldig (s.data.toList.drop I) = m) := takeWhile_at _ _ m hdm.out (by rw [List.length_drop, ← size_list]; omega) (fun c hc => by
                  have hc2 := drop_at s I m c hc
                  have hlt := (List.getElem?_eq_some_iff.1 hc2).1
                  rw [← size_list] at hlt
                  rw [getElem_list s (I + m) hlt] at hc2
                  cases hc2
                  have hbb : s[I + m]! = s[I + m] := getElem!_pos s (I + m) hlt
                  cases hx : dig s[I + m]
                  · rfl
                  · exact absurd ⟨hlt, by rw [hbb]; exact hx⟩ hmore)
                have HE : Hid (∀ w', w = w' → HeadPost s.data.toList w (.returned (.tuple #[.int .i64 (I : Int), .int .i64 ((I + m : Nat) : Int)])) w') := fun w' hw => by
                  refine ⟨?_, hw⟩
                  unfold hK
                  rw [HI.out, HL.out]
                by_cases hlt : I + m < s.size
                · have HB := Lib.hid (show digB (s[I + m].toNat : Int) = false by
                    have hbb : s[I + m]! = s[I + m] := getElem!_pos s (I + m) hlt
                    cases hx : digB (s[I + m].toNat : Int)
                    · rfl
                    · exact absurd ⟨hlt, by rw [hbb]; exact hx⟩ hmore)
                  clear hmore HL
                  generalize I + m = q at *
                  go_wp2_with fail
                  refine (digit_any _ _).mono ?_
                  rintro e w' ⟨rfl, rfl⟩
                  rw [HB.out]
                  go_wp2
                  go_ret2
                  exact HE.out _ rfl
                · clear hmore HL
                  generalize I + m = q at *
                  go_wp2
                  go_ret2
                  exact HE.out _ rfl
          · have n43 : ((s[k].toNat : Int) == 43) = false := by simp; intro h; exact h43 (UInt8.toNat_inj.1 (by show s[k].toNat = 43; omega))
            have n45 : ((s[k].toNat : Int) == 45) = false := by simp; intro h; exact h45 (UInt8.toNat_inj.1 (by show s[k].toNat = 45; omega))
            have HI : Hid (hI s.data.toList = k) := by
              show hI _ = _
              have e3 : (s[k] == 43) = false := by simpa using h43
              have e5 : (s[k] == 45) = false := by simpa using h45
              unfold hI; rw [HN.out, HS.out, e3, e5]; rfl
            clear h43 h45 HS
            go_wp2_with fail
            refine (blank_any _ _).mono ?_
            rintro e w' ⟨rfl, rfl⟩
            rw [HB.out]
            go_wp2_with fail
            clear n43 n45 HB
            go_loop [5] (fun i => ∃ m : Nat, k + m ≤ s.size ∧ i = .int .i64 ((k + m : Nat) : Int) ∧ Hid (∀ j c, j < m → (s.data.toList.drop k)[j]? = some c → dig c = true)) (fun i => s.size - (intOf i).toNat)
            case atStart => exact ⟨0, by omega, by go_num, fun j c h => absurd h (Nat.not_lt_zero j)⟩
            case round =>
              obtain ⟨m, hm, rfl, hdm⟩ := hrel
              by_cases hmore : k + m < s.size ∧ dig s[k + m]! = true
              · obtain ⟨hlt, hb⟩ := hmore
                have hbb : s[k + m]! = s[k + m] := getElem!_pos s (k + m) hlt
                rw [hbb] at hb
                clear hbb
                have HG : Hid (∀ j c, j < m + 1 → (s.data.toList.drop k)[j]? = some c → dig c = true) := fun j c hj hc => by
                  by_cases hjk : j = m
                  · subst hjk; have hc2 := drop_at s k j c hc; rw [getElem_list s (k + j) hlt] at hc2; cases hc2; exact hb
                  · exact hdm.out j c (by omega) hc
                have HB := Lib.hid (show digB (s[k + m].toNat : Int) = true from hb)
                clear hb
                generalize hq : k + m = q at *
                have HQ := Lib.hid hq
                clear hq
                go_wp2_with fail
                refine (digit_any _ _).mono ?_
                rintro e w' ⟨rfl, rfl⟩
                rw [HB.out]
                go_wp2
                go_round
                case rel => exact ⟨m + 1, by have := HQ.out; omega, by have := HQ.out; rw [show k + (m + 1) = q + 1 by omega]; go_num, HG⟩
                case measure => simp [intOf]; omega
              · have HL : Hid (ldig (s.data.toList.drop k) = m) := takeWhile_at _ _ m hdm.out (by rw [List.length_drop, ← size_list]; omega) (fun c hc => by
                  have hc2 := drop_at s k m c hc
                  have hlt := (List.getElem?_eq_some_iff.1 hc2).1
                  rw [← size_list] at hlt
                  rw [getElem_list s (k + m) hlt] at hc2
                  cases hc2
                  have hbb : s[k + m]! = s[k + m] := getElem!_pos s (k + m) hlt
                  cases hx : dig s[k + m]
                  · rfl
                  · exact absurd ⟨hlt, by rw [hbb]; exact hx⟩ hmore)
                have HE : Hid (∀ w', w = w' → HeadPost s.data.toList w (.returned (.tuple #[.int .i64 (k : Int), .int .i64 ((k + m : Nat) : Int)])) w') := fun w' hw => by
                  refine ⟨?_, hw⟩
                  unfold hK
                  rw [HI.out, HL.out]
                by_cases hlt : k + m < s.size
                · have HB := Lib.hid (show digB (s[k + m].toNat : Int) = false by
                    have hbb : s[k + m]! = s[k + m] := getElem!_pos s (k + m) hlt
                    cases hx : digB (s[k + m].toNat : Int)
                    · rfl
                    · exact absurd ⟨hlt, by rw [hbb]; exact hx⟩ hmore)
                  clear hmore HL
                  generalize k + m = q at *
                  go_wp2_with fail
                  refine (digit_any _ _).mono ?_
                  rintro e w' ⟨rfl, rfl⟩
                  rw [HB.out]
                  go_wp2
                  go_ret2
                  exact HE.out _ rfl
                · clear hmore HL
                  generalize k + m = q at *
                  go_wp2
                  go_ret2
                  exact HE.out _ rfl
      · have HI : Hid (hI s.data.toList = k) := by
          show hI _ = _
          unfold hI; rw [HN.out, signed_end s k (by omega)]; rfl
        clear hmore hd
        go_wp2_with fail
        go_loop [5] (fun i => ∃ m : Nat, k + m ≤ s.size ∧ i = .int .i64 ((k + m : Nat) : Int) ∧ Hid (∀ j c, j < m → (s.data.toList.drop k)[j]? = some c → dig c = true)) (fun i => s.size - (intOf i).toNat)
        case atStart => exact ⟨0, by omega, by go_num, fun j c h => absurd h (Nat.not_lt_zero j)⟩
        case round =>
          obtain ⟨m, hm, rfl, hdm⟩ := hrel
          by_cases hmore : k + m < s.size ∧ dig s[k + m]! = true
          · obtain ⟨hlt, hb⟩ := hmore
            have hbb : s[k + m]! = s[k + m] := getElem!_pos s (k + m) hlt
            rw [hbb] at hb
            clear hbb
            have HG : Hid (∀ j c, j < m + 1 → (s.data.toList.drop k)[j]? = some c → dig c = true) := fun j c hj hc => by
              by_cases hjk : j = m
              · subst hjk; have hc2 := drop_at s k j c hc; rw [getElem_list s (k + j) hlt] at hc2; cases hc2; exact hb
              · exact hdm.out j c (by omega) hc
            have HB := Lib.hid (show digB (s[k + m].toNat : Int) = true from hb)
            clear hb
            generalize hq : k + m = q at *
            have HQ := Lib.hid hq
            clear hq
            go_wp2_with fail
            refine (digit_any _ _).mono ?_
            rintro e w' ⟨rfl, rfl⟩
            rw [HB.out]
            go_wp2
            go_round
            case rel => exact ⟨m + 1, by have := HQ.out; omega, by have := HQ.out; rw [show k + (m + 1) = q + 1 by omega]; go_num, HG⟩
            case measure => simp [intOf]; omega
          · have HL : Hid (ldig (s.data.toList.drop k) = m) := takeWhile_at _ _ m hdm.out (by rw [List.length_drop, ← size_list]; omega) (fun c hc => by
              have hc2 := drop_at s k m c hc
              have hlt := (List.getElem?_eq_some_iff.1 hc2).1
              rw [← size_list] at hlt
              rw [getElem_list s (k + m) hlt] at hc2
              cases hc2
              have hbb : s[k + m]! = s[k + m] := getElem!_pos s (k + m) hlt
              cases hx : dig s[k + m]
              · rfl
              · exact absurd ⟨hlt, by rw [hbb]; exact hx⟩ hmore)
            have HE : Hid (∀ w', w = w' → HeadPost s.data.toList w (.returned (.tuple #[.int .i64 (k : Int), .int .i64 ((k + m : Nat) : Int)])) w') := fun w' hw => by
              refine ⟨?_, hw⟩
              unfold hK
              rw [HI.out, HL.out]
            by_cases hlt : k + m < s.size
            · have HB := Lib.hid (show digB (s[k + m].toNat : Int) = false by
                have hbb : s[k + m]! = s[k + m] := getElem!_pos s (k + m) hlt
                cases hx : digB (s[k + m].toNat : Int)
                · rfl
                · exact absurd ⟨hlt, by rw [hbb]; exact hx⟩ hmore)
              clear hmore HL
              generalize k + m = q at *
              go_wp2_with fail
              refine (digit_any _ _).mono ?_
              rintro e w' ⟨rfl, rfl⟩
              rw [HB.out]
              go_wp2
              go_ret2
              exact HE.out _ rfl
            · clear hmore HL
              generalize k + m = q at *
              go_wp2
              go_ret2
              exact HE.out _ rfl

end Go.Proofs.YtmlifgngdilplaaDoor
