/-
  The walk of NumLooks: num.Looks and the document's Looks agree. No condition.
-/
import Derived.Test.YtmlifgngdilplaaDoorRef
import Derived.Test.YtmlifgngdilplaaDoorKnown
import Derived.Test.YtmlifgngdilplaaDoorRows
namespace Go.Proofs.YtmlifgngdilplaaDoor
open Go.RowKit

theorem skip_empty (l : List UInt8) : (skipL l).isEmpty = l.all blk := by
  have h : skipL l = l.dropWhile blk := by
    unfold skipL Lib.trimLeftS
    congr 1
    funext c
    rw [blk_iff]
  rw [h]
  clear h
  induction l with
  | nil => rfl
  | cons c l ih =>
    simp only [List.dropWhile_cons, List.all_cons]
    cases hb : blk c
    · simp
    · simpa using ih

theorem looksB_eq (l : List UInt8) : looksB l = (decide (hI l ≠ hK l) && (l.drop (hK l)).all blk) := by
  unfold looksB
  rw [cutL_drop, skip_empty, List.drop_drop]
  congr 1
  unfold hK
  rw [decide_eq_decide]
  omega

theorem hK_le (l : List UInt8) : hK l ≤ l.length := by
  have h1 := hI_le l
  have h2 := ldig_le (l.drop (hI l))
  rw [List.length_drop] at h2
  unfold hK
  omega

set_option maxHeartbeats 800000 in
theorem rLooks_any (s : ByteArray) (w : World) (hs : s.size ≤ 140737488355328) : Calls Tryd.prog 26 #[.string s] w fun e w' => e = .returned (.bool (looksB s.data.toList)) ∧ w = w' := by
  have hh := head_any s w hs
  have hkle := hK_le s.data.toList
  rw [← size_list] at hkle
  have hile := hI_le s.data.toList
  rw [← size_list] at hile
  have HE := Lib.hid (looksB_eq s.data.toList)
  have HH : Hid (Calls Tryd.prog 56 #[.string s] w fun e w' => e = .returned (.tuple #[.int .i64 (hI s.data.toList), .int .i64 (hK s.data.toList)]) ∧ w = w') := hh
  clear hh
  generalize looksB s.data.toList = L at *
  generalize hI s.data.toList = I at *
  generalize hK s.data.toList = K at *
  by_cases hik : I = K
  · subst hik
    have HL : Hid (L = false) := by show _ = _; rw [HE.out]; simp
    go_enter Tryd.func26, Tryd.ntmps26
    go_wp2_with fail
    refine (HH.out).mono ?_
    rintro e w' ⟨rfl, rfl⟩
    go_wp2
    go_ret
    exact ⟨ret_bool HL.out.symm, rfl⟩
  · have HL : Hid (L = (s.data.toList.drop K).all blk) := by show _ = _; rw [HE.out]; simp [hik]
    have hik2 : ((I : Int) == (K : Int)) = false := by simp; omega
    clear hik
    go_enter Tryd.func26, Tryd.ntmps26
    go_wp2_with fail
    refine (HH.out).mono ?_
    rintro e w' ⟨rfl, rfl⟩
    go_wp2_with fail
    go_loop [5] (fun i => ∃ m : Nat, K + m ≤ s.size ∧ i = .int .i64 ((K + m : Nat) : Int) ∧ Hid (∀ j c, j < m → (s.data.toList.drop K)[j]? = some c → blk c = true)) (fun i => s.size - (intOf i).toNat)
    case atStart => exact ⟨0, by omega, by go_num, fun j c h => absurd h (Nat.not_lt_zero j)⟩
    case round =>
      obtain ⟨m, hm, rfl, hdm⟩ := hrel
      by_cases hlt : K + m < s.size
      · cases hb : blk s[K + m]
        · have HB := Lib.hid (show blankB (s[K + m].toNat : Int) = false from hb)
          have HF : Hid (L = false) := by
            show _ = _
            rw [HL.out, Bool.eq_false_iff]
            intro hall
            have hx : (s.data.toList.drop K)[m]? = some s[K + m] := by rw [List.getElem?_drop]; exact getElem_list s (K + m) hlt
            have := List.all_eq_true.1 hall _ (List.mem_of_getElem? hx)
            rw [hb] at this
            cases this
          clear hb
          generalize K + m = q at *
          go_wp2_with fail
          refine (blank_any _ _).mono ?_
          rintro e w' ⟨rfl, rfl⟩
          rw [HB.out]
          go_wp2
          go_ret
          exact ⟨ret_bool HF.out.symm, rfl⟩
        · have HB := Lib.hid (show blankB (s[K + m].toNat : Int) = true from hb)
          have HG : Hid (∀ j c, j < m + 1 → (s.data.toList.drop K)[j]? = some c → blk c = true) := fun j c hj hc => by
            by_cases hjk : j = m
            · subst hjk; have hc2 := drop_at s K j c hc; rw [getElem_list s (K + j) hlt] at hc2; cases hc2; exact hb
            · exact hdm.out j c (by omega) hc
          clear hb
          generalize hq : K + m = q at *
          have HQ := Lib.hid hq
          clear hq
          go_wp2_with fail
          refine (blank_any _ _).mono ?_
          rintro e w' ⟨rfl, rfl⟩
          rw [HB.out]
          go_wp2
          go_round
          case rel => exact ⟨m + 1, by have := HQ.out; omega, by have := HQ.out; rw [show K + (m + 1) = q + 1 by omega]; go_num, HG⟩
          case measure => simp [intOf]; omega
      · have HF : Hid (L = true) := by
          show _ = _
          rw [HL.out, List.all_eq_true]
          intro c hc
          obtain ⟨j, hj, he⟩ := List.mem_iff_getElem.1 hc
          rw [List.length_drop, ← size_list] at hj
          exact hdm.out j c (by omega) (by rw [← he, List.getElem?_eq_getElem])
        generalize K + m = q at *
        go_wp2
        go_ret
        exact ⟨ret_bool HF.out.symm, rfl⟩

theorem long_any (s : ByteArray) (w : World) : Calls Tryd.prog 15 #[.string s] w fun e w' => e = .returned (.bool (decide (16384 < (s.size : Int)))) ∧ w = w' := by
  go_enter Tryd.func15, Tryd.ntmps15
  go_wp2
  go_ret
  exact ⟨rfl, rfl⟩

set_option maxHeartbeats 400000 in
theorem numLooks_walk (s : ByteArray) (_hs0 : s.size ≤ maxLen) (w : World) : Calls Tryd.prog 4 #[.string s] w (KnownPost w) := by
  clear _hs0
  by_cases hl : 16384 < s.size
  · have hd : decide (16384 < (s.size : Int)) = true := by simp; omega
    have HD := Lib.hid hd
    clear hd
    go_enter Tryd.func4, Tryd.ntmps4
    go_wp2_with fail
    refine (long_any s _).mono ?_
    rintro e w' ⟨rfl, rfl⟩
    rw [HD.out]
    go_wp2_with fail
    refine (known_any _).mono ?_
    rintro e w3 ⟨rfl, hb3⟩
    have HB3 := Lib.hid hb3
    clear hb3
    go_wp2
    go_ret
    exact ⟨rfl, HB3.out⟩
  · have hd : decide (16384 < (s.size : Int)) = false := by simp; omega
    have HD := Lib.hid hd
    have hs : s.size ≤ 140737488355328 := by omega
    clear hd
    have H1 : Hid (∀ w, Calls Tryd.prog 25 #[.string s] w fun e w' => e = .returned (.bool (looksB s.data.toList)) ∧ Below w.heap.size w w') := fun w => Looks_any s w hs
    have H2 : Hid (∀ w, Calls Tryd.prog 26 #[.string s] w fun e w' => e = .returned (.bool (looksB s.data.toList)) ∧ w = w') := fun w => rLooks_any s w hs
    generalize looksB s.data.toList = L at *
    go_enter Tryd.func4, Tryd.ntmps4
    go_wp2_with fail
    refine (long_any s _).mono ?_
    rintro e w' ⟨rfl, rfl⟩
    rw [HD.out]
    go_wp2_with fail
    refine (H1.out _).mono ?_
    rintro e w1 ⟨rfl, hb1⟩
    have HB1 := Lib.hid hb1
    clear hb1
    go_wp2_with fail
    refine (H2.out _).mono ?_
    rintro e w' ⟨rfl, rfl⟩
    go_wp2_with fail
    refine (known_any _).mono ?_
    rintro e w3 ⟨rfl, hb3⟩
    have HB3 : Hid (Below w.heap.size w w3) := HB1.out.trans (hb3.mono HB1.out.size)
    clear hb3
    go_wp2
    go_ret
    exact ⟨rfl, HB3.out⟩

end Go.Proofs.YtmlifgngdilplaaDoor
