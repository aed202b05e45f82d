/-
  The walks of num.Radix, the document's digits and Radix, and NumRadix. Conditions: a text of at most 2^47 bytes; the law has none.
-/
import Derived.Test.YtmlifgngdilplaaDoorRad
namespace Go.Proofs.YtmlifgngdilplaaDoor
open Go.RowKit

def isX (l : List UInt8) : Bool := Lib.hasPrefix l [48, 120]
def isB (l : List UInt8) : Bool := Lib.hasPrefix l [48, 98]
def is0 (l : List UInt8) : Bool := Lib.hasPrefix l [48]
def sbB (l : List UInt8) : Int := if isX l then 16 else if isB l then 2 else if is0 l then 8 else 10
def sbD (l : List UInt8) : List UInt8 := if isX l then l.drop 2 else if isB l then l.drop 2 else l

theorem splitBase_any (s : ByteArray) (w : World) : Calls Tryd.prog 70 #[.string s] w fun e w' => e = .returned (.tuple #[.int .i64 (sbB s.data.toList), .string (bs (sbD s.data.toList))]) ∧ w = w' := by
  have H1 : Hid (∀ w, Calls Tryd.prog 106 #[.string s, .string ⟨#[48, 120]⟩] w fun e w' => e = .returned (.tuple #[.string (bs (Lib.trimPrefix s.data.toList [48, 120])), .bool (isX s.data.toList)]) ∧ w' = w) := fun w => Tryd.strings_CutPrefix s ⟨#[48, 120]⟩ w
  have H2 : Hid (∀ w, Calls Tryd.prog 106 #[.string s, .string ⟨#[48, 98]⟩] w fun e w' => e = .returned (.tuple #[.string (bs (Lib.trimPrefix s.data.toList [48, 98])), .bool (isB s.data.toList)]) ∧ w' = w) := fun w => Tryd.strings_CutPrefix s ⟨#[48, 98]⟩ w
  have H3 : Hid (∀ w, Calls Tryd.prog 101 #[.string s, .string ⟨#[48]⟩] w fun e w' => e = .returned (.bool (is0 s.data.toList)) ∧ w' = w) := fun w => Tryd.strings_HasPrefix s ⟨#[48]⟩ w
  cases h1 : isX s.data.toList
  · cases h2 : isB s.data.toList
    · have HD : Hid (bs (sbD s.data.toList) = s) := by
        show _ = _
        unfold sbD
        rw [h1, h2]
        exact bs_of s
      rw [h1] at H1
      rw [h2] at H2
      cases h3 : is0 s.data.toList
      all_goals
        have HS := Lib.hid (show sbB s.data.toList = _ by unfold sbB; rw [h1, h2, h3])
        rw [h3] at H3
        clear h1 h2 h3
        rw [HS.out, HD.out]
        clear HS HD
        generalize bs (Lib.trimPrefix s.data.toList [48, 120]) = T1 at *
        generalize bs (Lib.trimPrefix s.data.toList [48, 98]) = T2 at *
        go_enter Tryd.func70, Tryd.ntmps70
        go_wp2_with fail
        refine (H1.out _).mono ?_
        rintro e w' ⟨rfl, rfl⟩
        go_wp2_with fail
        refine (H2.out _).mono ?_
        rintro e w' ⟨rfl, rfl⟩
        go_wp2_with fail
        refine (H3.out _).mono ?_
        rintro e w' ⟨rfl, rfl⟩
        go_wp2
        go_ret2
        exact ⟨rfl, rfl⟩
    · have HD : Hid (bs (sbD s.data.toList) = bs (Lib.trimPrefix s.data.toList [48, 98])) := by
        show _ = _
        unfold sbD Lib.trimPrefix
        rw [h1, h2]
        unfold isB at h2
        rw [h2]
        rfl
      have HS := Lib.hid (show sbB s.data.toList = 2 by unfold sbB; rw [h1, h2]; rfl)
      rw [h1] at H1
      rw [h2] at H2
      clear h1 h2
      rw [HS.out, HD.out]
      clear HS HD
      generalize bs (Lib.trimPrefix s.data.toList [48, 120]) = T1 at *
      generalize bs (Lib.trimPrefix s.data.toList [48, 98]) = T2 at *
      go_enter Tryd.func70, Tryd.ntmps70
      go_wp2_with fail
      refine (H1.out _).mono ?_
      rintro e w' ⟨rfl, rfl⟩
      go_wp2_with fail
      refine (H2.out _).mono ?_
      rintro e w' ⟨rfl, rfl⟩
      go_wp2
      go_ret2
      exact ⟨rfl, rfl⟩
  · have HD : Hid (bs (sbD s.data.toList) = bs (Lib.trimPrefix s.data.toList [48, 120])) := by
      show _ = _
      unfold sbD Lib.trimPrefix
      rw [h1]
      unfold isX at h1
      rw [h1]
      rfl
    have HS := Lib.hid (show sbB s.data.toList = 16 by unfold sbB; rw [h1]; rfl)
    rw [h1] at H1
    clear h1
    rw [HS.out, HD.out]
    clear HS HD
    generalize bs (Lib.trimPrefix s.data.toList [48, 120]) = T1 at *
    go_enter Tryd.func70, Tryd.ntmps70
    go_wp2_with fail
    refine (H1.out _).mono ?_
    rintro e w' ⟨rfl, rfl⟩
    go_wp2
    go_ret2
    exact ⟨rfl, rfl⟩

def RadPost (o : Option Int) (w : World) (e : Ending) (w' : World) : Prop := e = .returned (.tuple #[.int .i64 (o.getD 0), .bool o.isSome]) ∧ Below w.heap.size w w'

theorem drop_cons (s : ByteArray) (k : Nat) (h : k < s.size) : s.data.toList.drop k = s[k] :: s.data.toList.drop (k + 1) := by
  rw [List.drop_eq_getElem?_toList_append, getElem_list s k h]
  rfl
theorem sbB_bd (l : List UInt8) : 2 ≤ sbB l ∧ sbB l ≤ 16 := by
  unfold sbB; split
  · omega
  · split
    · omega
    · split <;> omega
theorem sbD_le (l : List UInt8) : (sbD l).length ≤ l.length := by
  unfold sbD; split
  · simp
  · split
    · simp
    · exact Nat.le_refl _

theorem runN_nil (b n : Int) (bd : Bool) : runN b [] n bd = if bd then some n else none := by rw [runN]
theorem runN_us {b n : Int} {c : UInt8} {t : List UInt8} (h : c = 95) : runN b (c :: t) n true = runN b t n false := by rw [runN, if_pos ⟨h, rfl⟩]
theorem runN_bad {b n : Int} {c : UInt8} {t : List UInt8} {bd : Bool} (h : ¬ (c = 95 ∧ bd = true)) (h2 : b ≤ dvb c) : runN b (c :: t) n bd = none := by rw [runN, if_neg h, if_pos h2]
theorem runN_big {b n : Int} {c : UInt8} {t : List UInt8} {bd : Bool} (h : ¬ (c = 95 ∧ bd = true)) (h2 : ¬ b ≤ dvb c) (h3 : 9007199254740992 < n * b + dvb c) : runN b (c :: t) n bd = none := by rw [runN, if_neg h, if_neg h2, if_pos h3]
theorem runN_go {b n : Int} {c : UInt8} {t : List UInt8} {bd : Bool} (h : ¬ (c = 95 ∧ bd = true)) (h2 : ¬ b ≤ dvb c) (h3 : ¬ 9007199254740992 < n * b + dvb c) : runN b (c :: t) n bd = runN b t (n * b + dvb c) true := by rw [runN, if_neg h, if_neg h2, if_neg h3]

set_option maxRecDepth 100000 in
set_option maxHeartbeats 1600000 in
theorem Radix_any (s : ByteArray) (w : World) (hs : s.size ≤ 140737488355328) : Calls Tryd.prog 41 #[.string s] w (RadPost (runN (sbB s.data.toList) (sbD s.data.toList) 0 false) w) := by
  have HS := Lib.hid (splitBase_any s w)
  obtain ⟨b0, b1⟩ := sbB_bd s.data.toList
  have hle := sbD_le s.data.toList
  rw [← size_list, ← bs_size] at hle
  have HR0 : Hid (runN (sbB s.data.toList) ((bs (sbD s.data.toList)).data.toList.drop 0) 0 false = runN (sbB s.data.toList) (sbD s.data.toList) 0 false) := by
    show _ = _
    rw [bs_list, List.drop_zero]
  generalize runN (sbB s.data.toList) (sbD s.data.toList) 0 false = RES at *
  generalize sbB s.data.toList = b at *
  generalize bs (sbD s.data.toList) = D at *
  have hD : D.size ≤ 140737488355328 := by omega
  clear hle hs
  obtain ⟨W1, cap, hcv, hB1, hz1, hcell, hfr⟩ := bytes_made D w
  have HB1 := Lib.hid hB1
  have HC := Lib.hid hcell
  clear hB1 hcell hfr hz1
  go_enter Tryd.func41, Tryd.ntmps41
  go_wp2_with fail
  refine (HS.out).mono ?_
  rintro e w' ⟨rfl, rfl⟩
  go_wp2_with fail
  go_loop [6, 7, 19] (fun n bd i => ∃ (k : Nat) (N : Int) (B : Bool), k ≤ D.size ∧ i = .int .i64 k ∧ n = .int .i64 N ∧ bd = .bool B ∧ 0 ≤ N ∧ N ≤ 9007199254740992 ∧ Hid (runN b (D.data.toList.drop k) N B = RES)) (fun _ _ i => D.size - (intOf i).toNat)
  case atStart => exact ⟨0, 0, false, by omega, rfl, rfl, rfl, by omega, by omega, HR0⟩
  case round =>
    obtain ⟨k, N, B, hk, rfl, rfl, rfl, n0, n1, hr⟩ := hrel
    by_cases hlt : k < D.size
    · have hc0 := HC.out k hlt
      have hst := hr.out
      rw [drop_cons D k hlt] at hst
      have hu := D[k].toNat_lt
      have u1 : (D[k].toNat : Int) ≤ 255 := by omega
      have u0 : 0 ≤ (D[k].toNat : Int) := by omega
      obtain ⟨v0, v1⟩ := dv_bd (D[k].toNat : Int)
      have HDG := Lib.hid (fun w => digitOf_any (D[k].toNat : Int) w u0 u1)
      by_cases hus : D[k] = 95 ∧ B = true
      · obtain ⟨h95, rfl⟩ := hus
        rw [runN_us h95] at hst
        have HST := Lib.hid hst
        have e95 : D[k].toNat = 95 := by rw [h95]; rfl
        clear hst hu h95 HDG v0 v1
        go_wp2
        go_round
        case rel => exact ⟨k + 1, N, false, by omega, by go_num, rfl, rfl, n0, n1, HST⟩
        case measure => simp [intOf]; omega
      · by_cases h95 : D[k] = 95
        · have hB : B = false := by
            cases hB : B
            · rfl
            · exact absurd ⟨h95, hB⟩ hus
          subst hB
          have hbad : b ≤ dvb D[k] := by rw [h95, dvb_us]; omega
          rw [runN_bad hus hbad] at hst
          subst hst
          have e95 : D[k].toNat = 95 := by rw [h95]; rfl
          have HDG2 := Lib.hid (fun w => digitOf_any 95 w (by omega) (by omega))
          rw [show dv 95 = 99 from rfl] at HDG2
          clear hus hbad hu h95 v0 v1 HDG
          go_wp2_with fail
          refine (HDG2.out _).mono ?_
          rintro e w' ⟨rfl, rfl⟩
          go_wp2
          go_ret2
          exact ⟨rfl, HB1.out⟩
        · have hg' : ((D[k].toNat : Int) == 95) = false := by
            simp
            intro h
            exact h95 (UInt8.toNat_inj.1 (by show D[k].toNat = 95; omega))
          by_cases hbad : b ≤ dvb D[k]
          · rw [runN_bad hus hbad] at hst
            subst hst
            have hbad' : b ≤ dv (D[k].toNat : Int) := hbad
            clear hus hbad hu h95
            generalize dv (D[k].toNat : Int) = V at *
            go_wp2_with fail
            refine (HDG.out _).mono ?_
            rintro e w' ⟨rfl, rfl⟩
            go_wp2
            go_ret2
            exact ⟨rfl, HB1.out⟩
          · have hvb : dvb D[k] < b := by omega
            have hm : N * b ≤ 9007199254740992 * 16 := Int.mul_le_mul n1 b1 (by omega) (by omega)
            have hm0 : 0 ≤ N * b := Int.mul_nonneg n0 (by omega)
            have hw : IntKind.i64.wrap (N * b) = N * b := IntWalk.i64_in _ (by omega)
            by_cases hbig : 9007199254740992 < N * b + dvb D[k]
            · rw [runN_big hus hbad hbig] at hst
              subst hst
              have hvb' : dv (D[k].toNat : Int) < b := hvb
              have hbig' : 9007199254740992 < N * b + dv (D[k].toNat : Int) := hbig
              clear hus hbad hu h95 hvb hbig
              generalize dv (D[k].toNat : Int) = V at *
              go_wp2_with fail
              refine (HDG.out _).mono ?_
              rintro e w' ⟨rfl, rfl⟩
              go_wp2
              go_ret2
              exact ⟨rfl, HB1.out⟩
            · rw [runN_go hus hbad hbig] at hst
              have HST := Lib.hid hst
              have hvb' : dv (D[k].toNat : Int) < b := hvb
              have hbig' : ¬ 9007199254740992 < N * b + dv (D[k].toNat : Int) := hbig
              have HST2 : Hid (runN b (D.data.toList.drop (k + 1)) (N * b + dv (D[k].toNat : Int)) true = RES) := HST
              clear hus hbad hu h95 hvb hbig hst HST
              generalize dv (D[k].toNat : Int) = V at *
              go_wp2_with fail
              refine (HDG.out _).mono ?_
              rintro e w' ⟨rfl, rfl⟩
              go_wp2
              go_round
              case rel => exact ⟨k + 1, N * b + V, true, by omega, by go_num, rfl, rfl, by omega, by omega, HST2⟩
              case measure => simp [intOf]; omega
    · have hst := hr.out
      rw [List.drop_eq_nil_of_le (by rw [← size_list]; omega), runN_nil] at hst
      subst hst
      cases B
      · go_wp2
        go_ret2
        exact ⟨rfl, HB1.out⟩
      · go_wp2
        go_ret2
        exact ⟨rfl, HB1.out⟩

end Go.Proofs.YtmlifgngdilplaaDoor
