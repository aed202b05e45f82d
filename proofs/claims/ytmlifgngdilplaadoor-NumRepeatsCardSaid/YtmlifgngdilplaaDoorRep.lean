/-
  The walk of NumRepeats: num.Repeat and the document's Repeat agree. No condition.
-/
import Derived.Test.YtmlifgngdilplaaDoorWr
import Derived.Lib.Repeat
namespace Go.Proofs.YtmlifgngdilplaaDoor
open Go.RowKit

def RepR (v : ByteArray) (k : Int) (w : World) (e : Ending) (w' : World) : Prop := e = .returned (.tuple #[.string v, .int .i64 k]) ∧ Below w.heap.size w w'

/-- What a text, a count give: the text, the error. -/
def repT (s : ByteArray) (n : Int) : ByteArray := if 4096 < s.size then bs [] else if s.size = 0 ∨ n < 1 then bs [] else if 4096 / (s.size : Int) < n then bs [] else bs (Lib.repeatL s.data.toList n.toNat)
def repE (s : ByteArray) (n : Int) : Int := if 4096 < s.size then 3 else if s.size = 0 ∨ n < 1 then 0 else if 4096 / (s.size : Int) < n then 3 else 0

set_option maxHeartbeats 800000 in
theorem nRepeat_any (s : ByteArray) (n : Int) (w : World) (hs : s.size ≤ 140737488355328) : Calls Tryd.prog 39 #[.string s, .int .i64 n] w (RepR (repT s n) (repE s n) w) := by
  have HP : Hid (∀ v k w', v = repT s n → k = repE s n → Below w.heap.size w w' → RepR (repT s n) (repE s n) w (.returned (.tuple #[.string v, .int .i64 k])) w') := by
    rintro v k w' rfl rfl hb
    exact ⟨rfl, hb⟩
  have hem := isEmpty_size s
  by_cases hz : 4096 < s.size
  · clear hem
    go_enter Tryd.func39, Tryd.ntmps39
    go_wp2
    go_ret2
    exact HP.out _ _ _ (by unfold repT; rw [if_pos hz]; rfl) (by unfold repE; rw [if_pos hz]) (Below.refl _ _)
  · by_cases z0 : s.size = 0
    · have hem' : s.toList.isEmpty = true := by rw [hem]; simp [z0]
      clear hem
      go_enter Tryd.func39, Tryd.ntmps39
      go_wp2
      go_ret2
      exact HP.out _ _ _ (by unfold repT; rw [if_neg hz, if_pos (Or.inl z0)]; rfl) (by unfold repE; rw [if_neg hz, if_pos (Or.inl z0)]) (Below.refl _ _)
    · have hem' : s.toList.isEmpty = false := by rw [hem]; simp [z0]
      clear hem
      by_cases hn : n < 1
      · go_enter Tryd.func39, Tryd.ntmps39
        go_wp2
        go_ret2
        exact HP.out _ _ _ (by unfold repT; rw [if_neg hz, if_pos (Or.inr hn)]; rfl) (by unfold repE; rw [if_neg hz, if_pos (Or.inr hn)]) (Below.refl _ _)
      · have hq0 : 0 ≤ 4096 / (s.size : Int) := Int.ediv_nonneg (by omega) (by omega)
        have hq1 : 4096 / (s.size : Int) ≤ 4096 := Int.ediv_le_self _ (by omega)
        have hq2 : (s.size : Int) * (4096 / (s.size : Int)) ≤ 4096 := Int.mul_ediv_self_le (by omega)
        have HT := Lib.hid (show repT s n = if 4096 / (s.size : Int) < n then bs [] else bs (Lib.repeatL s.data.toList n.toNat) by unfold repT; rw [if_neg hz, if_neg (by omega)])
        have HE := Lib.hid (show repE s n = if 4096 / (s.size : Int) < n then 3 else 0 by unfold repE; rw [if_neg hz, if_neg (by omega)])
        by_cases hb : 4096 / (s.size : Int) < n
        · go_enter Tryd.func39, Tryd.ntmps39
          go_wp2
          go_ret2
          exact HP.out _ _ _ (by rw [HT.out, if_pos hb]; rfl) (by rw [HE.out, if_pos hb]) (Below.refl _ _)
        · obtain ⟨c, rfl⟩ := Int.eq_ofNat_of_zero_le (show 0 ≤ n by omega)
          have hm : (s.size : Int) * (c : Int) ≤ (s.size : Int) * (4096 / (s.size : Int)) := Int.mul_le_mul_of_nonneg_left (by omega) (by omega)
          have hml : s.size * c ≤ 140737488355328 := by
            have : ((s.size * c : Nat) : Int) ≤ 4096 := by rw [Int.natCast_mul]; omega
            omega
          have H := Lib.hid (Tryd.strings_Repeat s c w (by omega) hml)
          clear hml hm
          go_enter Tryd.func39, Tryd.ntmps39
          go_wp2_with fail
          refine (H.out).mono ?_
          rintro e w' ⟨rfl, hb'⟩
          have HB := Lib.hid hb'
          clear hb'
          go_wp2
          go_ret2
          exact HP.out _ _ _ (by rw [HT.out, if_neg (by omega)]; rfl) (by rw [HE.out, if_neg (by omega)]) HB.out

theorem repeatL_snoc (l : List UInt8) (c : Nat) : Lib.repeatL l (c + 1) = Lib.repeatL l c ++ l := by
  rw [Lib.repeatL_add, Lib.repeatL_one]

set_option maxHeartbeats 800000 in
theorem rRepeat_any (s : ByteArray) (n : Int) (w : World) (_hs : s.size ≤ 140737488355328) : Calls Tryd.prog 40 #[.string s, .int .i64 n] w (RepR (repT s n) (repE s n) w) := by
  have HP : Hid (∀ v k w', v = repT s n → k = repE s n → Below w.heap.size w w' → RepR (repT s n) (repE s n) w (.returned (.tuple #[.string v, .int .i64 k])) w') := by
    rintro v k w' rfl rfl hb
    exact ⟨rfl, hb⟩
  have hem := isEmpty_size s
  by_cases hz : 4096 < s.size
  · clear hem
    go_enter Tryd.func40, Tryd.ntmps40
    go_wp2
    go_ret2
    exact HP.out _ _ _ (by unfold repT; rw [if_pos hz]; rfl) (by unfold repE; rw [if_pos hz]) (Below.refl _ _)
  · by_cases z0 : s.size = 0
    · have hem' : s.toList.isEmpty = true := by rw [hem]; simp [z0]
      clear hem
      by_cases hn : n < 1
      · go_enter Tryd.func40, Tryd.ntmps40
        go_wp2
        go_ret2
        exact HP.out _ _ _ (by unfold repT; rw [if_neg hz, if_pos (Or.inl z0)]; rfl) (by unfold repE; rw [if_neg hz, if_pos (Or.inl z0)]) (Below.refl _ _)
      · go_enter Tryd.func40, Tryd.ntmps40
        go_wp2
        go_ret2
        exact HP.out _ _ _ (by unfold repT; rw [if_neg hz, if_pos (Or.inl z0)]; rfl) (by unfold repE; rw [if_neg hz, if_pos (Or.inl z0)]) (Below.refl _ _)
    · have hem' : s.toList.isEmpty = false := by rw [hem]; simp [z0]
      clear hem
      by_cases hn : n < 1
      · go_enter Tryd.func40, Tryd.ntmps40
        go_wp2
        go_ret2
        exact HP.out _ _ _ (by unfold repT; rw [if_neg hz, if_pos (Or.inr hn)]; rfl) (by unfold repE; rw [if_neg hz, if_pos (Or.inr hn)]) (Below.refl _ _)
      · have hq0 : 0 ≤ 4096 / (s.size : Int) := Int.ediv_nonneg (by omega) (by omega)
        have hq1 : 4096 / (s.size : Int) ≤ 4096 := Int.ediv_le_self _ (by omega)
        have hq2 : (s.size : Int) * (4096 / (s.size : Int)) ≤ 4096 := Int.mul_ediv_self_le (by omega)
        have HT := Lib.hid (show repT s n = if 4096 / (s.size : Int) < n then bs [] else bs (Lib.repeatL s.data.toList n.toNat) by unfold repT; rw [if_neg hz, if_neg (by omega)])
        have HE := Lib.hid (show repE s n = if 4096 / (s.size : Int) < n then 3 else 0 by unfold repE; rw [if_neg hz, if_neg (by omega)])
        by_cases hb : 4096 / (s.size : Int) < n
        · go_enter Tryd.func40, Tryd.ntmps40
          go_wp2
          go_ret2
          exact HP.out _ _ _ (by rw [HT.out, if_pos hb]; rfl) (by rw [HE.out, if_pos hb]) (Below.refl _ _)
        · obtain ⟨c, rfl⟩ := Int.eq_ofNat_of_zero_le (show 0 ≤ n by omega)
          have hml : ∀ j : Nat, j ≤ c → j * s.size ≤ 4096 := fun j hj => by
            have hm : (s.size : Int) * (j : Int) ≤ (s.size : Int) * (4096 / (s.size : Int)) := Int.mul_le_mul_of_nonneg_left (by omega) (by omega)
            have : ((s.size * j : Nat) : Int) ≤ 4096 := by rw [Int.natCast_mul]; omega
            rw [Nat.mul_comm]
            omega
          have HM := Lib.hid hml
          have HL : Hid (∀ j, (bs (Lib.repeatL s.data.toList j)).size = j * s.size) := fun j => by rw [bs_size, Lib.repeatL_length]; rfl
          have HS : Hid (∀ j, bs (Lib.repeatL s.data.toList j) ++ s = bs (Lib.repeatL s.data.toList (j + 1))) := fun j => by
            rw [repeatL_snoc, ← bs_append, bs_of]
          have HF : Hid (bs (Lib.repeatL s.data.toList c) = repT s c) := by show _ = _; rw [HT.out, if_neg hb]; rfl
          have HE2 : Hid (0 = repE s c) := by show _ = _; rw [HE.out, if_neg hb]
          clear hml HT HE
          go_enter Tryd.func40, Tryd.ntmps40
          go_wp2_with fail
          go_loop [6, 7] (fun o i => ∃ j : Nat, j ≤ c ∧ i = .int .i64 (j : Int) ∧ o = .string (bs (Lib.repeatL s.data.toList j))) (fun _ i => c - (intOf i).toNat)
          case atStart => exact ⟨0, by omega, by go_num, rfl⟩
          case round =>
            obtain ⟨j, hj, rfl, rfl⟩ := hrel
            by_cases hlt : j < c
            · have h1 : ((bs (Lib.repeatL s.data.toList j)).size : Int) ≤ 8388608 := by rw [HL.out]; have := HM.out j (by omega); omega
              have h2 : (s.size : Int) ≤ 8388608 := by omega
              have HSj := Lib.hid (HS.out j)
              generalize bs (Lib.repeatL s.data.toList j) = A at *
              go_wp2
              go_round
              case rel => exact ⟨j + 1, by omega, by go_num, by rw [← HSj.out]⟩
              case measure => simp [intOf]; omega
            · have hjc : j = c := by omega
              subst hjc
              generalize bs (Lib.repeatL s.data.toList j) = A at *
              go_wp2
              go_ret2
              exact HP.out _ _ _ HF.out HE2.out (Below.refl _ _)

set_option maxHeartbeats 400000 in
theorem numRepeats_walk (s : ByteArray) (_hs0 : s.size ≤ maxLen) (n : Int) (_w1 : (Lit.int .i64 n).wf = true) (w : World) : Calls Tryd.prog 11 #[.string s, .int .i64 n] w (KnownPost w) := by
  clear _hs0 _w1
  by_cases hl : 16384 < s.size
  · have hd : decide (16384 < (s.size : Int)) = true := by simp; omega
    have HD := Lib.hid hd
    clear hd
    go_enter Tryd.func11, Tryd.ntmps11
    go_wp2_with fail
    refine (long_any s _).mono ?_
    rintro e w' ⟨rfl, rfl⟩
    rw [HD.out]
    go_wp2_with fail
    refine (known_any _).mono ?_
    rintro e w3 ⟨rfl, hb3⟩
    have HB3 := Lib.hid hb3
    clear hb3
    go_wp2
    go_ret
    exact ⟨rfl, HB3.out⟩
  · have hd : decide (16384 < (s.size : Int)) = false := by simp; omega
    have HD := Lib.hid hd
    have hs : s.size ≤ 140737488355328 := by omega
    clear hd
    have H1 : Hid (∀ w, Calls Tryd.prog 39 #[.string s, .int .i64 n] w (RepR (repT s n) (repE s n) w)) := fun w => nRepeat_any s n w hs
    have H2 : Hid (∀ w, Calls Tryd.prog 40 #[.string s, .int .i64 n] w (RepR (repT s n) (repE s n) w)) := fun w => rRepeat_any s n w hs
    generalize repT s n = T at *
    generalize repE s n = E at *
    go_enter Tryd.func11, Tryd.ntmps11
    go_wp2_with fail
    refine (long_any s _).mono ?_
    rintro e w' ⟨rfl, rfl⟩
    rw [HD.out]
    go_wp2_with fail
    refine (H1.out _).mono ?_
    rintro e w1 ⟨rfl, hb1⟩
    have HB1 := Lib.hid hb1
    clear hb1
    go_wp2_with fail
    refine (H2.out _).mono ?_
    rintro e w2 ⟨rfl, hb2⟩
    have HB2 : Hid (Below w.heap.size w w2) := HB1.out.trans (hb2.mono HB1.out.size)
    clear hb2
    go_wp2_with fail
    refine (known_any _).mono ?_
    rintro e w3 ⟨rfl, hb3⟩
    have HB3 : Hid (Below w.heap.size w w3) := HB2.out.trans (hb3.mono HB2.out.size)
    clear hb3
    go_wp2
    go_ret
    exact ⟨rfl, HB3.out⟩

end Go.Proofs.YtmlifgngdilplaaDoor
