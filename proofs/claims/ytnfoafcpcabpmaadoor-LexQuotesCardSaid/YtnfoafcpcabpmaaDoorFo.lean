/-
  The first byte that sources do not have: foreign. Conditions: a text of at most 100000 bytes.
-/
import Derived.Test.YtnfoafcpcabpmaaDoorLb
namespace Go.Proofs.YtnfoafcpcabpmaaDoor
open Go.RowKit

/-- A byte that sources do not have. -/
def fgB (b : UInt8) : Bool := !blB b && (decide (b.toNat < 32) || decide (126 < b.toNat))
def fgN : List UInt8 → Nat
  | [] => 0
  | b :: t => if fgB b then 0 else fgN t + 1
theorem fgN_yes {b : UInt8} {t : List UInt8} (h : fgB b = true) : fgN (b :: t) = 0 := by simp [fgN, h]
theorem fgN_no {b : UInt8} {t : List UInt8} (h : fgB b = false) : fgN (b :: t) = fgN t + 1 := by simp [fgN, h]
theorem fgN_le : ∀ l, fgN l ≤ l.length
  | [] => Nat.le_refl _
  | b :: t => by
    unfold fgN
    have := fgN_le t
    split <;> simp <;> omega

set_option maxRecDepth 100000 in
set_option maxHeartbeats 2000000 in
theorem foreign_any (s : ByteArray) (w : World) (hs : s.size ≤ 100000) : Calls Tryd.prog 21 #[.string s] w (InS (fgN s.data.toList) w) := by
  obtain ⟨l, hl⟩ : ∃ l, s.data.toList = l := ⟨_, rfl⟩
  have hsl : s.size = l.length := by rw [← hl, ← Lib.size_eq]
  rw [hl]
  have HBL := Lib.hid isBlank_any
  have HP : Hid (∀ n w, n = (fgN l : Int) → InS (fgN l) w (.returned (.int .i64 n)) w) := fun n w h => by
    subst h
    exact ⟨rfl, rfl⟩
  have HAT : Hid (∀ k (h : k < s.size), l.drop k = s[k] :: l.drop (k + 1)) := fun k h => drop_at s l hl k h
  have HEN : Hid (∀ k, ¬ k < s.size → l.drop k = []) := fun k h => drop_end s l hl k h
  have HSL := Lib.hid hsl
  clear hl hsl
  go_enter Tryd.func21, Tryd.ntmps21
  go_wp2
  go_loop [6] (fun n => ∃ k : Nat, k ≤ s.size ∧ n = .int .i64 k ∧ Hid (fgN l = k + fgN (l.drop k))) (fun n => s.size - (intOf n).toNat)
  case atStart => exact ⟨0, by omega, rfl, by show _ = _; simp⟩
  case round =>
    obtain ⟨k, hk, rfl, hw⟩ := hrel
    by_cases hlt : k < s.size
    · have hat := HAT.out k hlt
      cases hbl : blB s[k]
      · by_cases h1 : (s[k].toNat : Int) < 32
        · have hX : Hid ((k : Int) = (fgN l : Int)) := by
            show _ = _
            have : fgB s[k] = true := by
              unfold fgB
              simp only [hbl, Bool.not_false, Bool.true_and, Bool.or_eq_true, decide_eq_true_eq]
              omega
            rw [hw.out, hat, fgN_yes this]
            simp
          clear hat
          go_wp2_with (go_at_call 34; refine (HBL.out _ _).mono ?_; rintro e w' ⟨rfl, rfl⟩)
          go_ret
          exact HP.out _ _ hX.out
        · by_cases h2 : 126 < (s[k].toNat : Int)
          · have hX : Hid ((k : Int) = (fgN l : Int)) := by
              show _ = _
              have : fgB s[k] = true := by
                unfold fgB
                simp only [hbl, Bool.not_false, Bool.true_and, Bool.or_eq_true, decide_eq_true_eq]
                omega
              rw [hw.out, hat, fgN_yes this]
              simp
            clear hat
            go_wp2_with (go_at_call 34; refine (HBL.out _ _).mono ?_; rintro e w' ⟨rfl, rfl⟩)
            go_ret
            exact HP.out _ _ hX.out
          · have hN : Hid (fgN l = (k + 1) + fgN (l.drop (k + 1))) := by
              show _ = _
              have : fgB s[k] = false := by
                unfold fgB
                simp only [hbl, Bool.not_false, Bool.true_and, Bool.or_eq_false_iff, decide_eq_false_iff_not]
                omega
              rw [hw.out, hat, fgN_no this]
              omega
            clear hat
            go_wp2_with (go_at_call 34; refine (HBL.out _ _).mono ?_; rintro e w' ⟨rfl, rfl⟩)
            go_round
            case rel => exact ⟨k + 1, by omega, by go_num, hN⟩
            case measure => simp [intOf]; omega
      · have hN : Hid (fgN l = (k + 1) + fgN (l.drop (k + 1))) := by
          show _ = _
          have : fgB s[k] = false := by
            unfold fgB
            simp [hbl]
          rw [hw.out, hat, fgN_no this]
          omega
        clear hat
        go_wp2_with (go_at_call 34; refine (HBL.out _ _).mono ?_; rintro e w' ⟨rfl, rfl⟩)
        go_round
        case rel => exact ⟨k + 1, by omega, by go_num, hN⟩
        case measure => simp [intOf]; omega
    · have hX : Hid ((s.size : Int) = (fgN l : Int)) := by
        show _ = _
        rw [hw.out, HEN.out k hlt]
        have : k = s.size := by omega
        rw [this]
        rfl
      have hks : k = s.size := by omega
      go_wp2
      go_ret
      exact HP.out _ _ hX.out

end Go.Proofs.YtnfoafcpcabpmaaDoor
