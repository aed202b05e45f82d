/-
  Bytes of sources and words, lex's and the document's. Conditions: texts of at most 2^47 bytes.
-/
import Derived.Test.YtnfoafcpcabpmaaDoorCu
namespace Go.Proofs.YtnfoafcpcabpmaaDoor
open Go.RowKit

def BoS (b : Bool) (w : World) (e : Ending) (w' : World) : Prop := e = .returned (.bool b) ∧ w = w'
def InS (n : Int) (w : World) (e : Ending) (w' : World) : Prop := e = .returned (.int .i64 n) ∧ w = w'
theorem BoS.mk {a b : Bool} (h : a = b) (w : World) : BoS b w (.returned (.bool a)) w := ⟨by rw [h], rfl⟩
def stN (x : Nat) : Bool := decide (97 ≤ x ∧ x ≤ 122) || decide (65 ≤ x ∧ x ≤ 90) || decide (x = 95)
def dgN (x : Nat) : Bool := decide (48 ≤ x ∧ x ≤ 57)
def blN (x : Nat) : Bool := decide (x = 32) || decide (x = 9) || decide (x = 10)
def byN (x : Nat) : Bool := decide (x = 9) || decide (x = 10) || decide (32 ≤ x ∧ x ≤ 126)
def stB (b : UInt8) : Bool := stN b.toNat
def dgB (b : UInt8) : Bool := dgN b.toNat
def blB (b : UInt8) : Bool := blN b.toNat
def byB (b : UInt8) : Bool := byN b.toNat
def nmB (b : UInt8) : Bool := stB b || dgB b

theorem stN_cases (x : Nat) : (x < 65 ∧ stN x = false) ∨ (65 ≤ x ∧ x ≤ 90 ∧ stN x = true) ∨ (90 < x ∧ x < 97 ∧ x ≠ 95 ∧ stN x = false) ∨ (x = 95 ∧ stN x = true) ∨ (97 ≤ x ∧ x ≤ 122 ∧ stN x = true) ∨ (122 < x ∧ stN x = false) := by
  unfold stN
  by_cases h1 : x < 65
  · exact .inl ⟨h1, by simp; omega⟩
  by_cases h2 : x ≤ 90
  · exact .inr (.inl ⟨by omega, h2, by simp; omega⟩)
  by_cases h3 : x = 95
  · exact .inr (.inr (.inr (.inl ⟨h3, by simp [h3]⟩)))
  by_cases h4 : x < 97
  · exact .inr (.inr (.inl ⟨by omega, h4, h3, by simp; omega⟩))
  by_cases h5 : x ≤ 122
  · exact .inr (.inr (.inr (.inr (.inl ⟨by omega, h5, by simp; omega⟩))))
  · exact .inr (.inr (.inr (.inr (.inr ⟨by omega, by simp; omega⟩))))

theorem isStart_any (b : UInt8) (w : World) : Calls Tryd.prog 36 #[.int .u8 b.toNat] w (BoS (stB b) w) := by
  have HP : Hid (∀ v w, v = stB b → BoS (stB b) w (.returned (.bool v)) w) := fun v w h => BoS.mk h w
  unfold stB at *
  generalize b.toNat = x at *
  rcases stN_cases x with ⟨h1, h⟩ | ⟨h1, h2, h⟩ | ⟨h1, h2, h3, h⟩ | ⟨h1, h⟩ | ⟨h1, h2, h⟩ | ⟨h1, h⟩
  · have HX := Lib.hid h.symm
    have g1 : x < 97 := by omega
    have g2 : ((x : Int) == 95) = false := by rw [beq_eq_false_iff_ne]; omega
    clear h
    go_enter Tryd.func36, Tryd.ntmps36
    go_wp2
    go_ret
    exact HP.out _ _ (by first | exact HX.out | (rw [← HX.out]; simp; omega))
  · have HX := Lib.hid h.symm
    have g1 : x < 97 := by omega
    clear h
    go_enter Tryd.func36, Tryd.ntmps36
    go_wp2
    go_ret
    exact HP.out _ _ (by first | exact HX.out | (rw [← HX.out]; simp; omega))
  · have HX := Lib.hid h.symm
    have g2 : ((x : Int) == 95) = false := by rw [beq_eq_false_iff_ne]; omega
    clear h h3
    go_enter Tryd.func36, Tryd.ntmps36
    go_wp2
    go_ret
    exact HP.out _ _ (by first | exact HX.out | (rw [← HX.out]; simp; omega))
  · have HX := Lib.hid h.symm
    clear h
    subst h1
    rw [show ((95 : Nat) : Int) = 95 from rfl]
    go_enter Tryd.func36, Tryd.ntmps36
    go_wp2
    go_ret
    exact HP.out _ _ (by first | exact HX.out | (rw [← HX.out]; simp; omega))
  · have HX := Lib.hid h.symm
    clear h
    go_enter Tryd.func36, Tryd.ntmps36
    go_wp2
    go_ret
    exact HP.out _ _ (by first | exact HX.out | (rw [← HX.out]; simp; omega))
  · have HX := Lib.hid h.symm
    have g2 : ((x : Int) == 95) = false := by rw [beq_eq_false_iff_ne]; omega
    have g3 : 90 < x := by omega
    clear h
    go_enter Tryd.func36, Tryd.ntmps36
    go_wp2
    go_ret
    exact HP.out _ _ (by first | exact HX.out | (rw [← HX.out]; simp; omega))
theorem isAlpha_any (b : UInt8) (w : World) : Calls Tryd.prog 39 #[.int .u8 b.toNat] w (BoS (stB b) w) := by
  have HP : Hid (∀ v w, v = stB b → BoS (stB b) w (.returned (.bool v)) w) := fun v w h => BoS.mk h w
  unfold stB at *
  generalize b.toNat = x at *
  rcases stN_cases x with ⟨h1, h⟩ | ⟨h1, h2, h⟩ | ⟨h1, h2, h3, h⟩ | ⟨h1, h⟩ | ⟨h1, h2, h⟩ | ⟨h1, h⟩
  · have HX := Lib.hid h.symm
    have g1 : x < 97 := by omega
    have g2 : ((x : Int) == 95) = false := by rw [beq_eq_false_iff_ne]; omega
    clear h
    go_enter Tryd.func39, Tryd.ntmps39
    go_wp2
    go_ret
    exact HP.out _ _ (by first | exact HX.out | (rw [← HX.out]; simp; omega))
  · have HX := Lib.hid h.symm
    have g1 : x < 97 := by omega
    clear h
    go_enter Tryd.func39, Tryd.ntmps39
    go_wp2
    go_ret
    exact HP.out _ _ (by first | exact HX.out | (rw [← HX.out]; simp; omega))
  · have HX := Lib.hid h.symm
    have g2 : ((x : Int) == 95) = false := by rw [beq_eq_false_iff_ne]; omega
    clear h h3
    go_enter Tryd.func39, Tryd.ntmps39
    go_wp2
    go_ret
    exact HP.out _ _ (by first | exact HX.out | (rw [← HX.out]; simp; omega))
  · have HX := Lib.hid h.symm
    clear h
    subst h1
    rw [show ((95 : Nat) : Int) = 95 from rfl]
    go_enter Tryd.func39, Tryd.ntmps39
    go_wp2
    go_ret
    exact HP.out _ _ (by first | exact HX.out | (rw [← HX.out]; simp; omega))
  · have HX := Lib.hid h.symm
    clear h
    go_enter Tryd.func39, Tryd.ntmps39
    go_wp2
    go_ret
    exact HP.out _ _ (by first | exact HX.out | (rw [← HX.out]; simp; omega))
  · have HX := Lib.hid h.symm
    have g2 : ((x : Int) == 95) = false := by rw [beq_eq_false_iff_ne]; omega
    have g3 : 90 < x := by omega
    clear h
    go_enter Tryd.func39, Tryd.ntmps39
    go_wp2
    go_ret
    exact HP.out _ _ (by first | exact HX.out | (rw [← HX.out]; simp; omega))
theorem dgN_cases (x : Nat) : (x < 48 ∧ dgN x = false) ∨ (48 ≤ x ∧ x ≤ 57 ∧ dgN x = true) ∨ (57 < x ∧ dgN x = false) := by
  unfold dgN
  by_cases h1 : x < 48
  · exact .inl ⟨h1, by simp; omega⟩
  by_cases h2 : x ≤ 57
  · exact .inr (.inl ⟨by omega, h2, by simp; omega⟩)
  · exact .inr (.inr ⟨by omega, by simp; omega⟩)
theorem isDigit_any (b : UInt8) (w : World) : Calls Tryd.prog 37 #[.int .u8 b.toNat] w (BoS (dgB b) w) := by
  have HP : Hid (∀ v w, v = dgB b → BoS (dgB b) w (.returned (.bool v)) w) := fun v w h => BoS.mk h w
  unfold dgB at *
  generalize b.toNat = x at *
  rcases dgN_cases x with ⟨h1, h⟩ | ⟨h1, h2, h⟩ | ⟨h1, h⟩
  all_goals
    have HX := Lib.hid h.symm
    clear h
    go_enter Tryd.func37, Tryd.ntmps37
    go_wp2
    go_ret
    exact HP.out _ _ (by first | exact HX.out | (rw [← HX.out]; simp; omega))
theorem rIsDigit_any (b : UInt8) (w : World) : Calls Tryd.prog 40 #[.int .u8 b.toNat] w (BoS (dgB b) w) := by
  have HP : Hid (∀ v w, v = dgB b → BoS (dgB b) w (.returned (.bool v)) w) := fun v w h => BoS.mk h w
  unfold dgB at *
  generalize b.toNat = x at *
  rcases dgN_cases x with ⟨h1, h⟩ | ⟨h1, h2, h⟩ | ⟨h1, h⟩
  all_goals
    have HX := Lib.hid h.symm
    clear h
    go_enter Tryd.func40, Tryd.ntmps40
    go_wp2
    go_ret
    exact HP.out _ _ (by first | exact HX.out | (rw [← HX.out]; simp; omega))
theorem isBlank_any (b : UInt8) (w : World) : Calls Tryd.prog 34 #[.int .u8 b.toNat] w (BoS (blB b) w) := by
  have HP : Hid (∀ v w, v = blB b → BoS (blB b) w (.returned (.bool v)) w) := fun v w h => BoS.mk h w
  unfold blB at *
  generalize b.toNat = x at *
  by_cases h1 : x = 32
  · subst h1
    rw [show ((32 : Nat) : Int) = 32 from rfl]
    go_enter Tryd.func34, Tryd.ntmps34
    go_wp2
    go_ret
    exact HP.out _ _ rfl
  by_cases h2 : x = 9
  · subst h2
    rw [show ((9 : Nat) : Int) = 9 from rfl]
    go_enter Tryd.func34, Tryd.ntmps34
    go_wp2
    go_ret
    exact HP.out _ _ rfl
  by_cases h3 : x = 10
  · subst h3
    rw [show ((10 : Nat) : Int) = 10 from rfl]
    go_enter Tryd.func34, Tryd.ntmps34
    go_wp2
    go_ret
    exact HP.out _ _ rfl
  · have HX : Hid (false = blN x) := by
      show _ = _
      unfold blN
      simp [h1, h2, h3]
    have g1 : ((x : Int) == 32) = false := by rw [beq_eq_false_iff_ne]; omega
    have g2 : ((x : Int) == 9) = false := by rw [beq_eq_false_iff_ne]; omega
    have g3 : ((x : Int) == 10) = false := by rw [beq_eq_false_iff_ne]; omega
    clear h1 h2 h3
    go_enter Tryd.func34, Tryd.ntmps34
    go_wp2
    go_ret
    exact HP.out _ _ (by first | exact HX.out | (rw [← HX.out]; simp; omega))

/-- How many bytes go on with a word. -/
def wT : List UInt8 → Nat
  | [] => 0
  | [b] => if nmB b = true then 1 else 0
  | [b, c] => if nmB b = true then wT [c] + 1 else 0
  | b :: c :: d :: r => if nmB b = true then wT (c :: d :: r) + 1 else if b = 58 ∧ c = 58 ∧ stB d = true then wT r + 3 else 0
/-- How many bytes the word has with which a text begins. -/
def wsz : List UInt8 → Nat
  | [] => 0
  | b :: t => if stB b = true then wT t + 1 else 0
theorem nm58 : nmB 58 = false := by decide
theorem wT_name {b : UInt8} {t : List UInt8} (h : nmB b = true) : wT (b :: t) = wT t + 1 := by
  match t with
  | [] => simp [wT, h]
  | [c] => simp [wT, h]
  | c :: d :: r => simp [wT, h]
theorem wT_col {d : UInt8} {r : List UInt8} (h : stB d = true) : wT (58 :: 58 :: d :: r) = wT (d :: r) + 2 := by
  rw [wT_name (b := d) (by unfold nmB; rw [h]; rfl)]
  show (if nmB 58 = true then _ else if (58 : UInt8) = 58 ∧ (58 : UInt8) = 58 ∧ stB d = true then wT r + 3 else 0) = _
  rw [nm58, if_neg (by simp), if_pos ⟨rfl, rfl, h⟩]
theorem wT_stop {t : List UInt8} (h : ∀ b r, t = b :: r → nmB b = false) (h2 : ∀ d r, t = 58 :: 58 :: d :: r → stB d = false) : wT t = 0 := by
  match t with
  | [] => rfl
  | [b] =>
    have := h b [] rfl
    simp [wT, this]
  | [b, c] =>
    have := h b [c] rfl
    simp [wT, this]
  | b :: c :: d :: r =>
    have h3 := h b _ rfl
    show (if nmB b = true then _ else if b = 58 ∧ c = 58 ∧ stB d = true then wT r + 3 else 0) = _
    rw [h3, if_neg (by simp), if_neg]
    rintro ⟨rfl, rfl, h4⟩
    rw [h2 d r rfl] at h4
    cases h4
theorem wT_le : ∀ (t : List UInt8), wT t ≤ t.length
  | [] => Nat.le_refl 0
  | [b] => by
    unfold wT
    split <;> simp
  | [b, c] => by
    have := wT_le [c]
    unfold wT
    split <;> simp at * <;> omega
  | b :: c :: d :: r => by
    have h1 := wT_le (c :: d :: r)
    have h2 := wT_le r
    unfold wT
    split
    · simp at *; omega
    · split <;> simp at * <;> omega
theorem wsz_no {b : UInt8} {t : List UInt8} (h : stB b = false) : wsz (b :: t) = 0 := by
  show (if stB b = true then wT t + 1 else 0) = 0
  rw [h]
  rfl
theorem wsz_yes {b : UInt8} {t : List UInt8} (h : stB b = true) : wsz (b :: t) = wT t + 1 := by
  show (if stB b = true then wT t + 1 else 0) = _
  rw [if_pos h]
theorem wsz_le (l : List UInt8) : wsz l ≤ l.length := by
  match l with
  | [] => exact Nat.le_refl 0
  | b :: t =>
    have := wT_le t
    show (if stB b = true then wT t + 1 else 0) ≤ _
    split <;> simp <;> omega

end Go.Proofs.YtnfoafcpcabpmaaDoor
