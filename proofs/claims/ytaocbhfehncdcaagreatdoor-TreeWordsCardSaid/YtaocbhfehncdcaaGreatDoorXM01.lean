/-
  Bytes of sources and words, lex's and the document's. Conditions: texts of at most 2^47 bytes. The words with which texts begin, lex's and the document's, and IsWord. Conditions: texts of at most 2^47 bytes.
-/
import Derived.Test.YtaocbhfehncdcaaGreatDoorXM00
namespace Go.Proofs.YtaocbhfehncdcaaGreatDoor
open Go.RowKit

def BoS (b : Bool) (w : World) (e : Ending) (w' : World) : Prop := e = .returned (.bool b) ∧ w = w'
def InS (n : Int) (w : World) (e : Ending) (w' : World) : Prop := e = .returned (.int .i64 n) ∧ w = w'
theorem BoS.mk {a b : Bool} (h : a = b) (w : World) : BoS b w (.returned (.bool a)) w := ⟨by rw [h], rfl⟩
def stN (x : Nat) : Bool := decide (97 ≤ x ∧ x ≤ 122) || decide (65 ≤ x ∧ x ≤ 90) || decide (x = 95)
def dgN (x : Nat) : Bool := decide (48 ≤ x ∧ x ≤ 57)
def blN (x : Nat) : Bool := decide (x = 32) || decide (x = 9) || decide (x = 10)
def byN (x : Nat) : Bool := decide (x = 9) || decide (x = 10) || decide (32 ≤ x ∧ x ≤ 126)
def stB (b : UInt8) : Bool := stN b.toNat
def dgB (b : UInt8) : Bool := dgN b.toNat
def blB (b : UInt8) : Bool := blN b.toNat
def byB (b : UInt8) : Bool := byN b.toNat
def nmB (b : UInt8) : Bool := stB b || dgB b

theorem stN_cases (x : Nat) : (x < 65 ∧ stN x = false) ∨ (65 ≤ x ∧ x ≤ 90 ∧ stN x = true) ∨ (90 < x ∧ x < 97 ∧ x ≠ 95 ∧ stN x = false) ∨ (x = 95 ∧ stN x = true) ∨ (97 ≤ x ∧ x ≤ 122 ∧ stN x = true) ∨ (122 < x ∧ stN x = false) := by
  unfold stN
  by_cases h1 : x < 65
  · exact .inl ⟨h1, by simp; omega⟩
  by_cases h2 : x ≤ 90
  · exact .inr (.inl ⟨by omega, h2, by simp; omega⟩)
  by_cases h3 : x = 95
  · exact .inr (.inr (.inr (.inl ⟨h3, by simp [h3]⟩)))
  by_cases h4 : x < 97
  · exact .inr (.inr (.inl ⟨by omega, h4, h3, by simp; omega⟩))
  by_cases h5 : x ≤ 122
  · exact .inr (.inr (.inr (.inr (.inl ⟨by omega, h5, by simp; omega⟩))))
  · exact .inr (.inr (.inr (.inr (.inr ⟨by omega, by simp; omega⟩))))

theorem isStart_any (b : UInt8) (w : World) : Calls Tryz.prog 56 #[.int .u8 b.toNat] w (BoS (stB b) w) := by
  have HP : Hid (∀ v w, v = stB b → BoS (stB b) w (.returned (.bool v)) w) := fun v w h => BoS.mk h w
  unfold stB at *
  generalize b.toNat = x at *
  rcases stN_cases x with ⟨h1, h⟩ | ⟨h1, h2, h⟩ | ⟨h1, h2, h3, h⟩ | ⟨h1, h⟩ | ⟨h1, h2, h⟩ | ⟨h1, h⟩
  · have HX := Lib.hid h.symm
    have g1 : x < 97 := by omega
    have g2 : ((x : Int) == 95) = false := by rw [beq_eq_false_iff_ne]; omega
    clear h
    go_enter Tryz.func56, Tryz.ntmps56
    go_wp2
    go_ret
    exact HP.out _ _ (by first | exact HX.out | (rw [← HX.out]; simp; omega))
  · have HX := Lib.hid h.symm
    have g1 : x < 97 := by omega
    clear h
    go_enter Tryz.func56, Tryz.ntmps56
    go_wp2
    go_ret
    exact HP.out _ _ (by first | exact HX.out | (rw [← HX.out]; simp; omega))
  · have HX := Lib.hid h.symm
    have g2 : ((x : Int) == 95) = false := by rw [beq_eq_false_iff_ne]; omega
    clear h h3
    go_enter Tryz.func56, Tryz.ntmps56
    go_wp2
    go_ret
    exact HP.out _ _ (by first | exact HX.out | (rw [← HX.out]; simp; omega))
  · have HX := Lib.hid h.symm
    clear h
    subst h1
    rw [show ((95 : Nat) : Int) = 95 from rfl]
    go_enter Tryz.func56, Tryz.ntmps56
    go_wp2
    go_ret
    exact HP.out _ _ (by first | exact HX.out | (rw [← HX.out]; simp; omega))
  · have HX := Lib.hid h.symm
    clear h
    go_enter Tryz.func56, Tryz.ntmps56
    go_wp2
    go_ret
    exact HP.out _ _ (by first | exact HX.out | (rw [← HX.out]; simp; omega))
  · have HX := Lib.hid h.symm
    have g2 : ((x : Int) == 95) = false := by rw [beq_eq_false_iff_ne]; omega
    have g3 : 90 < x := by omega
    clear h
    go_enter Tryz.func56, Tryz.ntmps56
    go_wp2
    go_ret
    exact HP.out _ _ (by first | exact HX.out | (rw [← HX.out]; simp; omega))
theorem isAlpha_any (b : UInt8) (w : World) : Calls Tryz.prog 59 #[.int .u8 b.toNat] w (BoS (stB b) w) := by
  have HP : Hid (∀ v w, v = stB b → BoS (stB b) w (.returned (.bool v)) w) := fun v w h => BoS.mk h w
  unfold stB at *
  generalize b.toNat = x at *
  rcases stN_cases x with ⟨h1, h⟩ | ⟨h1, h2, h⟩ | ⟨h1, h2, h3, h⟩ | ⟨h1, h⟩ | ⟨h1, h2, h⟩ | ⟨h1, h⟩
  · have HX := Lib.hid h.symm
    have g1 : x < 97 := by omega
    have g2 : ((x : Int) == 95) = false := by rw [beq_eq_false_iff_ne]; omega
    clear h
    go_enter Tryz.func59, Tryz.ntmps59
    go_wp2
    go_ret
    exact HP.out _ _ (by first | exact HX.out | (rw [← HX.out]; simp; omega))
  · have HX := Lib.hid h.symm
    have g1 : x < 97 := by omega
    clear h
    go_enter Tryz.func59, Tryz.ntmps59
    go_wp2
    go_ret
    exact HP.out _ _ (by first | exact HX.out | (rw [← HX.out]; simp; omega))
  · have HX := Lib.hid h.symm
    have g2 : ((x : Int) == 95) = false := by rw [beq_eq_false_iff_ne]; omega
    clear h h3
    go_enter Tryz.func59, Tryz.ntmps59
    go_wp2
    go_ret
    exact HP.out _ _ (by first | exact HX.out | (rw [← HX.out]; simp; omega))
  · have HX := Lib.hid h.symm
    clear h
    subst h1
    rw [show ((95 : Nat) : Int) = 95 from rfl]
    go_enter Tryz.func59, Tryz.ntmps59
    go_wp2
    go_ret
    exact HP.out _ _ (by first | exact HX.out | (rw [← HX.out]; simp; omega))
  · have HX := Lib.hid h.symm
    clear h
    go_enter Tryz.func59, Tryz.ntmps59
    go_wp2
    go_ret
    exact HP.out _ _ (by first | exact HX.out | (rw [← HX.out]; simp; omega))
  · have HX := Lib.hid h.symm
    have g2 : ((x : Int) == 95) = false := by rw [beq_eq_false_iff_ne]; omega
    have g3 : 90 < x := by omega
    clear h
    go_enter Tryz.func59, Tryz.ntmps59
    go_wp2
    go_ret
    exact HP.out _ _ (by first | exact HX.out | (rw [← HX.out]; simp; omega))
theorem dgN_cases (x : Nat) : (x < 48 ∧ dgN x = false) ∨ (48 ≤ x ∧ x ≤ 57 ∧ dgN x = true) ∨ (57 < x ∧ dgN x = false) := by
  unfold dgN
  by_cases h1 : x < 48
  · exact .inl ⟨h1, by simp; omega⟩
  by_cases h2 : x ≤ 57
  · exact .inr (.inl ⟨by omega, h2, by simp; omega⟩)
  · exact .inr (.inr ⟨by omega, by simp; omega⟩)
theorem isDigit_any (b : UInt8) (w : World) : Calls Tryz.prog 57 #[.int .u8 b.toNat] w (BoS (dgB b) w) := by
  have HP : Hid (∀ v w, v = dgB b → BoS (dgB b) w (.returned (.bool v)) w) := fun v w h => BoS.mk h w
  unfold dgB at *
  generalize b.toNat = x at *
  rcases dgN_cases x with ⟨h1, h⟩ | ⟨h1, h2, h⟩ | ⟨h1, h⟩
  all_goals
    have HX := Lib.hid h.symm
    clear h
    go_enter Tryz.func57, Tryz.ntmps57
    go_wp2
    go_ret
    exact HP.out _ _ (by first | exact HX.out | (rw [← HX.out]; simp; omega))
theorem rIsDigit_any (b : UInt8) (w : World) : Calls Tryz.prog 60 #[.int .u8 b.toNat] w (BoS (dgB b) w) := by
  have HP : Hid (∀ v w, v = dgB b → BoS (dgB b) w (.returned (.bool v)) w) := fun v w h => BoS.mk h w
  unfold dgB at *
  generalize b.toNat = x at *
  rcases dgN_cases x with ⟨h1, h⟩ | ⟨h1, h2, h⟩ | ⟨h1, h⟩
  all_goals
    have HX := Lib.hid h.symm
    clear h
    go_enter Tryz.func60, Tryz.ntmps60
    go_wp2
    go_ret
    exact HP.out _ _ (by first | exact HX.out | (rw [← HX.out]; simp; omega))
theorem isBlank_any (b : UInt8) (w : World) : Calls Tryz.prog 134 #[.int .u8 b.toNat] w (BoS (blB b) w) := by
  have HP : Hid (∀ v w, v = blB b → BoS (blB b) w (.returned (.bool v)) w) := fun v w h => BoS.mk h w
  unfold blB at *
  generalize b.toNat = x at *
  by_cases h1 : x = 32
  · subst h1
    rw [show ((32 : Nat) : Int) = 32 from rfl]
    go_enter Tryz.func134, Tryz.ntmps134
    go_wp2
    go_ret
    exact HP.out _ _ rfl
  by_cases h2 : x = 9
  · subst h2
    rw [show ((9 : Nat) : Int) = 9 from rfl]
    go_enter Tryz.func134, Tryz.ntmps134
    go_wp2
    go_ret
    exact HP.out _ _ rfl
  by_cases h3 : x = 10
  · subst h3
    rw [show ((10 : Nat) : Int) = 10 from rfl]
    go_enter Tryz.func134, Tryz.ntmps134
    go_wp2
    go_ret
    exact HP.out _ _ rfl
  · have HX : Hid (false = blN x) := by
      show _ = _
      unfold blN
      simp [h1, h2, h3]
    have g1 : ((x : Int) == 32) = false := by rw [beq_eq_false_iff_ne]; omega
    have g2 : ((x : Int) == 9) = false := by rw [beq_eq_false_iff_ne]; omega
    have g3 : ((x : Int) == 10) = false := by rw [beq_eq_false_iff_ne]; omega
    clear h1 h2 h3
    go_enter Tryz.func134, Tryz.ntmps134
    go_wp2
    go_ret
    exact HP.out _ _ (by first | exact HX.out | (rw [← HX.out]; simp; omega))

/-- How many bytes go on with a word. -/
def wT : List UInt8 → Nat
  | [] => 0
  | [b] => if nmB b = true then 1 else 0
  | [b, c] => if nmB b = true then wT [c] + 1 else 0
  | b :: c :: d :: r => if nmB b = true then wT (c :: d :: r) + 1 else if b = 58 ∧ c = 58 ∧ stB d = true then wT r + 3 else 0
/-- How many bytes the word has with which a text begins. -/
def wsz : List UInt8 → Nat
  | [] => 0
  | b :: t => if stB b = true then wT t + 1 else 0
theorem nm58 : nmB 58 = false := by decide
theorem wT_name {b : UInt8} {t : List UInt8} (h : nmB b = true) : wT (b :: t) = wT t + 1 := by
  match t with
  | [] => simp [wT, h]
  | [c] => simp [wT, h]
  | c :: d :: r => simp [wT, h]
theorem wT_col {d : UInt8} {r : List UInt8} (h : stB d = true) : wT (58 :: 58 :: d :: r) = wT (d :: r) + 2 := by
  rw [wT_name (b := d) (by unfold nmB; rw [h]; rfl)]
  show (if nmB 58 = true then _ else if (58 : UInt8) = 58 ∧ (58 : UInt8) = 58 ∧ stB d = true then wT r + 3 else 0) = _
  rw [nm58, if_neg (by simp), if_pos ⟨rfl, rfl, h⟩]
theorem wT_stop {t : List UInt8} (h : ∀ b r, t = b :: r → nmB b = false) (h2 : ∀ d r, t = 58 :: 58 :: d :: r → stB d = false) : wT t = 0 := by
  match t with
  | [] => rfl
  | [b] =>
    have := h b [] rfl
    simp [wT, this]
  | [b, c] =>
    have := h b [c] rfl
    simp [wT, this]
  | b :: c :: d :: r =>
    have h3 := h b _ rfl
    show (if nmB b = true then _ else if b = 58 ∧ c = 58 ∧ stB d = true then wT r + 3 else 0) = _
    rw [h3, if_neg (by simp), if_neg]
    rintro ⟨rfl, rfl, h4⟩
    rw [h2 d r rfl] at h4
    cases h4
theorem wT_le : ∀ (t : List UInt8), wT t ≤ t.length
  | [] => Nat.le_refl 0
  | [b] => by
    unfold wT
    split <;> simp
  | [b, c] => by
    have := wT_le [c]
    unfold wT
    split <;> simp at * <;> omega
  | b :: c :: d :: r => by
    have h1 := wT_le (c :: d :: r)
    have h2 := wT_le r
    unfold wT
    split
    · simp at *; omega
    · split <;> simp at * <;> omega
theorem wsz_no {b : UInt8} {t : List UInt8} (h : stB b = false) : wsz (b :: t) = 0 := by
  show (if stB b = true then wT t + 1 else 0) = 0
  rw [h]
  rfl
theorem wsz_yes {b : UInt8} {t : List UInt8} (h : stB b = true) : wsz (b :: t) = wT t + 1 := by
  show (if stB b = true then wT t + 1 else 0) = _
  rw [if_pos h]
theorem wsz_le (l : List UInt8) : wsz l ≤ l.length := by
  match l with
  | [] => exact Nat.le_refl 0
  | b :: t =>
    have := wT_le t
    show (if stB b = true then wT t + 1 else 0) ≤ _
    split <;> simp <;> omega

end Go.Proofs.YtaocbhfehncdcaaGreatDoor

namespace Go.Proofs.YtaocbhfehncdcaaGreatDoor
open Go.RowKit

theorem getElem_list2 (s : ByteArray) (k : Nat) (h : k < s.size) : s.data.toList[k]? = some s[k] := by
  rw [Array.getElem?_toList]
  exact Array.getElem?_eq_getElem h
theorem drop_at (s : ByteArray) (l : List UInt8) (hl : s.data.toList = l) (k : Nat) (h : k < s.size) : l.drop k = s[k] :: l.drop (k + 1) := by
  have h1 : k < l.length := by rw [← hl, ← Lib.size_eq]; exact h
  rw [List.drop_eq_getElem_cons h1]
  congr 1
  have := getElem_list2 s k h
  rw [hl, List.getElem?_eq_getElem h1] at this
  exact Option.some.inj this
theorem drop_end (s : ByteArray) (l : List UInt8) (hl : s.data.toList = l) (k : Nat) (h : ¬ k < s.size) : l.drop k = [] :=
  List.drop_eq_nil_of_le (by rw [← hl, ← Lib.size_eq]; omega)
/-- What stands at a place of a text where no word goes on. -/
theorem wT_stop2 {t : List UInt8} (h : ∀ b r, t = b :: r → nmB b = false) (h2 : ([58, 58] : List UInt8).isPrefixOf t = false ∨ t.length ≤ 2 ∨ ∃ a b d r, t = a :: b :: d :: r ∧ stB d = false) : wT t = 0 := by
  refine wT_stop h (fun d r e => ?_)
  subst e
  rcases h2 with h2 | h2 | ⟨a, b, d', r', e, h2⟩
  · simp [List.isPrefixOf] at h2
  · simp at h2
  · simp only [List.cons.injEq] at e
    rw [e.2.2.1]
    exact h2

set_option maxRecDepth 100000 in
set_option maxHeartbeats 2000000 in
theorem wordSize_any (s : ByteArray) (w : World) (hs : s.size ≤ 140737488355328) : Calls Tryz.prog 37 #[.string s] w (InS (wsz s.data.toList) w) := by
  obtain ⟨l, hl⟩ : ∃ l, s.data.toList = l := ⟨_, rfl⟩
  have hsl : s.size = l.length := by rw [← hl, ← Lib.size_eq]
  rw [hl]
  have HST := Lib.hid isStart_any
  have HDG := Lib.hid isDigit_any
  have HP : Hid (∀ n w, n = (wsz l : Int) → InS (wsz l) w (.returned (.int .i64 n)) w) := fun n w h => by
    subst h
    exact ⟨rfl, rfl⟩
  by_cases h0 : s.size = 0
  · have hn : s.toList = [] := by rw [Lib.toList_data]; exact List.eq_nil_of_length_eq_zero (by rw [← Lib.size_eq]; exact h0)
    have hn2 : s.toList.isEmpty = true := by rw [hn]; rfl
    have hw : Hid ((0 : Int) = (wsz l : Int)) := by
      show _ = _
      have : l = [] := List.eq_nil_of_length_eq_zero (by omega)
      rw [this]
      rfl
    clear h0 hs hl hsl HST HDG
    go_enter Tryz.func37, Tryz.ntmps37
    go_wp2
    go_ret
    exact HP.out _ _ hw.out
  have hpos : 0 < s.size := by omega
  have hne : s.toList.isEmpty = false := by
    rw [Lib.toList_data, List.isEmpty_eq_false_iff]
    intro h
    exact h0 (by rw [Lib.size_eq, h]; rfl)
  have hd0 : l = s[0] :: l.drop 1 := by
    have := drop_at s l hl 0 hpos
    simpa using this
  cases hst : stB s[0]
  · have hw : Hid ((0 : Int) = (wsz l : Int)) := by
      show _ = _
      have h := wsz_no (t := l.drop 1) hst
      rw [← hd0] at h
      rw [h]
      rfl
    clear h0 hl hsl hd0
    go_enter Tryz.func37, Tryz.ntmps37
    go_wp2_with (go_at_call 56; refine (HST.out _ _).mono ?_; rintro e w' ⟨rfl, rfl⟩)
    go_ret
    exact HP.out _ _ hw.out
  · have HW : Hid (wsz l = wT (l.drop 1) + 1) := by
      show _ = _
      have h := wsz_yes (t := l.drop 1) hst
      rwa [← hd0] at h
    have HAT : Hid (∀ k (h : k < s.size), l.drop k = s[k] :: l.drop (k + 1)) := fun k h => drop_at s l hl k h
    have HEN : Hid (∀ k, ¬ k < s.size → l.drop k = []) := fun k h => drop_end s l hl k h
    have HPX : Hid (∀ k w, Calls Tryz.prog 58 #[.string (s.extract k s.size), .string ⟨#[58, 58]⟩] w (BoS (([58, 58] : List UInt8).isPrefixOf (l.drop k)) w)) := fun k w => by
      refine (Tryz.strings_HasPrefix (s.extract k s.size) ⟨#[58, 58]⟩ w).mono ?_
      rintro e w' ⟨rfl, rfl⟩
      refine ⟨?_, rfl⟩
      have : (s.extract k s.size).data.toList = l.drop k := by
        rw [Lib.extract_data, hl, hsl]
        exact List.take_of_length_le (by rw [List.length_drop]; omega)
      rw [this]
      rfl
    have HSL := Lib.hid hsl
    clear hl hsl h0 hd0
    go_enter Tryz.func37, Tryz.ntmps37
    go_wp2_with (go_at_call 56; refine (HST.out _ _).mono ?_; rintro e w' ⟨rfl, rfl⟩)
    go_loop [3] (fun n => ∃ k : Nat, k ≤ s.size ∧ n = .int .i64 k ∧ Hid (wsz l = k + wT (l.drop k))) (fun n => s.size - (intOf n).toNat)
    case atStart => exact ⟨1, by omega, rfl, by show _ = _; rw [HW.out]; omega⟩
    case round =>
      obtain ⟨k, hk, rfl, hw⟩ := hrel
      by_cases hlt : k < s.size
      · have hat := HAT.out k hlt
        cases h1 : stB s[k]
        · cases h2 : dgB s[k]
          · have hnm : nmB s[k] = false := by unfold nmB; rw [h1, h2]; rfl
            cases h3 : ([58, 58] : List UInt8).isPrefixOf (l.drop k)
            · have hX : Hid ((k : Int) = (wsz l : Int)) := by
                show _ = _
                rw [hw.out, wT_stop2 (fun b r e => by rw [hat] at e; rw [← (List.cons.inj e).1]; exact hnm) (.inl h3)]
                simp
              clear hat hnm
              have hkle : k ≤ s.size := by omega
              go_wp2_with (first
                | (go_at_call 56; refine (HST.out _ _).mono ?_; rintro e w' ⟨rfl, rfl⟩)
                | (go_at_call 57; refine (HDG.out _ _).mono ?_; rintro e w' ⟨rfl, rfl⟩)
                | (go_at_call 58; refine (HPX.out _ _).mono ?_; rintro e w' ⟨rfl, rfl⟩))
              go_ret
              exact HP.out _ _ hX.out
            · obtain ⟨r0, hr0⟩ := List.isPrefixOf_iff_prefix.1 h3
              by_cases h4 : k + 2 < s.size
              · have ha2 := HAT.out (k + 2) h4
                have hr1 : l.drop (k + 2) = r0 := by
                  have := congrArg (List.drop 2) hr0
                  simp only [List.drop_drop] at this
                  simpa using this.symm
                cases h5 : stB s[k + 2]
                · have hX : Hid ((k : Int) = (wsz l : Int)) := by
                    show _ = _
                    rw [hw.out, wT_stop2 (fun b r e => by rw [hat] at e; rw [← (List.cons.inj e).1]; exact hnm) (.inr (.inr ⟨58, 58, s[k + 2], l.drop (k + 3), by rw [← hr0, ← hr1, ha2]; rfl, h5⟩))]
                    simp
                  clear hat hnm hr0 hr1 ha2
                  have h4i : (k : Int) + 2 < (s.size : Int) := by omega
                  go_wp2_with (first
                    | (go_at_call 56; refine (HST.out _ _).mono ?_; rintro e w' ⟨rfl, rfl⟩)
                    | (go_at_call 57; refine (HDG.out _ _).mono ?_; rintro e w' ⟨rfl, rfl⟩)
                    | (go_at_call 58; refine (HPX.out _ _).mono ?_; rintro e w' ⟨rfl, rfl⟩))
                  go_ret
                  exact HP.out _ _ hX.out
                · have hN : Hid (wsz l = (k + 2) + wT (l.drop (k + 2))) := by
                    show _ = _
                    rw [hw.out, show l.drop k = 58 :: 58 :: s[k + 2] :: l.drop (k + 2 + 1) by rw [← hr0, ← hr1, ha2]; rfl, wT_col h5, ha2]
                    omega
                  clear hat hnm hr0 hr1 ha2
                  have h4i : (k : Int) + 2 < (s.size : Int) := by omega
                  go_wp2_with (first
                    | (go_at_call 56; refine (HST.out _ _).mono ?_; rintro e w' ⟨rfl, rfl⟩)
                    | (go_at_call 57; refine (HDG.out _ _).mono ?_; rintro e w' ⟨rfl, rfl⟩)
                    | (go_at_call 58; refine (HPX.out _ _).mono ?_; rintro e w' ⟨rfl, rfl⟩))
                  go_round
                  case rel => exact ⟨k + 2, by omega, by go_num, hN⟩
                  case measure => simp [intOf]; omega
              · have hX : Hid ((k : Int) = (wsz l : Int)) := by
                  show _ = _
                  rw [hw.out, wT_stop2 (fun b r e => by rw [hat] at e; rw [← (List.cons.inj e).1]; exact hnm) (.inr (.inl (by rw [List.length_drop, ← HSL.out]; omega)))]
                  simp
                clear hat hnm hr0
                have h4i : (s.size : Int) ≤ (k : Int) + 2 := by omega
                go_wp2_with (first
                  | (go_at_call 56; refine (HST.out _ _).mono ?_; rintro e w' ⟨rfl, rfl⟩)
                  | (go_at_call 57; refine (HDG.out _ _).mono ?_; rintro e w' ⟨rfl, rfl⟩)
                  | (go_at_call 58; refine (HPX.out _ _).mono ?_; rintro e w' ⟨rfl, rfl⟩))
                go_ret
                exact HP.out _ _ hX.out
          · have hN : Hid (wsz l = (k + 1) + wT (l.drop (k + 1))) := by
              show _ = _
              rw [hw.out, hat, wT_name (by unfold nmB; rw [h1, h2]; rfl)]
              omega
            clear hat
            go_wp2_with (first
              | (go_at_call 56; refine (HST.out _ _).mono ?_; rintro e w' ⟨rfl, rfl⟩)
              | (go_at_call 57; refine (HDG.out _ _).mono ?_; rintro e w' ⟨rfl, rfl⟩))
            go_round
            case rel => exact ⟨k + 1, by omega, by go_num, hN⟩
            case measure => simp [intOf]; omega
        · have hN : Hid (wsz l = (k + 1) + wT (l.drop (k + 1))) := by
            show _ = _
            rw [hw.out, hat, wT_name (by unfold nmB; rw [h1]; rfl)]
            omega
          clear hat
          go_wp2_with (go_at_call 56; refine (HST.out _ _).mono ?_; rintro e w' ⟨rfl, rfl⟩)
          go_round
          case rel => exact ⟨k + 1, by omega, by go_num, hN⟩
          case measure => simp [intOf]; omega
      · have hX : Hid ((k : Int) = (wsz l : Int)) := by
          show _ = _
          rw [hw.out, HEN.out k hlt]
          simp [wT]
        go_wp2
        go_ret
        exact HP.out _ _ hX.out

end Go.Proofs.YtaocbhfehncdcaaGreatDoor
