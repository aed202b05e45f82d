/-
  The words with which texts begin, lex's and the document's, and IsWord. Conditions: texts of at most 2^47 bytes. The document's word, and IsWord, lex's and the document's. Conditions: texts of at most 2^47 bytes. A scanner of the call's own: what its block holds; a map of numbers. Conditions: none beside those stated.
-/
import Derived.Test.YtaocbhfehncdcaaGreatDoorXM01
import Derived.Maps.Own
namespace Go.Proofs.YtaocbhfehncdcaaGreatDoor
open Go.RowKit

theorem getElem_list2 (s : ByteArray) (k : Nat) (h : k < s.size) : s.data.toList[k]? = some s[k] := by
  rw [Array.getElem?_toList]
  exact Array.getElem?_eq_getElem h
theorem drop_at (s : ByteArray) (l : List UInt8) (hl : s.data.toList = l) (k : Nat) (h : k < s.size) : l.drop k = s[k] :: l.drop (k + 1) := by
  have h1 : k < l.length := by rw [← hl, ← Lib.size_eq]; exact h
  rw [List.drop_eq_getElem_cons h1]
  congr 1
  have := getElem_list2 s k h
  rw [hl, List.getElem?_eq_getElem h1] at this
  exact Option.some.inj this
theorem drop_end (s : ByteArray) (l : List UInt8) (hl : s.data.toList = l) (k : Nat) (h : ¬ k < s.size) : l.drop k = [] :=
  List.drop_eq_nil_of_le (by rw [← hl, ← Lib.size_eq]; omega)
/-- What stands at a place of a text where no word goes on. -/
theorem wT_stop2 {t : List UInt8} (h : ∀ b r, t = b :: r → nmB b = false) (h2 : ([58, 58] : List UInt8).isPrefixOf t = false ∨ t.length ≤ 2 ∨ ∃ a b d r, t = a :: b :: d :: r ∧ stB d = false) : wT t = 0 := by
  refine wT_stop h (fun d r e => ?_)
  subst e
  rcases h2 with h2 | h2 | ⟨a, b, d', r', e, h2⟩
  · simp [List.isPrefixOf] at h2
  · simp at h2
  · simp only [List.cons.injEq] at e
    rw [e.2.2.1]
    exact h2

set_option maxRecDepth 100000 in
set_option maxHeartbeats 2000000 in
theorem wordSize_any (s : ByteArray) (w : World) (hs : s.size ≤ 140737488355328) : Calls Tryz.prog 37 #[.string s] w (InS (wsz s.data.toList) w) := by
  obtain ⟨l, hl⟩ : ∃ l, s.data.toList = l := ⟨_, rfl⟩
  have hsl : s.size = l.length := by rw [← hl, ← Lib.size_eq]
  rw [hl]
  have HST := Lib.hid isStart_any
  have HDG := Lib.hid isDigit_any
  have HP : Hid (∀ n w, n = (wsz l : Int) → InS (wsz l) w (.returned (.int .i64 n)) w) := fun n w h => by
    subst h
    exact ⟨rfl, rfl⟩
  by_cases h0 : s.size = 0
  · have hn : s.toList = [] := by rw [Lib.toList_data]; exact List.eq_nil_of_length_eq_zero (by rw [← Lib.size_eq]; exact h0)
    have hn2 : s.toList.isEmpty = true := by rw [hn]; rfl
    have hw : Hid ((0 : Int) = (wsz l : Int)) := by
      show _ = _
      have : l = [] := List.eq_nil_of_length_eq_zero (by omega)
      rw [this]
      rfl
    clear h0 hs hl hsl HST HDG
    go_enter Tryz.func37, Tryz.ntmps37
    go_wp2
    go_ret
    exact HP.out _ _ hw.out
  have hpos : 0 < s.size := by omega
  have hne : s.toList.isEmpty = false := by
    rw [Lib.toList_data, List.isEmpty_eq_false_iff]
    intro h
    exact h0 (by rw [Lib.size_eq, h]; rfl)
  have hd0 : l = s[0] :: l.drop 1 := by
    have := drop_at s l hl 0 hpos
    simpa using this
  cases hst : stB s[0]
  · have hw : Hid ((0 : Int) = (wsz l : Int)) := by
      show _ = _
      have h := wsz_no (t := l.drop 1) hst
      rw [← hd0] at h
      rw [h]
      rfl
    clear h0 hl hsl hd0
    go_enter Tryz.func37, Tryz.ntmps37
    go_wp2_with (go_at_call 56; refine (HST.out _ _).mono ?_; rintro e w' ⟨rfl, rfl⟩)
    go_ret
    exact HP.out _ _ hw.out
  · have HW : Hid (wsz l = wT (l.drop 1) + 1) := by
      show _ = _
      have h := wsz_yes (t := l.drop 1) hst
      rwa [← hd0] at h
    have HAT : Hid (∀ k (h : k < s.size), l.drop k = s[k] :: l.drop (k + 1)) := fun k h => drop_at s l hl k h
    have HEN : Hid (∀ k, ¬ k < s.size → l.drop k = []) := fun k h => drop_end s l hl k h
    have HPX : Hid (∀ k w, Calls Tryz.prog 58 #[.string (s.extract k s.size), .string ⟨#[58, 58]⟩] w (BoS (([58, 58] : List UInt8).isPrefixOf (l.drop k)) w)) := fun k w => by
      refine (Tryz.strings_HasPrefix (s.extract k s.size) ⟨#[58, 58]⟩ w).mono ?_
      rintro e w' ⟨rfl, rfl⟩
      refine ⟨?_, rfl⟩
      have : (s.extract k s.size).data.toList = l.drop k := by
        rw [Lib.extract_data, hl, hsl]
        exact List.take_of_length_le (by rw [List.length_drop]; omega)
      rw [this]
      rfl
    have HSL := Lib.hid hsl
    clear hl hsl h0 hd0
    go_enter Tryz.func37, Tryz.ntmps37
    go_wp2_with (go_at_call 56; refine (HST.out _ _).mono ?_; rintro e w' ⟨rfl, rfl⟩)
    go_loop [3] (fun n => ∃ k : Nat, k ≤ s.size ∧ n = .int .i64 k ∧ Hid (wsz l = k + wT (l.drop k))) (fun n => s.size - (intOf n).toNat)
    case atStart => exact ⟨1, by omega, rfl, by show _ = _; rw [HW.out]; omega⟩
    case round =>
      obtain ⟨k, hk, rfl, hw⟩ := hrel
      by_cases hlt : k < s.size
      · have hat := HAT.out k hlt
        cases h1 : stB s[k]
        · cases h2 : dgB s[k]
          · have hnm : nmB s[k] = false := by unfold nmB; rw [h1, h2]; rfl
            cases h3 : ([58, 58] : List UInt8).isPrefixOf (l.drop k)
            · have hX : Hid ((k : Int) = (wsz l : Int)) := by
                show _ = _
                rw [hw.out, wT_stop2 (fun b r e => by rw [hat] at e; rw [← (List.cons.inj e).1]; exact hnm) (.inl h3)]
                simp
              clear hat hnm
              have hkle : k ≤ s.size := by omega
              go_wp2_with (first
                | (go_at_call 56; refine (HST.out _ _).mono ?_; rintro e w' ⟨rfl, rfl⟩)
                | (go_at_call 57; refine (HDG.out _ _).mono ?_; rintro e w' ⟨rfl, rfl⟩)
                | (go_at_call 58; refine (HPX.out _ _).mono ?_; rintro e w' ⟨rfl, rfl⟩))
              go_ret
              exact HP.out _ _ hX.out
            · obtain ⟨r0, hr0⟩ := List.isPrefixOf_iff_prefix.1 h3
              by_cases h4 : k + 2 < s.size
              · have ha2 := HAT.out (k + 2) h4
                have hr1 : l.drop (k + 2) = r0 := by
                  have := congrArg (List.drop 2) hr0
                  simp only [List.drop_drop] at this
                  simpa using this.symm
                cases h5 : stB s[k + 2]
                · have hX : Hid ((k : Int) = (wsz l : Int)) := by
                    show _ = _
                    rw [hw.out, wT_stop2 (fun b r e => by rw [hat] at e; rw [← (List.cons.inj e).1]; exact hnm) (.inr (.inr ⟨58, 58, s[k + 2], l.drop (k + 3), by rw [← hr0, ← hr1, ha2]; rfl, h5⟩))]
                    simp
                  clear hat hnm hr0 hr1 ha2
                  have h4i : (k : Int) + 2 < (s.size : Int) := by omega
                  go_wp2_with (first
                    | (go_at_call 56; refine (HST.out _ _).mono ?_; rintro e w' ⟨rfl, rfl⟩)
                    | (go_at_call 57; refine (HDG.out _ _).mono ?_; rintro e w' ⟨rfl, rfl⟩)
                    | (go_at_call 58; refine (HPX.out _ _).mono ?_; rintro e w' ⟨rfl, rfl⟩))
                  go_ret
                  exact HP.out _ _ hX.out
                · have hN : Hid (wsz l = (k + 2) + wT (l.drop (k + 2))) := by
                    show _ = _
                    rw [hw.out, show l.drop k = 58 :: 58 :: s[k + 2] :: l.drop (k + 2 + 1) by rw [← hr0, ← hr1, ha2]; rfl, wT_col h5, ha2]
                    omega
                  clear hat hnm hr0 hr1 ha2
                  have h4i : (k : Int) + 2 < (s.size : Int) := by omega
                  go_wp2_with (first
                    | (go_at_call 56; refine (HST.out _ _).mono ?_; rintro e w' ⟨rfl, rfl⟩)
                    | (go_at_call 57; refine (HDG.out _ _).mono ?_; rintro e w' ⟨rfl, rfl⟩)
                    | (go_at_call 58; refine (HPX.out _ _).mono ?_; rintro e w' ⟨rfl, rfl⟩))
                  go_round
                  case rel => exact ⟨k + 2, by omega, by go_num, hN⟩
                  case measure => simp [intOf]; omega
              · have hX : Hid ((k : Int) = (wsz l : Int)) := by
                  show _ = _
                  rw [hw.out, wT_stop2 (fun b r e => by rw [hat] at e; rw [← (List.cons.inj e).1]; exact hnm) (.inr (.inl (by rw [List.length_drop, ← HSL.out]; omega)))]
                  simp
                clear hat hnm hr0
                have h4i : (s.size : Int) ≤ (k : Int) + 2 := by omega
                go_wp2_with (first
                  | (go_at_call 56; refine (HST.out _ _).mono ?_; rintro e w' ⟨rfl, rfl⟩)
                  | (go_at_call 57; refine (HDG.out _ _).mono ?_; rintro e w' ⟨rfl, rfl⟩)
                  | (go_at_call 58; refine (HPX.out _ _).mono ?_; rintro e w' ⟨rfl, rfl⟩))
                go_ret
                exact HP.out _ _ hX.out
          · have hN : Hid (wsz l = (k + 1) + wT (l.drop (k + 1))) := by
              show _ = _
              rw [hw.out, hat, wT_name (by unfold nmB; rw [h1, h2]; rfl)]
              omega
            clear hat
            go_wp2_with (first
              | (go_at_call 56; refine (HST.out _ _).mono ?_; rintro e w' ⟨rfl, rfl⟩)
              | (go_at_call 57; refine (HDG.out _ _).mono ?_; rintro e w' ⟨rfl, rfl⟩))
            go_round
            case rel => exact ⟨k + 1, by omega, by go_num, hN⟩
            case measure => simp [intOf]; omega
        · have hN : Hid (wsz l = (k + 1) + wT (l.drop (k + 1))) := by
            show _ = _
            rw [hw.out, hat, wT_name (by unfold nmB; rw [h1]; rfl)]
            omega
          clear hat
          go_wp2_with (go_at_call 56; refine (HST.out _ _).mono ?_; rintro e w' ⟨rfl, rfl⟩)
          go_round
          case rel => exact ⟨k + 1, by omega, by go_num, hN⟩
          case measure => simp [intOf]; omega
      · have hX : Hid ((k : Int) = (wsz l : Int)) := by
          show _ = _
          rw [hw.out, HEN.out k hlt]
          simp [wT]
        go_wp2
        go_ret
        exact HP.out _ _ hX.out

end Go.Proofs.YtaocbhfehncdcaaGreatDoor

namespace Go.Proofs.YtaocbhfehncdcaaGreatDoor
open Go.RowKit

set_option maxRecDepth 100000 in
set_option maxHeartbeats 2000000 in
theorem rWord_any (s : ByteArray) (w : World) (hs : s.size ≤ 140737488355328) : Calls Tryz.prog 38 #[.string s] w (InS (wsz s.data.toList) w) := by
  obtain ⟨l, hl⟩ : ∃ l, s.data.toList = l := ⟨_, rfl⟩
  have hsl : s.size = l.length := by rw [← hl, ← Lib.size_eq]
  rw [hl]
  have HST := Lib.hid isAlpha_any
  have HDG := Lib.hid rIsDigit_any
  have HP : Hid (∀ n w, n = (wsz l : Int) → InS (wsz l) w (.returned (.int .i64 n)) w) := fun n w h => by
    subst h
    exact ⟨rfl, rfl⟩
  by_cases h0 : s.size = 0
  · have hn : s.toList = [] := by rw [Lib.toList_data]; exact List.eq_nil_of_length_eq_zero (by rw [← Lib.size_eq]; exact h0)
    have hn2 : s.toList.isEmpty = true := by rw [hn]; rfl
    have hw : Hid ((0 : Int) = (wsz l : Int)) := by
      show _ = _
      have : l = [] := List.eq_nil_of_length_eq_zero (by omega)
      rw [this]
      rfl
    clear h0 hs hl hsl HST HDG
    go_enter Tryz.func38, Tryz.ntmps38
    go_wp2
    go_ret
    exact HP.out _ _ hw.out
  have hpos : 0 < s.size := by omega
  have hne : s.toList.isEmpty = false := by
    rw [Lib.toList_data, List.isEmpty_eq_false_iff]
    intro h
    exact h0 (by rw [Lib.size_eq, h]; rfl)
  have hd0 : l = s[0] :: l.drop 1 := by
    have := drop_at s l hl 0 hpos
    simpa using this
  cases hst : stB s[0]
  · have hw : Hid ((0 : Int) = (wsz l : Int)) := by
      show _ = _
      have h := wsz_no (t := l.drop 1) hst
      rw [← hd0] at h
      rw [h]
      rfl
    clear h0 hl hsl hd0
    go_enter Tryz.func38, Tryz.ntmps38
    go_wp2_with (go_at_call 59; refine (HST.out _ _).mono ?_; rintro e w' ⟨rfl, rfl⟩)
    go_ret
    exact HP.out _ _ hw.out
  · have HW : Hid (wsz l = wT (l.drop 1) + 1) := by
      show _ = _
      have h := wsz_yes (t := l.drop 1) hst
      rwa [← hd0] at h
    have HAT : Hid (∀ k (h : k < s.size), l.drop k = s[k] :: l.drop (k + 1)) := fun k h => drop_at s l hl k h
    have HEN : Hid (∀ k, ¬ k < s.size → l.drop k = []) := fun k h => drop_end s l hl k h
    have HSL := Lib.hid hsl
    clear hl hsl h0 hd0
    go_enter Tryz.func38, Tryz.ntmps38
    go_wp2_with (go_at_call 59; refine (HST.out _ _).mono ?_; rintro e w' ⟨rfl, rfl⟩)
    go_loop [3] (fun n => ∃ k : Nat, k ≤ s.size ∧ n = .int .i64 k ∧ Hid (wsz l = k + wT (l.drop k))) (fun n => s.size - (intOf n).toNat)
    case atStart => exact ⟨1, by omega, rfl, by show _ = _; rw [HW.out]; omega⟩
    case round =>
      obtain ⟨k, hk, rfl, hw⟩ := hrel
      by_cases hlt : k < s.size
      · have hat := HAT.out k hlt
        cases h1 : stB s[k]
        · cases h2 : dgB s[k]
          · have hnm : nmB s[k] = false := by unfold nmB; rw [h1, h2]; rfl
            have hstop : (([58, 58] : List UInt8).isPrefixOf (l.drop k) = false ∨ (l.drop k).length ≤ 2 ∨ ∃ a b d r, l.drop k = a :: b :: d :: r ∧ stB d = false) → Hid ((k : Int) = (wsz l : Int)) := fun h => by
              show _ = _
              rw [hw.out, wT_stop2 (fun b r e => by rw [hat] at e; rw [← (List.cons.inj e).1]; exact hnm) h]
              simp
            have HSTOP := Lib.hid hstop
            clear hstop
            by_cases h4 : k + 2 < s.size
            · have ha1 := HAT.out (k + 1) (by omega)
              have ha2 := HAT.out (k + 2) h4
              have h4i : (k : Int) + 2 < (s.size : Int) := by omega
              have hd3 : l.drop k = s[k] :: s[k + 1] :: s[k + 2] :: l.drop (k + 2 + 1) := by
                rw [hat, ha1]
                congr 2
              by_cases c1 : s[k] = 58
              · have c1n : s[k].toNat = 58 := by rw [c1]; rfl
                have f1 : ((s[k].toNat : Int) == 58) = true := by rw [c1n]; rfl
                by_cases c2 : s[k + 1] = 58
                · have c2n : s[k + 1].toNat = 58 := by rw [c2]; rfl
                  have f2 : ((s[k + 1].toNat : Int) == 58) = true := by rw [c2n]; rfl
                  cases h5 : stB s[k + 2]
                  · have hX := HSTOP.out (.inr (.inr ⟨_, _, _, _, hd3, h5⟩))
                    clear hat hnm ha1 ha2 hd3 c1 c2 c1n c2n
                    go_wp2_with (first
                      | (go_at_call 59; refine (HST.out _ _).mono ?_; rintro e w' ⟨rfl, rfl⟩)
                      | (go_at_call 60; refine (HDG.out _ _).mono ?_; rintro e w' ⟨rfl, rfl⟩))
                    go_ret
                    exact HP.out _ _ hX.out
                  · have hN : Hid (wsz l = (k + 3) + wT (l.drop (k + 2 + 1))) := by
                      show _ = _
                      rw [hw.out, hd3, c1, c2, wT_col h5, wT_name (by unfold nmB; rw [h5]; rfl)]
                      omega
                    clear hat hnm ha1 ha2 hd3 c1 c2 c1n c2n
                    go_wp2_with (first
                      | (go_at_call 59; refine (HST.out _ _).mono ?_; rintro e w' ⟨rfl, rfl⟩)
                      | (go_at_call 60; refine (HDG.out _ _).mono ?_; rintro e w' ⟨rfl, rfl⟩))
                    go_round
                    case rel => exact ⟨k + 3, by omega, by go_num, hN⟩
                    case measure => simp [intOf]; omega
                · have f2 : ((s[k + 1].toNat : Int) == 58) = false := by
                    rw [beq_eq_false_iff_ne]
                    intro h
                    exact c2 (UInt8.toNat_inj.1 (by show _ = 58; omega))
                  have hX := HSTOP.out (.inl (by rw [hd3]; simp [List.isPrefixOf]; intro _ h; exact absurd h.symm c2))
                  clear hat hnm ha1 ha2 hd3 c1 c2 c1n
                  go_wp2_with (first
                    | (go_at_call 59; refine (HST.out _ _).mono ?_; rintro e w' ⟨rfl, rfl⟩)
                    | (go_at_call 60; refine (HDG.out _ _).mono ?_; rintro e w' ⟨rfl, rfl⟩))
                  go_ret
                  exact HP.out _ _ hX.out
              · have f1 : ((s[k].toNat : Int) == 58) = false := by
                  rw [beq_eq_false_iff_ne]
                  intro h
                  exact c1 (UInt8.toNat_inj.1 (by show _ = 58; omega))
                have hX := HSTOP.out (.inl (by rw [hd3]; simp [List.isPrefixOf]; intro h; exact absurd h.symm c1))
                clear hat hnm ha1 ha2 hd3 c1
                go_wp2_with (first
                  | (go_at_call 59; refine (HST.out _ _).mono ?_; rintro e w' ⟨rfl, rfl⟩)
                  | (go_at_call 60; refine (HDG.out _ _).mono ?_; rintro e w' ⟨rfl, rfl⟩))
                go_ret
                exact HP.out _ _ hX.out
            · have hX := HSTOP.out (.inr (.inl (by rw [List.length_drop, ← HSL.out]; omega)))
              have h4i : (s.size : Int) ≤ (k : Int) + 2 := by omega
              clear hat hnm
              go_wp2_with (first
                | (go_at_call 59; refine (HST.out _ _).mono ?_; rintro e w' ⟨rfl, rfl⟩)
                | (go_at_call 60; refine (HDG.out _ _).mono ?_; rintro e w' ⟨rfl, rfl⟩))
              go_ret
              exact HP.out _ _ hX.out
          · have hN : Hid (wsz l = (k + 1) + wT (l.drop (k + 1))) := by
              show _ = _
              rw [hw.out, hat, wT_name (by unfold nmB; rw [h1, h2]; rfl)]
              omega
            clear hat
            go_wp2_with (first
              | (go_at_call 59; refine (HST.out _ _).mono ?_; rintro e w' ⟨rfl, rfl⟩)
              | (go_at_call 60; refine (HDG.out _ _).mono ?_; rintro e w' ⟨rfl, rfl⟩))
            go_round
            case rel => exact ⟨k + 1, by omega, by go_num, hN⟩
            case measure => simp [intOf]; omega
        · have hN : Hid (wsz l = (k + 1) + wT (l.drop (k + 1))) := by
            show _ = _
            rw [hw.out, hat, wT_name (by unfold nmB; rw [h1]; rfl)]
            omega
          clear hat
          go_wp2_with (go_at_call 59; refine (HST.out _ _).mono ?_; rintro e w' ⟨rfl, rfl⟩)
          go_round
          case rel => exact ⟨k + 1, by omega, by go_num, hN⟩
          case measure => simp [intOf]; omega
      · have hX : Hid ((k : Int) = (wsz l : Int)) := by
          show _ = _
          rw [hw.out, HEN.out k hlt]
          simp [wT]
        go_wp2
        go_ret
        exact HP.out _ _ hX.out

/-- Whether a text is a word that is not too long. -/
def isW (l : List UInt8) : Bool := decide (l ≠ []) && decide (l.length ≤ 12) && decide (wsz l = l.length)
set_option maxRecDepth 100000 in
theorem IsWord_any (s : ByteArray) (w : World) (hs : s.size ≤ 140737488355328) : Calls Tryz.prog 21 #[.string s] w (BoS (isW s.data.toList) w) := by
  have hsl : s.size = s.data.toList.length := Lib.size_eq s
  have HP : Hid (∀ v w, v = isW s.data.toList → BoS (isW s.data.toList) w (.returned (.bool v)) w) := fun v w h => BoS.mk h w
  have HW := Lib.hid (fun w => wordSize_any s w hs)
  by_cases h0 : s.data.toList = []
  · have hn : s.toList = [] := by rw [Lib.toList_data]; exact h0
    have hn2 : s.toList.isEmpty = true := by rw [hn]; rfl
    have HX : Hid (false = isW s.data.toList) := by
      show _ = _
      unfold isW
      rw [h0]
      rfl
    clear h0 hsl hs
    go_enter Tryz.func21, Tryz.ntmps21
    go_wp2
    go_ret
    exact HP.out _ _ HX.out
  · have hne : s.toList.isEmpty = false := by
      rw [Lib.toList_data, List.isEmpty_eq_false_iff]
      exact h0
    have hne2 : (!s.toList.isEmpty) = true := by rw [hne]; rfl
    by_cases h12 : s.size ≤ 12
    · have HX : Hid (decide ((wsz s.data.toList : Int) = (s.size : Int)) = isW s.data.toList) := by
        show _ = _
        unfold isW
        rw [← hsl, Bool.eq_iff_iff]
        simp [h0, h12]
        omega
      have h12i : (s.size : Int) ≤ 12 := by omega
      clear h0 hsl hs h12
      generalize wsz s.data.toList = n at *
      by_cases hq : n = s.size
      · have f1 : ((n : Int) == (s.size : Int)) = true := by rw [hq]; simp
        clear hq
        go_enter Tryz.func21, Tryz.ntmps21
        go_wp2_with fail
        refine (HW.out _).mono ?_
        rintro e w' ⟨rfl, rfl⟩
        go_wp2
        go_ret
        refine HP.out _ _ ?_
        rw [← HX.out]
        simpa using f1
      · have f1 : ((n : Int) == (s.size : Int)) = false := by rw [beq_eq_false_iff_ne]; omega
        clear hq
        go_enter Tryz.func21, Tryz.ntmps21
        go_wp2_with fail
        refine (HW.out _).mono ?_
        rintro e w' ⟨rfl, rfl⟩
        go_wp2
        go_ret
        refine HP.out _ _ ?_
        rw [← HX.out]
        simpa using f1
    · have HX : Hid (false = isW s.data.toList) := by
        show _ = _
        unfold isW
        rw [← hsl, decide_eq_false h12]
        simp
      have h12i : (12 : Int) < (s.size : Int) := by omega
      clear h0 hsl hs h12
      go_enter Tryz.func21, Tryz.ntmps21
      go_wp2
      go_ret
      exact HP.out _ _ HX.out
set_option maxRecDepth 100000 in
theorem rIsWord_any (s : ByteArray) (w : World) (hs : s.size ≤ 140737488355328) : Calls Tryz.prog 23 #[.string s] w (BoS (isW s.data.toList) w) := by
  have hsl : s.size = s.data.toList.length := Lib.size_eq s
  have HP : Hid (∀ v w, v = isW s.data.toList → BoS (isW s.data.toList) w (.returned (.bool v)) w) := fun v w h => BoS.mk h w
  have HW := Lib.hid (fun w => rWord_any s w hs)
  by_cases h0 : s.data.toList = []
  · have hn : s.toList = [] := by rw [Lib.toList_data]; exact h0
    have hn2 : s.toList.isEmpty = true := by rw [hn]; rfl
    have HX : Hid (false = isW s.data.toList) := by
      show _ = _
      unfold isW
      rw [h0]
      rfl
    clear h0 hsl hs
    go_enter Tryz.func23, Tryz.ntmps23
    go_wp2
    go_ret
    exact HP.out _ _ HX.out
  · have hne : s.toList.isEmpty = false := by
      rw [Lib.toList_data, List.isEmpty_eq_false_iff]
      exact h0
    have hne2 : (!s.toList.isEmpty) = true := by rw [hne]; rfl
    have HX : Hid ((decide (wsz s.data.toList = s.size) && decide (s.size ≤ 12)) = isW s.data.toList) := by
      show _ = _
      unfold isW
      rw [← hsl, Bool.and_comm, decide_eq_true h0]
      rfl
    clear h0 hsl hs
    generalize wsz s.data.toList = n at *
    by_cases hq : n = s.size
    · have f1 : ((n : Int) == (s.size : Int)) = true := by rw [hq]; simp
      have HX2 : Hid (decide (s.size ≤ 12) = isW s.data.toList) := by
        show _ = _
        rw [← HX.out, decide_eq_true hq]
        rfl
      clear hq HX
      by_cases h12 : s.size ≤ 12
      · have h12i : (s.size : Int) ≤ 12 := by omega
        have HX3 : Hid (true = isW s.data.toList) := by
          show _ = _
          rw [← HX2.out, decide_eq_true h12]
        clear h12
        go_enter Tryz.func23, Tryz.ntmps23
        go_wp2_with fail
        refine (HW.out _).mono ?_
        rintro e w' ⟨rfl, rfl⟩
        go_wp2
        go_ret
        exact HP.out _ _ (by first | exact HX3.out | (rw [← HX3.out]; simp; omega))
      · have h12i : (12 : Int) < (s.size : Int) := by omega
        have HX3 : Hid (false = isW s.data.toList) := by
          show _ = _
          rw [← HX2.out, decide_eq_false h12]
        clear h12
        go_enter Tryz.func23, Tryz.ntmps23
        go_wp2_with fail
        refine (HW.out _).mono ?_
        rintro e w' ⟨rfl, rfl⟩
        go_wp2
        go_ret
        exact HP.out _ _ (by first | exact HX3.out | (rw [← HX3.out]; simp; omega))
    · have f1 : ((n : Int) == (s.size : Int)) = false := by rw [beq_eq_false_iff_ne]; omega
      have HX3 : Hid (false = isW s.data.toList) := by
        show _ = _
        rw [← HX.out, decide_eq_false hq]
        rfl
      clear hq HX
      go_enter Tryz.func23, Tryz.ntmps23
      go_wp2_with fail
      refine (HW.out _).mono ?_
      rintro e w' ⟨rfl, rfl⟩
      go_wp2
      go_ret
      exact HP.out _ _ (by first | exact HX3.out | (rw [← HX3.out]; simp; omega))

end Go.Proofs.YtaocbhfehncdcaaGreatDoor

namespace Go.Proofs.YtaocbhfehncdcaaGreatDoor
open Go.RowKit Go.MapKept Go.ChangeMaps

/-- A map of numbers in block M: its pairs, in their order. -/
def IMap (M : Nat) (l : List (Nat × Nat)) (w : World) : Prop :=
  ∃ es clock, w.heap[M]? = some (.map es clock) ∧ es.toList.map (fun e => (e.key, e.val)) = l.map (fun p => (Value.int .i64 (p.1 : Int), Value.int .i64 (p.2 : Int)))
def resL (l : List (Nat × Nat)) (n : Nat) : Option Nat := (l.find? (fun p => p.1 == n)).map (·.2)
theorem IMap.block {M : Nat} {l : List (Nat × Nat)} {w w' : World} (h : IMap M l w) (hb : w'.heap[M]? = w.heap[M]?) : IMap M l w' := by
  obtain ⟨es, cl, h1, h2⟩ := h
  exact ⟨es, cl, hb.trans h1, h2⟩
theorem IMap.lt {M : Nat} {l : List (Nat × Nat)} {w : World} (h : IMap M l w) : M < w.heap.size := by
  obtain ⟨es, cl, h1, _⟩ := h
  exact (Array.getElem?_eq_some_iff.1 h1).1
theorem IMap.made (w : World) : IMap w.heap.size [] (w.alloc (.map #[] 0)) := ⟨#[], 0, (heap_alloc w _).1, rfl⟩
theorem findI (n : Nat) : ∀ (es : List MapEntry) (l : List (Nat × Nat)) (j : Nat), es.map (fun e => (e.key, e.val)) = l.map (fun p => (Value.int .i64 (p.1 : Int), Value.int .i64 (p.2 : Int))) →
    (resL l n = none ∧ Instr.findNow (.int .i64) (.int .i64 (n : Int)) es j = some none) ∨ (∃ v i, resL l n = some v ∧ Instr.findNow (.int .i64) (.int .i64 (n : Int)) es j = some (some (i, .int .i64 (v : Int))))
  | [], [], j, _ => .inl ⟨rfl, rfl⟩
  | [], p :: l, j, h => by cases h
  | e :: es, [], j, h => by cases h
  | e :: es, p :: l, j, h => by
    simp only [List.map_cons, List.cons.injEq, Prod.mk.injEq] at h
    obtain ⟨⟨h1, h2⟩, h3⟩ := h
    unfold Instr.findNow
    rw [h1]
    by_cases hp : p.1 = n
    · refine .inr ⟨p.2, j, ?_, ?_⟩
      · unfold resL
        simp [hp]
      · simp [Instr.sameNow, hp, h2]
    · have hne : (p.1 == n) = false := by rw [beq_eq_false_iff_ne]; exact hp
      have hne2 : ((n : Int) == (p.1 : Int)) = false := by rw [beq_eq_false_iff_ne]; omega
      rcases findI n es l (j + 1) h3 with ⟨g1, g2⟩ | ⟨v, i, g1, g2⟩
      · refine .inl ⟨?_, ?_⟩
        · unfold resL at g1 ⊢
          simpa [hne] using g1
        · simp only [Instr.sameNow, if_true, hne2]
          exact g2
      · refine .inr ⟨v, i, ?_, ?_⟩
        · unfold resL at g1 ⊢
          simpa [hne] using g1
        · simp only [Instr.sameNow, if_true, hne2]
          exact g2
theorem IMap.look {P : Program} {w : World} {M : Nat} {l : List (Nat × Nat)} (h : IMap M l w) {t k e : TypeId} (ht : P.underlying t = some (.map k e)) (hk : P.underlying k = some (.int .i64)) {n v : Nat} (hn : resL l n = some v) :
    (Instr.lookup t (.map (some M)) (.int .i64 (n : Int)) true).run P w = .ok (.tuple #[.int .i64 (v : Int), .bool true]) w := by
  obtain ⟨es, cl, h1, h2⟩ := h
  have hkey : IsKey (.int .i64) (.int .i64 (n : Int)) := rfl
  rcases findI n es.toList l 0 h2 with ⟨g1, g2⟩ | ⟨v', i, g1, g2⟩
  · rw [g1] at hn
    cases hn
  · rw [g1] at hn
    cases hn
    simp [Instr.lookup, run_underlying ht, MapKept.run_getObj_map h1, MapKept.run_checkKey hk hkey, MapKept.run_findKey hk g2]
theorem IMap.miss {P : Program} {w : World} {M : Nat} {l : List (Nat × Nat)} (h : IMap M l w) {t k e : TypeId} (ht : P.underlying t = some (.map k e)) (hk : P.underlying k = some (.int .i64)) (hz : (zeroValue e).run P w = .ok (.int .i64 0) w) {n : Nat} (hn : resL l n = none) :
    (Instr.lookup t (.map (some M)) (.int .i64 (n : Int)) true).run P w = .ok (.tuple #[.int .i64 0, .bool false]) w := by
  obtain ⟨es, cl, h1, h2⟩ := h
  have hkey : IsKey (.int .i64) (.int .i64 (n : Int)) := rfl
  rcases findI n es.toList l 0 h2 with ⟨g1, g2⟩ | ⟨v', i, g1, g2⟩
  · simp [Instr.lookup, run_underlying ht, MapKept.run_getObj_map h1, MapKept.run_checkKey hk hkey, MapKept.run_findKey hk g2, hz]
  · rw [g1] at hn
    cases hn

theorem owns_below2 {w w' : World} {base : Nat} {e : TypeId} {size : Nat} {v : Value} {n : Nat} {xs : List Value} (h : w.ownsRow base e size v n xs) (hb : Below w.heap.size w w') : w'.ownsRow base e size v n xs := by
  refine ⟨h.1, ?_⟩
  rcases h.2 with hv | ⟨g, cap, cur, hv, h1, hg, h2⟩
  · exact .inl hv
  · exact .inr ⟨g, cap, cur, hv, h1, (hb.block g (Array.getElem?_eq_some_iff.1 hg).1).trans hg, h2⟩

/-- What a scanner's block holds. -/
structure Sf where
  s : ByteArray
  a : Nat
  b : Nat
  e : Nat
  t : Bool
  tk : Value
  tm : Value
  op : Value
  M : Nat
def Sf.cells (σ : Sf) : Array Value := #[.string σ.s, .int .i64 σ.a, .int .i64 σ.b, .int .i64 σ.e, .bool σ.t, σ.tk, σ.tm, σ.op, .map (some σ.M)]
def Sc (B : Nat) (σ : Sf) (w : World) : Prop := w.heap[B]? = some (.cells σ.cells 96 (0, 0))
theorem Sc.lt {B : Nat} {σ : Sf} {w : World} (h : Sc B σ w) : B < w.heap.size := (Array.getElem?_eq_some_iff.1 h).1
theorem Sc.fields {B : Nat} {σ : Sf} {w : World} (h : Sc B σ w) : w.cell? ⟨B, 0, none⟩ = some (.string σ.s) ∧ w.cell? ⟨B, 1, none⟩ = some (.int .i64 σ.a) ∧ w.cell? ⟨B, 2, none⟩ = some (.int .i64 σ.b) ∧ w.cell? ⟨B, 3, none⟩ = some (.int .i64 σ.e) ∧
    w.cell? ⟨B, 4, none⟩ = some (.bool σ.t) ∧ w.cell? ⟨B, 5, none⟩ = some σ.tk ∧ w.cell? ⟨B, 6, none⟩ = some σ.tm ∧ w.cell? ⟨B, 7, none⟩ = some σ.op ∧ w.cell? ⟨B, 8, none⟩ = some (.map (some σ.M)) := by
  unfold Sc at h
  refine ⟨?_, ?_, ?_, ?_, ?_, ?_, ?_, ?_, ?_⟩ <;> (rw [Lib.cell_of_heap h]; rfl)
theorem Sc.frozen {B : Nat} {σ : Sf} {w : World} (h : Sc B σ w) (i : Nat) : w.frozen? ⟨B, i, none⟩ = false := Lib.frozen_of_heap h i
theorem Sc.later {B : Nat} {σ : Sf} {w w' : World} (h : Sc B σ w) (hb : Below w.heap.size w w') : Sc B σ w' := (hb.block B h.lt).trans h
theorem Sc.drew {B : Nat} {σ : Sf} {w : World} (h : Sc B σ w) (q : Nat) : Sc B σ (w.drewN q) := by
  exact h
theorem Sc.setA {B : Nat} {σ : Sf} {w : World} (h : Sc B σ w) (x : Nat) : Sc B { σ with a := x } (w.setCell ⟨B, 1, none⟩ (.int .i64 (x : Int))) := by
  refine (heap_setCell_same w B _ _ _ _ h).trans ?_
  rfl
theorem Sc.setB {B : Nat} {σ : Sf} {w : World} (h : Sc B σ w) (x : Nat) : Sc B { σ with b := x } (w.setCell ⟨B, 2, none⟩ (.int .i64 (x : Int))) := by
  refine (heap_setCell_same w B _ _ _ _ h).trans ?_
  rfl
theorem Sc.setE {B : Nat} {σ : Sf} {w : World} (h : Sc B σ w) (x : Nat) : Sc B { σ with e := x } (w.setCell ⟨B, 3, none⟩ (.int .i64 (x : Int))) := by
  refine (heap_setCell_same w B _ _ _ _ h).trans ?_
  rfl
theorem Sc.setT {B : Nat} {σ : Sf} {w : World} (h : Sc B σ w) (x : Bool) : Sc B { σ with t := x } (w.setCell ⟨B, 4, none⟩ (.bool x)) := by
  refine (heap_setCell_same w B _ _ _ _ h).trans ?_
  rfl
theorem Sc.setTk {B : Nat} {σ : Sf} {w : World} (h : Sc B σ w) (x : Value) : Sc B { σ with tk := x } (w.setCell ⟨B, 5, none⟩ x) := by
  refine (heap_setCell_same w B _ _ _ _ h).trans ?_
  rfl
theorem Sc.setTm {B : Nat} {σ : Sf} {w : World} (h : Sc B σ w) (x : Value) : Sc B { σ with tm := x } (w.setCell ⟨B, 6, none⟩ x) := by
  refine (heap_setCell_same w B _ _ _ _ h).trans ?_
  rfl
theorem Sc.setOp {B : Nat} {σ : Sf} {w : World} (h : Sc B σ w) (x : Value) : Sc B { σ with op := x } (w.setCell ⟨B, 7, none⟩ x) := by
  refine (heap_setCell_same w B _ _ _ _ h).trans ?_
  rfl

/-- The rows and the map of a scanner: tokens (as cells), what was expected, open braces, where the source goes on. -/
structure Sr where
  tc : List Value
  n : Nat
  tl : List Bool
  ol : List Int
  ml : List (Nat × Nat)
def boolCells (l : List Bool) : List Value := l.map Value.bool
def intCells (l : List Int) : List Value := l.map (Value.int .i64)
/-- A row's block is not block B. -/
theorem row_ne {w : World} {W0 B : Nat} {E : TypeId} {size n : Nat} {v : Value} {xs : List Value} {σ : Sf} (h : w.ownsRow W0 E size v n xs) (hs : Sc B σ w) (hE : E ≠ 96) : some B ≠ v.ownBlock := by
  rcases h.2 with ⟨hv, _⟩ | ⟨g, cap, cur, hv, _, hg, _⟩
  · rw [hv]
    simp [Value.ownBlock]
  · rw [hv]
    simp only [Value.ownBlock, ne_eq, Option.some.injEq]
    rintro rfl
    unfold Sc at hs
    rw [hg] at hs
    simp only [Option.some.injEq, Obj.cells.injEq] at hs
    exact hE hs.2.1
theorem row_set {w : World} {W0 B : Nat} {E : TypeId} {size n : Nat} {v : Value} {xs : List Value} (h : w.ownsRow W0 E size v n xs) (hB : some B ≠ v.ownBlock) (i : Nat) (u : Value) : (w.setCell ⟨B, i, none⟩ u).ownsRow W0 E size v n xs := by
  refine ⟨h.1, ?_⟩
  rcases h.2 with hv | ⟨g, cap, cur, hv, h1, hg, h2⟩
  · exact .inl hv
  · refine .inr ⟨g, cap, cur, hv, h1, ?_, h2⟩
    rw [Below.heap_setCell w ⟨B, i, none⟩ u g ?_]
    · exact hg
    · rintro rfl
      exact hB (by rw [hv]; rfl)
/-- A scanner in block B with all that belongs to it; below W0 nothing is its own. -/
structure IsSc (W0 B : Nat) (σ : Sf) (ρ : Sr) (w : World) : Prop where
  base : W0 ≤ B
  sc : Sc B σ w
  tk : w.ownsRow W0 101 6 σ.tk ρ.n ρ.tc
  tm : w.ownsRow W0 4 1 σ.tm ρ.tl.length (boolCells ρ.tl)
  op : w.ownsRow W0 3 1 σ.op ρ.ol.length (intCells ρ.ol)
  mp : IMap σ.M ρ.ml w
  mb : W0 ≤ σ.M
theorem IsSc.mapNe {W0 B : Nat} {σ : Sf} {ρ : Sr} {w : World} (h : IsSc W0 B σ ρ w) : σ.M ≠ B := by
  intro e
  obtain ⟨es, cl, h1, _⟩ := h.mp
  have h2 := h.sc
  unfold Sc at h2
  rw [e, h2] at h1
  cases h1
theorem IsSc.later {W0 B : Nat} {σ : Sf} {ρ : Sr} {w w' : World} (h : IsSc W0 B σ ρ w) (hb : Below w.heap.size w w') : IsSc W0 B σ ρ w' :=
  ⟨h.base, h.sc.later hb, owns_below2 h.tk hb, owns_below2 h.tm hb, owns_below2 h.op hb, h.mp.block (hb.block _ h.mp.lt), h.mb⟩
theorem IsSc.drew {W0 B : Nat} {σ : Sf} {ρ : Sr} {w : World} (h : IsSc W0 B σ ρ w) (q : Nat) : IsSc W0 B σ ρ (w.drewN q) := h.later (bl_drewN (Below.refl _ _) q)
/-- A cell of the scanner's own block is set, and its rows and map stay. -/
theorem IsSc.set {W0 B : Nat} {σ σ' : Sf} {ρ : Sr} {w : World} (h : IsSc W0 B σ ρ w) (i : Nat) (u : Value) (hs : Sc B σ' (w.setCell ⟨B, i, none⟩ u)) (h1 : σ'.tk = σ.tk) (h2 : σ'.tm = σ.tm) (h3 : σ'.op = σ.op) (h4 : σ'.M = σ.M) : IsSc W0 B σ' ρ (w.setCell ⟨B, i, none⟩ u) := by
  refine ⟨h.base, hs, ?_, ?_, ?_, ?_, by rw [h4]; exact h.mb⟩
  · rw [h1]
    exact row_set h.tk (row_ne h.tk h.sc (by decide)) i u
  · rw [h2]
    exact row_set h.tm (row_ne h.tm h.sc (by decide)) i u
  · rw [h3]
    exact row_set h.op (row_ne h.op h.sc (by decide)) i u
  · rw [h4]
    exact h.mp.block (Below.heap_setCell w ⟨B, i, none⟩ u σ.M h.mapNe)
theorem IsSc.setA {W0 B : Nat} {σ : Sf} {ρ : Sr} {w : World} (h : IsSc W0 B σ ρ w) (x : Nat) : IsSc W0 B { σ with a := x } ρ (w.setCell ⟨B, 1, none⟩ (.int .i64 (x : Int))) := h.set 1 _ (h.sc.setA x) rfl rfl rfl rfl
theorem IsSc.setB {W0 B : Nat} {σ : Sf} {ρ : Sr} {w : World} (h : IsSc W0 B σ ρ w) (x : Nat) : IsSc W0 B { σ with b := x } ρ (w.setCell ⟨B, 2, none⟩ (.int .i64 (x : Int))) := h.set 2 _ (h.sc.setB x) rfl rfl rfl rfl
theorem IsSc.setE {W0 B : Nat} {σ : Sf} {ρ : Sr} {w : World} (h : IsSc W0 B σ ρ w) (x : Nat) : IsSc W0 B { σ with e := x } ρ (w.setCell ⟨B, 3, none⟩ (.int .i64 (x : Int))) := h.set 3 _ (h.sc.setE x) rfl rfl rfl rfl
theorem IsSc.setT {W0 B : Nat} {σ : Sf} {ρ : Sr} {w : World} (h : IsSc W0 B σ ρ w) (x : Bool) : IsSc W0 B { σ with t := x } ρ (w.setCell ⟨B, 4, none⟩ (.bool x)) := h.set 4 _ (h.sc.setT x) rfl rfl rfl rfl

/-- All blocks but B are as they were; new ones may have come. -/
structure But (B : Nat) (w w' : World) : Prop where
  os : w'.os = w.os
  tape : w'.tape = w.tape
  output : w'.output = w.output
  size : w.heap.size ≤ w'.heap.size
  block : ∀ k, k < w.heap.size → k ≠ B → w'.heap[k]? = w.heap[k]?
theorem But.refl (B : Nat) (w : World) : But B w w := ⟨rfl, rfl, rfl, Nat.le_refl _, fun _ _ _ => rfl⟩
theorem But.trans {B : Nat} {a b c : World} (h : But B a b) (k : But B b c) : But B a c :=
  ⟨k.os.trans h.os, k.tape.trans h.tape, k.output.trans h.output, Nat.le_trans h.size k.size, fun i hi hB => (k.block i (Nat.lt_of_lt_of_le hi h.size) hB).trans (h.block i hi hB)⟩
theorem But.drewN {B : Nat} {a w : World} (h : But B a w) (q : Nat) : But B a (w.drewN q) := ⟨h.os, h.tape, h.output, h.size, h.block⟩
theorem But.set {B : Nat} {a w : World} (h : But B a w) (i : Nat) (u : Value) : But B a (w.setCell ⟨B, i, none⟩ u) :=
  ⟨h.os, h.tape, h.output, by rw [World.size_setCell]; exact h.size, fun k hk hB => (Below.heap_setCell w ⟨B, i, none⟩ u k hB).trans (h.block k hk hB)⟩
theorem But.of {B : Nat} {w w' : World} (h : Below w.heap.size w w') : But B w w' := ⟨h.os, h.tape, h.output, h.size, fun k hk _ => h.block k hk⟩
theorem But.below {W0 B : Nat} {w w' : World} (h : But B w w') (hB : W0 ≤ B) (hW : W0 ≤ w.heap.size) : Below W0 w w' := ⟨h.os, h.tape, h.output, h.size, fun k hk => h.block k (Nat.lt_of_lt_of_le hk hW) (by omega)⟩
theorem IsSc.le {W0 B : Nat} {σ : Sf} {ρ : Sr} {w : World} (h : IsSc W0 B σ ρ w) : W0 ≤ w.heap.size := Nat.le_trans h.base (Nat.le_of_lt h.sc.lt)

/-- What a method of a scanner leaves: the scanner with another content, and all other blocks as they were. -/
def ScP (W0 B : Nat) (v : Value) (σ : Sf) (ρ : Sr) (w : World) (e : Ending) (w' : World) : Prop := e = .returned v ∧ IsSc W0 B σ ρ w' ∧ But B w w'

/-- Where a scanner is one byte on. -/
def stp (ml : List (Nat × Nat)) (a : Nat) : Nat := match resL ml (a + 1) with | some x => x | none => a + 1
/-- The lines that are left out lie ahead, in a text of n bytes. -/
def Gd (n : Nat) (ml : List (Nat × Nat)) : Prop := ∀ k x, resL ml k = some x → k ≤ x ∧ x ≤ n
theorem stp_gt {n : Nat} {ml : List (Nat × Nat)} (h : Gd n ml) (a : Nat) : a < stp ml a ∧ (a < n → stp ml a ≤ n) := by
  unfold stp
  cases hr : resL ml (a + 1) with
  | none => exact ⟨by show a < a + 1; omega, fun h => by show a + 1 ≤ n; omega⟩
  | some x =>
    have := h _ _ hr
    exact ⟨by show a < x; omega, fun _ => this.2⟩
set_option maxRecDepth 100000 in
set_option maxHeartbeats 2000000 in
theorem step_any (W0 B : Nat) (σ : Sf) (ρ : Sr) (w : World) (h : IsSc W0 B σ ρ w) (ha2 : σ.a ≤ 1000000) :
    Calls Tryz.prog 146 #[.pointer (some ⟨B, 0, none⟩)] w (ScP W0 B (.tuple #[]) { σ with a := stp ρ.ml σ.a } ρ w) := by
  obtain ⟨s, a, b, e, t, tk, tm, op, M⟩ := σ
  dsimp only at ha2
  obtain ⟨c0, c1, c2, c3, c4, c5, c6, c7, c8⟩ := h.sc.fields
  have fz := h.sc.frozen 1
  have h1 := h.setA (a + 1)
  obtain ⟨d0, d1, d2, d3, d4, d5, d6, d7, d8⟩ := h1.sc.fields
  have fz1 := h1.sc.frozen 1
  have HB : Hid (But B w (w.setCell ⟨B, 1, none⟩ (.int .i64 ((a + 1 : Nat) : Int)))) := (But.refl B w).set 1 _
  have H1 := Lib.hid h1
  dsimp only at *
  rw [show ((a + 1 : Nat) : Int) = (a : Int) + 1 from rfl] at *
  cases hr : resL ρ.ml (a + 1) with
  | none =>
    have HP : Hid (∀ q, ScP W0 B (.tuple #[]) ⟨s, stp ρ.ml a, b, e, t, tk, tm, op, M⟩ ρ w (.returned (.tuple #[])) ((w.setCell ⟨B, 1, none⟩ (.int .i64 ((a : Int) + 1))).drewN q)) := fun q => by
      have : stp ρ.ml a = a + 1 := by unfold stp; rw [hr]
      rw [this]
      exact ⟨rfl, H1.out.drew q, HB.out.drewN q⟩
    have hl : ∀ q, (Instr.lookup 94 (.map (some M)) (.int .i64 ((a : Int) + 1)) true).run Tryz.prog ((w.setCell ⟨B, 1, none⟩ (.int .i64 ((a : Int) + 1))).drewN q) = .ok (.tuple #[.int .i64 0, .bool false]) ((w.setCell ⟨B, 1, none⟩ (.int .i64 ((a : Int) + 1))).drewN q) := fun q =>
      (H1.out.drew q).mp.miss (P := Tryz.prog) Tryz.underlying94 Tryz.underlying3 (Tryz.zeroValue3 _) hr
    have hl0 := hl 0
    clear hr h h1
    go_enter Tryz.func146, Tryz.ntmps146
    go_wp2
    go_quiet (fail)
    go_wp2
    go_end0
    exact HP.out _
  | some x =>
    have HP : Hid (∀ q, ScP W0 B (.tuple #[]) ⟨s, stp ρ.ml a, b, e, t, tk, tm, op, M⟩ ρ w (.returned (.tuple #[])) (((w.setCell ⟨B, 1, none⟩ (.int .i64 ((a : Int) + 1))).drewN q).setCell ⟨B, 1, none⟩ (.int .i64 (x : Int)))) := fun q => by
      have : stp ρ.ml a = x := by unfold stp; rw [hr]
      rw [this]
      exact ⟨rfl, (H1.out.drew q).setA x, (HB.out.drewN q).set 1 _⟩
    have hl : ∀ q, (Instr.lookup 94 (.map (some M)) (.int .i64 ((a : Int) + 1)) true).run Tryz.prog ((w.setCell ⟨B, 1, none⟩ (.int .i64 ((a : Int) + 1))).drewN q) = .ok (.tuple #[.int .i64 (x : Int), .bool true]) ((w.setCell ⟨B, 1, none⟩ (.int .i64 ((a : Int) + 1))).drewN q) := fun q =>
      (H1.out.drew q).mp.look (P := Tryz.prog) Tryz.underlying94 Tryz.underlying3 hr
    have hl0 := hl 0
    clear hr h h1
    go_enter Tryz.func146, Tryz.ntmps146
    go_wp2
    go_quiet (fail)
    go_wp2
    go_end0
    exact HP.out _

end Go.Proofs.YtaocbhfehncdcaaGreatDoor
