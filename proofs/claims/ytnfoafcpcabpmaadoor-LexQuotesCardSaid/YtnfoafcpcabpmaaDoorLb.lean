/-
  The words with which texts begin, lex's and the document's, and IsWord. Conditions: texts of at most 2^47 bytes.
-/
import Derived.Test.YtnfoafcpcabpmaaDoorLa
namespace Go.Proofs.YtnfoafcpcabpmaaDoor
open Go.RowKit

theorem getElem_list2 (s : ByteArray) (k : Nat) (h : k < s.size) : s.data.toList[k]? = some s[k] := by
  rw [Array.getElem?_toList]
  exact Array.getElem?_eq_getElem h
theorem drop_at (s : ByteArray) (l : List UInt8) (hl : s.data.toList = l) (k : Nat) (h : k < s.size) : l.drop k = s[k] :: l.drop (k + 1) := by
  have h1 : k < l.length := by rw [← hl, ← Lib.size_eq]; exact h
  rw [List.drop_eq_getElem_cons h1]
  congr 1
  have := getElem_list2 s k h
  rw [hl, List.getElem?_eq_getElem h1] at this
  exact Option.some.inj this
theorem drop_end (s : ByteArray) (l : List UInt8) (hl : s.data.toList = l) (k : Nat) (h : ¬ k < s.size) : l.drop k = [] :=
  List.drop_eq_nil_of_le (by rw [← hl, ← Lib.size_eq]; omega)
/-- What stands at a place of a text where no word goes on. -/
theorem wT_stop2 {t : List UInt8} (h : ∀ b r, t = b :: r → nmB b = false) (h2 : ([58, 58] : List UInt8).isPrefixOf t = false ∨ t.length ≤ 2 ∨ ∃ a b d r, t = a :: b :: d :: r ∧ stB d = false) : wT t = 0 := by
  refine wT_stop h (fun d r e => ?_)
  subst e
  rcases h2 with h2 | h2 | ⟨a, b, d', r', e, h2⟩
  · simp [List.isPrefixOf] at h2
  · simp at h2
  · simp only [List.cons.injEq] at e
    rw [e.2.2.1]
    exact h2

set_option maxRecDepth 100000 in
set_option maxHeartbeats 2000000 in
theorem wordSize_any (s : ByteArray) (w : World) (hs : s.size ≤ 140737488355328) : Calls Tryd.prog 25 #[.string s] w (InS (wsz s.data.toList) w) := by
  obtain ⟨l, hl⟩ : ∃ l, s.data.toList = l := ⟨_, rfl⟩
  have hsl : s.size = l.length := by rw [← hl, ← Lib.size_eq]
  rw [hl]
  have HST := Lib.hid isStart_any
  have HDG := Lib.hid isDigit_any
  have HP : Hid (∀ n w, n = (wsz l : Int) → InS (wsz l) w (.returned (.int .i64 n)) w) := fun n w h => by
    subst h
    exact ⟨rfl, rfl⟩
  by_cases h0 : s.size = 0
  · have hn : s.toList = [] := by rw [Lib.toList_data]; exact List.eq_nil_of_length_eq_zero (by rw [← Lib.size_eq]; exact h0)
    have hn2 : s.toList.isEmpty = true := by rw [hn]; rfl
    have hw : Hid ((0 : Int) = (wsz l : Int)) := by
      show _ = _
      have : l = [] := List.eq_nil_of_length_eq_zero (by omega)
      rw [this]
      rfl
    clear h0 hs hl hsl HST HDG
    go_enter Tryd.func25, Tryd.ntmps25
    go_wp2
    go_ret
    exact HP.out _ _ hw.out
  have hpos : 0 < s.size := by omega
  have hne : s.toList.isEmpty = false := by
    rw [Lib.toList_data, List.isEmpty_eq_false_iff]
    intro h
    exact h0 (by rw [Lib.size_eq, h]; rfl)
  have hd0 : l = s[0] :: l.drop 1 := by
    have := drop_at s l hl 0 hpos
    simpa using this
  cases hst : stB s[0]
  · have hw : Hid ((0 : Int) = (wsz l : Int)) := by
      show _ = _
      have h := wsz_no (t := l.drop 1) hst
      rw [← hd0] at h
      rw [h]
      rfl
    clear h0 hl hsl hd0
    go_enter Tryd.func25, Tryd.ntmps25
    go_wp2_with (go_at_call 36; refine (HST.out _ _).mono ?_; rintro e w' ⟨rfl, rfl⟩)
    go_ret
    exact HP.out _ _ hw.out
  · have HW : Hid (wsz l = wT (l.drop 1) + 1) := by
      show _ = _
      have h := wsz_yes (t := l.drop 1) hst
      rwa [← hd0] at h
    have HAT : Hid (∀ k (h : k < s.size), l.drop k = s[k] :: l.drop (k + 1)) := fun k h => drop_at s l hl k h
    have HEN : Hid (∀ k, ¬ k < s.size → l.drop k = []) := fun k h => drop_end s l hl k h
    have HPX : Hid (∀ k w, Calls Tryd.prog 38 #[.string (s.extract k s.size), .string ⟨#[58, 58]⟩] w (BoS (([58, 58] : List UInt8).isPrefixOf (l.drop k)) w)) := fun k w => by
      refine (Tryd.strings_HasPrefix (s.extract k s.size) ⟨#[58, 58]⟩ w).mono ?_
      rintro e w' ⟨rfl, rfl⟩
      refine ⟨?_, rfl⟩
      have : (s.extract k s.size).data.toList = l.drop k := by
        rw [Lib.extract_data, hl, hsl]
        exact List.take_of_length_le (by rw [List.length_drop]; omega)
      rw [this]
      rfl
    have HSL := Lib.hid hsl
    clear hl hsl h0 hd0
    go_enter Tryd.func25, Tryd.ntmps25
    go_wp2_with (go_at_call 36; refine (HST.out _ _).mono ?_; rintro e w' ⟨rfl, rfl⟩)
    go_loop [3] (fun n => ∃ k : Nat, k ≤ s.size ∧ n = .int .i64 k ∧ Hid (wsz l = k + wT (l.drop k))) (fun n => s.size - (intOf n).toNat)
    case atStart => exact ⟨1, by omega, rfl, by show _ = _; rw [HW.out]; omega⟩
    case round =>
      obtain ⟨k, hk, rfl, hw⟩ := hrel
      by_cases hlt : k < s.size
      · have hat := HAT.out k hlt
        cases h1 : stB s[k]
        · cases h2 : dgB s[k]
          · have hnm : nmB s[k] = false := by unfold nmB; rw [h1, h2]; rfl
            cases h3 : ([58, 58] : List UInt8).isPrefixOf (l.drop k)
            · have hX : Hid ((k : Int) = (wsz l : Int)) := by
                show _ = _
                rw [hw.out, wT_stop2 (fun b r e => by rw [hat] at e; rw [← (List.cons.inj e).1]; exact hnm) (.inl h3)]
                simp
              clear hat hnm
              have hkle : k ≤ s.size := by omega
              go_wp2_with (first
                | (go_at_call 36; refine (HST.out _ _).mono ?_; rintro e w' ⟨rfl, rfl⟩)
                | (go_at_call 37; refine (HDG.out _ _).mono ?_; rintro e w' ⟨rfl, rfl⟩)
                | (go_at_call 38; refine (HPX.out _ _).mono ?_; rintro e w' ⟨rfl, rfl⟩))
              go_ret
              exact HP.out _ _ hX.out
            · obtain ⟨r0, hr0⟩ := List.isPrefixOf_iff_prefix.1 h3
              by_cases h4 : k + 2 < s.size
              · have ha2 := HAT.out (k + 2) h4
                have hr1 : l.drop (k + 2) = r0 := by
                  have := congrArg (List.drop 2) hr0
                  simp only [List.drop_drop] at this
                  simpa using this.symm
                cases h5 : stB s[k + 2]
                · have hX : Hid ((k : Int) = (wsz l : Int)) := by
                    show _ = _
                    rw [hw.out, wT_stop2 (fun b r e => by rw [hat] at e; rw [← (List.cons.inj e).1]; exact hnm) (.inr (.inr ⟨58, 58, s[k + 2], l.drop (k + 3), by rw [← hr0, ← hr1, ha2]; rfl, h5⟩))]
                    simp
                  clear hat hnm hr0 hr1 ha2
                  have h4i : (k : Int) + 2 < (s.size : Int) := by omega
                  go_wp2_with (first
                    | (go_at_call 36; refine (HST.out _ _).mono ?_; rintro e w' ⟨rfl, rfl⟩)
                    | (go_at_call 37; refine (HDG.out _ _).mono ?_; rintro e w' ⟨rfl, rfl⟩)
                    | (go_at_call 38; refine (HPX.out _ _).mono ?_; rintro e w' ⟨rfl, rfl⟩))
                  go_ret
                  exact HP.out _ _ hX.out
                · have hN : Hid (wsz l = (k + 2) + wT (l.drop (k + 2))) := by
                    show _ = _
                    rw [hw.out, show l.drop k = 58 :: 58 :: s[k + 2] :: l.drop (k + 2 + 1) by rw [← hr0, ← hr1, ha2]; rfl, wT_col h5, ha2]
                    omega
                  clear hat hnm hr0 hr1 ha2
                  have h4i : (k : Int) + 2 < (s.size : Int) := by omega
                  go_wp2_with (first
                    | (go_at_call 36; refine (HST.out _ _).mono ?_; rintro e w' ⟨rfl, rfl⟩)
                    | (go_at_call 37; refine (HDG.out _ _).mono ?_; rintro e w' ⟨rfl, rfl⟩)
                    | (go_at_call 38; refine (HPX.out _ _).mono ?_; rintro e w' ⟨rfl, rfl⟩))
                  go_round
                  case rel => exact ⟨k + 2, by omega, by go_num, hN⟩
                  case measure => simp [intOf]; omega
              · have hX : Hid ((k : Int) = (wsz l : Int)) := by
                  show _ = _
                  rw [hw.out, wT_stop2 (fun b r e => by rw [hat] at e; rw [← (List.cons.inj e).1]; exact hnm) (.inr (.inl (by rw [List.length_drop, ← HSL.out]; omega)))]
                  simp
                clear hat hnm hr0
                have h4i : (s.size : Int) ≤ (k : Int) + 2 := by omega
                go_wp2_with (first
                  | (go_at_call 36; refine (HST.out _ _).mono ?_; rintro e w' ⟨rfl, rfl⟩)
                  | (go_at_call 37; refine (HDG.out _ _).mono ?_; rintro e w' ⟨rfl, rfl⟩)
                  | (go_at_call 38; refine (HPX.out _ _).mono ?_; rintro e w' ⟨rfl, rfl⟩))
                go_ret
                exact HP.out _ _ hX.out
          · have hN : Hid (wsz l = (k + 1) + wT (l.drop (k + 1))) := by
              show _ = _
              rw [hw.out, hat, wT_name (by unfold nmB; rw [h1, h2]; rfl)]
              omega
            clear hat
            go_wp2_with (first
              | (go_at_call 36; refine (HST.out _ _).mono ?_; rintro e w' ⟨rfl, rfl⟩)
              | (go_at_call 37; refine (HDG.out _ _).mono ?_; rintro e w' ⟨rfl, rfl⟩))
            go_round
            case rel => exact ⟨k + 1, by omega, by go_num, hN⟩
            case measure => simp [intOf]; omega
        · have hN : Hid (wsz l = (k + 1) + wT (l.drop (k + 1))) := by
            show _ = _
            rw [hw.out, hat, wT_name (by unfold nmB; rw [h1]; rfl)]
            omega
          clear hat
          go_wp2_with (go_at_call 36; refine (HST.out _ _).mono ?_; rintro e w' ⟨rfl, rfl⟩)
          go_round
          case rel => exact ⟨k + 1, by omega, by go_num, hN⟩
          case measure => simp [intOf]; omega
      · have hX : Hid ((k : Int) = (wsz l : Int)) := by
          show _ = _
          rw [hw.out, HEN.out k hlt]
          simp [wT]
        go_wp2
        go_ret
        exact HP.out _ _ hX.out

end Go.Proofs.YtnfoafcpcabpmaaDoor
