/-
  The document's word, and IsWord, lex's and the document's. Conditions: texts of at most 2^47 bytes.
-/
import Derived.Test.YtnfoafcpcabpmaaDoorLb
namespace Go.Proofs.YtnfoafcpcabpmaaDoor
open Go.RowKit

set_option maxRecDepth 100000 in
set_option maxHeartbeats 2000000 in
theorem rWord_any (s : ByteArray) (w : World) (hs : s.size ≤ 140737488355328) : Calls Tryd.prog 26 #[.string s] w (InS (wsz s.data.toList) w) := by
  obtain ⟨l, hl⟩ : ∃ l, s.data.toList = l := ⟨_, rfl⟩
  have hsl : s.size = l.length := by rw [← hl, ← Lib.size_eq]
  rw [hl]
  have HST := Lib.hid isAlpha_any
  have HDG := Lib.hid rIsDigit_any
  have HP : Hid (∀ n w, n = (wsz l : Int) → InS (wsz l) w (.returned (.int .i64 n)) w) := fun n w h => by
    subst h
    exact ⟨rfl, rfl⟩
  by_cases h0 : s.size = 0
  · have hn : s.toList = [] := by rw [Lib.toList_data]; exact List.eq_nil_of_length_eq_zero (by rw [← Lib.size_eq]; exact h0)
    have hn2 : s.toList.isEmpty = true := by rw [hn]; rfl
    have hw : Hid ((0 : Int) = (wsz l : Int)) := by
      show _ = _
      have : l = [] := List.eq_nil_of_length_eq_zero (by omega)
      rw [this]
      rfl
    clear h0 hs hl hsl HST HDG
    go_enter Tryd.func26, Tryd.ntmps26
    go_wp2
    go_ret
    exact HP.out _ _ hw.out
  have hpos : 0 < s.size := by omega
  have hne : s.toList.isEmpty = false := by
    rw [Lib.toList_data, List.isEmpty_eq_false_iff]
    intro h
    exact h0 (by rw [Lib.size_eq, h]; rfl)
  have hd0 : l = s[0] :: l.drop 1 := by
    have := drop_at s l hl 0 hpos
    simpa using this
  cases hst : stB s[0]
  · have hw : Hid ((0 : Int) = (wsz l : Int)) := by
      show _ = _
      have h := wsz_no (t := l.drop 1) hst
      rw [← hd0] at h
      rw [h]
      rfl
    clear h0 hl hsl hd0
    go_enter Tryd.func26, Tryd.ntmps26
    go_wp2_with (go_at_call 39; refine (HST.out _ _).mono ?_; rintro e w' ⟨rfl, rfl⟩)
    go_ret
    exact HP.out _ _ hw.out
  · have HW : Hid (wsz l = wT (l.drop 1) + 1) := by
      show _ = _
      have h := wsz_yes (t := l.drop 1) hst
      rwa [← hd0] at h
    have HAT : Hid (∀ k (h : k < s.size), l.drop k = s[k] :: l.drop (k + 1)) := fun k h => drop_at s l hl k h
    have HEN : Hid (∀ k, ¬ k < s.size → l.drop k = []) := fun k h => drop_end s l hl k h
    have HSL := Lib.hid hsl
    clear hl hsl h0 hd0
    go_enter Tryd.func26, Tryd.ntmps26
    go_wp2_with (go_at_call 39; refine (HST.out _ _).mono ?_; rintro e w' ⟨rfl, rfl⟩)
    go_loop [3] (fun n => ∃ k : Nat, k ≤ s.size ∧ n = .int .i64 k ∧ Hid (wsz l = k + wT (l.drop k))) (fun n => s.size - (intOf n).toNat)
    case atStart => exact ⟨1, by omega, rfl, by show _ = _; rw [HW.out]; omega⟩
    case round =>
      obtain ⟨k, hk, rfl, hw⟩ := hrel
      by_cases hlt : k < s.size
      · have hat := HAT.out k hlt
        cases h1 : stB s[k]
        · cases h2 : dgB s[k]
          · have hnm : nmB s[k] = false := by unfold nmB; rw [h1, h2]; rfl
            have hstop : (([58, 58] : List UInt8).isPrefixOf (l.drop k) = false ∨ (l.drop k).length ≤ 2 ∨ ∃ a b d r, l.drop k = a :: b :: d :: r ∧ stB d = false) → Hid ((k : Int) = (wsz l : Int)) := fun h => by
              show _ = _
              rw [hw.out, wT_stop2 (fun b r e => by rw [hat] at e; rw [← (List.cons.inj e).1]; exact hnm) h]
              simp
            have HSTOP := Lib.hid hstop
            clear hstop
            by_cases h4 : k + 2 < s.size
            · have ha1 := HAT.out (k + 1) (by omega)
              have ha2 := HAT.out (k + 2) h4
              have h4i : (k : Int) + 2 < (s.size : Int) := by omega
              have hd3 : l.drop k = s[k] :: s[k + 1] :: s[k + 2] :: l.drop (k + 2 + 1) := by
                rw [hat, ha1]
                congr 2
              by_cases c1 : s[k] = 58
              · have c1n : s[k].toNat = 58 := by rw [c1]; rfl
                have f1 : ((s[k].toNat : Int) == 58) = true := by rw [c1n]; rfl
                by_cases c2 : s[k + 1] = 58
                · have c2n : s[k + 1].toNat = 58 := by rw [c2]; rfl
                  have f2 : ((s[k + 1].toNat : Int) == 58) = true := by rw [c2n]; rfl
                  cases h5 : stB s[k + 2]
                  · have hX := HSTOP.out (.inr (.inr ⟨_, _, _, _, hd3, h5⟩))
                    clear hat hnm ha1 ha2 hd3 c1 c2 c1n c2n
                    go_wp2_with (first
                      | (go_at_call 39; refine (HST.out _ _).mono ?_; rintro e w' ⟨rfl, rfl⟩)
                      | (go_at_call 40; refine (HDG.out _ _).mono ?_; rintro e w' ⟨rfl, rfl⟩))
                    go_ret
                    exact HP.out _ _ hX.out
                  · have hN : Hid (wsz l = (k + 3) + wT (l.drop (k + 2 + 1))) := by
                      show _ = _
                      rw [hw.out, hd3, c1, c2, wT_col h5, wT_name (by unfold nmB; rw [h5]; rfl)]
                      omega
                    clear hat hnm ha1 ha2 hd3 c1 c2 c1n c2n
                    go_wp2_with (first
                      | (go_at_call 39; refine (HST.out _ _).mono ?_; rintro e w' ⟨rfl, rfl⟩)
                      | (go_at_call 40; refine (HDG.out _ _).mono ?_; rintro e w' ⟨rfl, rfl⟩))
                    go_round
                    case rel => exact ⟨k + 3, by omega, by go_num, hN⟩
                    case measure => simp [intOf]; omega
                · have f2 : ((s[k + 1].toNat : Int) == 58) = false := by
                    rw [beq_eq_false_iff_ne]
                    intro h
                    exact c2 (UInt8.toNat_inj.1 (by show _ = 58; omega))
                  have hX := HSTOP.out (.inl (by rw [hd3]; simp [List.isPrefixOf]; intro _ h; exact absurd h.symm c2))
                  clear hat hnm ha1 ha2 hd3 c1 c2 c1n
                  go_wp2_with (first
                    | (go_at_call 39; refine (HST.out _ _).mono ?_; rintro e w' ⟨rfl, rfl⟩)
                    | (go_at_call 40; refine (HDG.out _ _).mono ?_; rintro e w' ⟨rfl, rfl⟩))
                  go_ret
                  exact HP.out _ _ hX.out
              · have f1 : ((s[k].toNat : Int) == 58) = false := by
                  rw [beq_eq_false_iff_ne]
                  intro h
                  exact c1 (UInt8.toNat_inj.1 (by show _ = 58; omega))
                have hX := HSTOP.out (.inl (by rw [hd3]; simp [List.isPrefixOf]; intro h; exact absurd h.symm c1))
                clear hat hnm ha1 ha2 hd3 c1
                go_wp2_with (first
                  | (go_at_call 39; refine (HST.out _ _).mono ?_; rintro e w' ⟨rfl, rfl⟩)
                  | (go_at_call 40; refine (HDG.out _ _).mono ?_; rintro e w' ⟨rfl, rfl⟩))
                go_ret
                exact HP.out _ _ hX.out
            · have hX := HSTOP.out (.inr (.inl (by rw [List.length_drop, ← HSL.out]; omega)))
              have h4i : (s.size : Int) ≤ (k : Int) + 2 := by omega
              clear hat hnm
              go_wp2_with (first
                | (go_at_call 39; refine (HST.out _ _).mono ?_; rintro e w' ⟨rfl, rfl⟩)
                | (go_at_call 40; refine (HDG.out _ _).mono ?_; rintro e w' ⟨rfl, rfl⟩))
              go_ret
              exact HP.out _ _ hX.out
          · have hN : Hid (wsz l = (k + 1) + wT (l.drop (k + 1))) := by
              show _ = _
              rw [hw.out, hat, wT_name (by unfold nmB; rw [h1, h2]; rfl)]
              omega
            clear hat
            go_wp2_with (first
              | (go_at_call 39; refine (HST.out _ _).mono ?_; rintro e w' ⟨rfl, rfl⟩)
              | (go_at_call 40; refine (HDG.out _ _).mono ?_; rintro e w' ⟨rfl, rfl⟩))
            go_round
            case rel => exact ⟨k + 1, by omega, by go_num, hN⟩
            case measure => simp [intOf]; omega
        · have hN : Hid (wsz l = (k + 1) + wT (l.drop (k + 1))) := by
            show _ = _
            rw [hw.out, hat, wT_name (by unfold nmB; rw [h1]; rfl)]
            omega
          clear hat
          go_wp2_with (go_at_call 39; refine (HST.out _ _).mono ?_; rintro e w' ⟨rfl, rfl⟩)
          go_round
          case rel => exact ⟨k + 1, by omega, by go_num, hN⟩
          case measure => simp [intOf]; omega
      · have hX : Hid ((k : Int) = (wsz l : Int)) := by
          show _ = _
          rw [hw.out, HEN.out k hlt]
          simp [wT]
        go_wp2
        go_ret
        exact HP.out _ _ hX.out

/-- Whether a text is a word that is not too long. -/
def isW (l : List UInt8) : Bool := decide (l ≠ []) && decide (l.length ≤ 12) && decide (wsz l = l.length)
set_option maxRecDepth 100000 in
theorem IsWord_any (s : ByteArray) (w : World) (hs : s.size ≤ 140737488355328) : Calls Tryd.prog 15 #[.string s] w (BoS (isW s.data.toList) w) := by
  have hsl : s.size = s.data.toList.length := Lib.size_eq s
  have HP : Hid (∀ v w, v = isW s.data.toList → BoS (isW s.data.toList) w (.returned (.bool v)) w) := fun v w h => BoS.mk h w
  have HW := Lib.hid (fun w => wordSize_any s w hs)
  by_cases h0 : s.data.toList = []
  · have hn : s.toList = [] := by rw [Lib.toList_data]; exact h0
    have hn2 : s.toList.isEmpty = true := by rw [hn]; rfl
    have HX : Hid (false = isW s.data.toList) := by
      show _ = _
      unfold isW
      rw [h0]
      rfl
    clear h0 hsl hs
    go_enter Tryd.func15, Tryd.ntmps15
    go_wp2
    go_ret
    exact HP.out _ _ HX.out
  · have hne : s.toList.isEmpty = false := by
      rw [Lib.toList_data, List.isEmpty_eq_false_iff]
      exact h0
    have hne2 : (!s.toList.isEmpty) = true := by rw [hne]; rfl
    by_cases h12 : s.size ≤ 12
    · have HX : Hid (decide ((wsz s.data.toList : Int) = (s.size : Int)) = isW s.data.toList) := by
        show _ = _
        unfold isW
        rw [← hsl, Bool.eq_iff_iff]
        simp [h0, h12]
        omega
      have h12i : (s.size : Int) ≤ 12 := by omega
      clear h0 hsl hs h12
      generalize wsz s.data.toList = n at *
      by_cases hq : n = s.size
      · have f1 : ((n : Int) == (s.size : Int)) = true := by rw [hq]; simp
        clear hq
        go_enter Tryd.func15, Tryd.ntmps15
        go_wp2_with fail
        refine (HW.out _).mono ?_
        rintro e w' ⟨rfl, rfl⟩
        go_wp2
        go_ret
        refine HP.out _ _ ?_
        rw [← HX.out]
        simpa using f1
      · have f1 : ((n : Int) == (s.size : Int)) = false := by rw [beq_eq_false_iff_ne]; omega
        clear hq
        go_enter Tryd.func15, Tryd.ntmps15
        go_wp2_with fail
        refine (HW.out _).mono ?_
        rintro e w' ⟨rfl, rfl⟩
        go_wp2
        go_ret
        refine HP.out _ _ ?_
        rw [← HX.out]
        simpa using f1
    · have HX : Hid (false = isW s.data.toList) := by
        show _ = _
        unfold isW
        rw [← hsl, decide_eq_false h12]
        simp
      have h12i : (12 : Int) < (s.size : Int) := by omega
      clear h0 hsl hs h12
      go_enter Tryd.func15, Tryd.ntmps15
      go_wp2
      go_ret
      exact HP.out _ _ HX.out
set_option maxRecDepth 100000 in
theorem rIsWord_any (s : ByteArray) (w : World) (hs : s.size ≤ 140737488355328) : Calls Tryd.prog 16 #[.string s] w (BoS (isW s.data.toList) w) := by
  have hsl : s.size = s.data.toList.length := Lib.size_eq s
  have HP : Hid (∀ v w, v = isW s.data.toList → BoS (isW s.data.toList) w (.returned (.bool v)) w) := fun v w h => BoS.mk h w
  have HW := Lib.hid (fun w => rWord_any s w hs)
  by_cases h0 : s.data.toList = []
  · have hn : s.toList = [] := by rw [Lib.toList_data]; exact h0
    have hn2 : s.toList.isEmpty = true := by rw [hn]; rfl
    have HX : Hid (false = isW s.data.toList) := by
      show _ = _
      unfold isW
      rw [h0]
      rfl
    clear h0 hsl hs
    go_enter Tryd.func16, Tryd.ntmps16
    go_wp2
    go_ret
    exact HP.out _ _ HX.out
  · have hne : s.toList.isEmpty = false := by
      rw [Lib.toList_data, List.isEmpty_eq_false_iff]
      exact h0
    have hne2 : (!s.toList.isEmpty) = true := by rw [hne]; rfl
    have HX : Hid ((decide (wsz s.data.toList = s.size) && decide (s.size ≤ 12)) = isW s.data.toList) := by
      show _ = _
      unfold isW
      rw [← hsl, Bool.and_comm, decide_eq_true h0]
      rfl
    clear h0 hsl hs
    generalize wsz s.data.toList = n at *
    by_cases hq : n = s.size
    · have f1 : ((n : Int) == (s.size : Int)) = true := by rw [hq]; simp
      have HX2 : Hid (decide (s.size ≤ 12) = isW s.data.toList) := by
        show _ = _
        rw [← HX.out, decide_eq_true hq]
        rfl
      clear hq HX
      by_cases h12 : s.size ≤ 12
      · have h12i : (s.size : Int) ≤ 12 := by omega
        have HX3 : Hid (true = isW s.data.toList) := by
          show _ = _
          rw [← HX2.out, decide_eq_true h12]
        clear h12
        go_enter Tryd.func16, Tryd.ntmps16
        go_wp2_with fail
        refine (HW.out _).mono ?_
        rintro e w' ⟨rfl, rfl⟩
        go_wp2
        go_ret
        exact HP.out _ _ (by first | exact HX3.out | (rw [← HX3.out]; simp; omega))
      · have h12i : (12 : Int) < (s.size : Int) := by omega
        have HX3 : Hid (false = isW s.data.toList) := by
          show _ = _
          rw [← HX2.out, decide_eq_false h12]
        clear h12
        go_enter Tryd.func16, Tryd.ntmps16
        go_wp2_with fail
        refine (HW.out _).mono ?_
        rintro e w' ⟨rfl, rfl⟩
        go_wp2
        go_ret
        exact HP.out _ _ (by first | exact HX3.out | (rw [← HX3.out]; simp; omega))
    · have f1 : ((n : Int) == (s.size : Int)) = false := by rw [beq_eq_false_iff_ne]; omega
      have HX3 : Hid (false = isW s.data.toList) := by
        show _ = _
        rw [← HX.out, decide_eq_false hq]
        rfl
      clear hq HX
      go_enter Tryd.func16, Tryd.ntmps16
      go_wp2_with fail
      refine (HW.out _).mono ?_
      rintro e w' ⟨rfl, rfl⟩
      go_wp2
      go_ret
      exact HP.out _ _ (by first | exact HX3.out | (rw [← HX3.out]; simp; omega))

end Go.Proofs.YtnfoafcpcabpmaaDoor
