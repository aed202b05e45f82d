/-
  The walks of num.Range and of the document's Range. Conditions: strconv's table of powers of ten as it is laid.
-/
import Derived.Test.YtmlifgngdilplaaDoorRng
namespace Go.Proofs.YtmlifgngdilplaaDoor
open Go.RowKit

theorem str_ne {s t : ByteArray} (h : s ≠ t) : (s.toList == t.toList) = false := by
  rw [Lib.toList_data, Lib.toList_data, beq_eq_false_iff_ne]
  intro e
  apply h
  rw [← bs_of s, ← bs_of t, e]

theorem texts_form {b : Nat} {L : List ByteArray} {s : ByteArray} {w : World} {v : Value} (h : w.ownsRow b 9 1 v (L.length + 1) (L.map Value.string ++ [.string s])) : ∃ ao cv, v = .slice ao (L.length + 1) cv := by
  rcases h.2 with ⟨_, h0⟩ | ⟨g, cap, _, hv, _⟩
  · omega
  · exact ⟨_, cap, hv⟩

theorem texts_more {b : Nat} {L : List ByteArray} {s : ByteArray} {w : World} {v : Value} (h : w.ownsRow b 9 1 v (L.length + 1) (L.map Value.string ++ [.string s])) : Texts b v (L ++ [s]) w := by
  refine ⟨by rw [List.map_append, List.length_append]; exact h, ?_⟩
  rcases h.2 with ⟨_, h0⟩ | ⟨g, cap, _, hv, _⟩
  · omega
  · exact ⟨_, cap, by rw [hv, List.length_append]; rfl⟩

set_option maxRecDepth 100000 in
set_option maxHeartbeats 1600000 in
theorem rRange_any (s0 tt : ByteArray) (w : World) (hs0 : s0.size ≤ 140737488355328) (ht0 : tt.size ≤ 140737488355328) : Calls Tryd.prog 37 #[.string s0, .string tt] w (RngP (rngR s0 tt) w) := by
  obtain ⟨i0, hi, hz0, hz1, hz2⟩ := info_parts info9
  have HP : Hid (∀ v k L w', (L, k) = rngR s0 tt → Below w.heap.size w w' → Texts w.heap.size v L w' → RngP (rngR s0 tt) w (.returned (.tuple #[v, .int .i64 k])) w') := by
    intro v k L w' h hb hT
    rw [← h]
    exact ⟨v, rfl, hb, hT⟩
  by_cases hbig : 4096 < s0.size ∨ 4096 < tt.size
  · have HR : Hid (([], 3) = rngR s0 tt) := by show _ = _; unfold rngR; rw [if_pos hbig]
    clear hi hz0 hz1 hz2
    by_cases h1 : 4096 < s0.size
    · go_enter Tryd.func37, Tryd.ntmps37
      go_wp2
      go_ret2
      exact HP.out _ _ _ _ HR.out (Below.refl _ _) (Texts.nil _ _)
    · have h2 : 4096 < tt.size := by omega
      clear hbig
      go_enter Tryd.func37, Tryd.ntmps37
      go_wp2
      go_ret2
      exact HP.out _ _ _ _ HR.out (Below.refl _ _) (Texts.nil _ _)
  · have h1 : s0.size ≤ 4096 := by omega
    have h2 : tt.size ≤ 4096 := by omega
    have HR : Hid (rng 200 s0 tt [] = rngR s0 tt) := by show _ = _; unfold rngR; rw [if_neg hbig]
    clear hbig
    generalize rngR s0 tt = R at *
    go_enter Tryd.func37, Tryd.ntmps37
    go_wp2_with fail
    go_loopw [6, 7] (fun v x wr => ∃ (f : Nat) (s : ByteArray) (L : List ByteArray) (ao : Option Addr) (cv : Nat), f + L.length = 200 ∧ x = .string s ∧ v = .slice ao L.length cv ∧ s.size ≤ 140737488355328 ∧ wr.ownsRow w.heap.size 9 1 v L.length (L.map Value.string) ∧ Below w.heap.size w wr ∧ Hid (rng f s tt L = R)) (fun v _ _ => 200 - sliceLen v)
    case atStart => exact ⟨200, s0, [], none, 0, by simp, rfl, rfl, by omega, World.ownsRow_nil _ _ _ _, Below.refl _ _, HR⟩
    case round =>
      obtain ⟨f, s, L, ao, cv, hf, rfl, rfl, hsz, hown, hnx, hr⟩ := hrel
      have hsize := hnx.size
      by_cases hle : s.size ≤ tt.size
      · cases f with
        | zero =>
          have HF := Lib.hid (rng_full s tt L hle)
          have hl2 : L.length = 200 := by omega
          rw [hr.out] at HF
          have HB := Lib.hid hnx
          clear hown hnx hr hi hz0 hz1 hz2 hf
          go_wp2
          go_ret2
          exact HP.out _ _ _ _ HF.out.symm HB.out (Texts.nil _ _)
        | succ f =>
          have hlen : L.length < 200 := by omega
          have hl3 : ((L.length : Int) == 200) = false := by simp; omega
          have HB := Lib.hid hnx
          have HS := Lib.hid hsize
          have HOWN := Lib.hid hown
          by_cases he : s = tt
          · subst he
            have HF := Lib.hid (rng_last f s L)
            rw [hr.out] at HF
            clear hr hf
            go_wp2_with (first
              | (at_builtin; refine wpList_append_own _ rfl _ _ 46 rfl w.heap.size 9 i0 (.string ByteArray.empty) 1 16 Tryd.underlying46 hi hz0 hz1 hz2 rfl (by decide) _ _ _ rfl (hown.alloc _) ⟨wr.heap.size, 0, none⟩ 1 1 [.string s] rfl rfl (cell_one_new _ _ _) (fun x hx => by simp at hx; subst hx; rfl) (by unfold maxLen; omega) (by omega) (by simp; omega) ?_; intro v' w3 hown' hgrow3 hnil3))
            have hb3 : Below w.heap.size w w3 := (HB.out.alloc HS.out _).grown hgrow3 (by have := HS.out; simp; omega) (fun q hq => (HOWN.out.lt q hq).1)
            go_ret2
            exact HP.out _ _ _ _ HF.out.symm hb3 (texts_more hown')
          · have HF := Lib.hid (rng_more f s tt L hle he)
            rw [hr.out] at HF
            have HFU := Lib.hid (fun w => further_any s w (by omega))
            have hnl := nxT_le s.data.toList (by rw [← size_list]; omega)
            rw [← bs_size] at hnl
            have HNB : Hid (nxB s = bs (nxT s.data.toList)) := rfl
            rw [← HNB.out] at hnl HFU
            generalize nxB s = N at *
            have hse := str_ne he
            clear hr
            go_wp2_with (first
              | (at_builtin; refine wpList_append_own _ rfl _ _ 46 rfl w.heap.size 9 i0 (.string ByteArray.empty) 1 16 Tryd.underlying46 hi hz0 hz1 hz2 rfl (by decide) _ _ _ rfl (hown.alloc _) ⟨wr.heap.size, 0, none⟩ 1 1 [.string s] rfl rfl (cell_one_new _ _ _) (fun x hx => by simp at hx; subst hx; rfl) (by unfold maxLen; omega) (by omega) (by simp; omega) ?_; intro v' w3 hown' hgrow3 hnil3))
            have hb3 : Hid (Below w.heap.size w w3) := (HB.out.alloc HS.out _).grown hgrow3 (by have := HS.out; simp; omega) (fun q hq => (HOWN.out.lt q hq).1)
            obtain ⟨ao2, cv2, rfl⟩ := texts_form hown'
            have HTX : Hid (Texts w.heap.size (.slice ao2 (L.length + 1) cv2) (L ++ [s]) w3) := texts_more hown'
            clear hown' hown hgrow3 hnil3
            refine (HFU.out _).mono ?_
            rintro e w' ⟨rfl, rfl⟩
            go_wp2
            go_roundw
            case rel => exact ⟨f, N, L ++ [s], ao2, cv2, by rw [List.length_append, List.length_singleton]; omega, rfl, by rw [List.length_append]; rfl, by omega, HTX.out.1, hb3.out, HF.out.symm⟩
            case measure => simp [sliceLen]; omega
      · have HF := Lib.hid (rng_out f s tt L hle)
        rw [hr.out] at HF
        have HB := Lib.hid hnx
        have HT : Hid (Texts w.heap.size (.slice ao L.length cv) L wr) := ⟨hown, ao, cv, rfl⟩
        clear hown hnx hr hi hz0 hz1 hz2 hf
        go_wp2
        go_ret2
        exact HP.out _ _ _ _ HF.out.symm HB.out HT.out

set_option maxRecDepth 100000 in
set_option maxHeartbeats 1600000 in
theorem nRange_any (s0 tt : ByteArray) (w : World) (hs0 : s0.size ≤ 140737488355328) (ht0 : tt.size ≤ 140737488355328) (htab : Tab w) : Calls Tryd.prog 36 #[.string s0, .string tt] w (RngP (rngR s0 tt) w) := by
  obtain ⟨i0, hi, hz0, hz1, hz2⟩ := info_parts info9
  have HTAB : Hid (∀ w', Below w.heap.size w w' → Tab w') := fun w' h => htab.later h
  clear htab
  have HP : Hid (∀ v k L w', (L, k) = rngR s0 tt → Below w.heap.size w w' → Texts w.heap.size v L w' → RngP (rngR s0 tt) w (.returned (.tuple #[v, .int .i64 k])) w') := by
    intro v k L w' h hb hT
    rw [← h]
    exact ⟨v, rfl, hb, hT⟩
  by_cases hbig : 4096 < s0.size ∨ 4096 < tt.size
  · have HR : Hid (([], 3) = rngR s0 tt) := by show _ = _; unfold rngR; rw [if_pos hbig]
    clear hi hz0 hz1 hz2
    by_cases h1 : 4096 < s0.size
    · go_enter Tryd.func36, Tryd.ntmps36
      go_wp2
      go_ret2
      exact HP.out _ _ _ _ HR.out (Below.refl _ _) (Texts.nil _ _)
    · have h2 : 4096 < tt.size := by omega
      clear hbig
      go_enter Tryd.func36, Tryd.ntmps36
      go_wp2
      go_ret2
      exact HP.out _ _ _ _ HR.out (Below.refl _ _) (Texts.nil _ _)
  · have h1 : s0.size ≤ 4096 := by omega
    have h2 : tt.size ≤ 4096 := by omega
    have HR : Hid (rng 200 s0 tt [] = rngR s0 tt) := by show _ = _; unfold rngR; rw [if_neg hbig]
    clear hbig
    generalize rngR s0 tt = R at *
    go_enter Tryd.func36, Tryd.ntmps36
    go_wp2_with fail
    go_loopw [6, 7] (fun v x wr => ∃ (f : Nat) (s : ByteArray) (L : List ByteArray) (ao : Option Addr) (cv : Nat), f + L.length = 200 ∧ x = .string s ∧ v = .slice ao L.length cv ∧ s.size ≤ 140737488355328 ∧ wr.ownsRow w.heap.size 9 1 v L.length (L.map Value.string) ∧ Below w.heap.size w wr ∧ Hid (rng f s tt L = R)) (fun v _ _ => 200 - sliceLen v)
    case atStart => exact ⟨200, s0, [], none, 0, by simp, rfl, rfl, by omega, World.ownsRow_nil _ _ _ _, Below.refl _ _, HR⟩
    case round =>
      obtain ⟨f, s, L, ao, cv, hf, rfl, rfl, hsz, hown, hnx, hr⟩ := hrel
      have hsize := hnx.size
      by_cases hle : s.size ≤ tt.size
      · cases f with
        | zero =>
          have HF := Lib.hid (rng_full s tt L hle)
          have hl2 : L.length = 200 := by omega
          rw [hr.out] at HF
          have HB := Lib.hid hnx
          clear hown hnx hr hi hz0 hz1 hz2 hf
          go_wp2
          go_ret2
          exact HP.out _ _ _ _ HF.out.symm HB.out (Texts.nil _ _)
        | succ f =>
          have hlen : L.length < 200 := by omega
          have hl3 : ((L.length : Int) == 200) = false := by simp; omega
          have HB := Lib.hid hnx
          have HS := Lib.hid hsize
          have HOWN := Lib.hid hown
          by_cases he : s = tt
          · subst he
            have HF := Lib.hid (rng_last f s L)
            rw [hr.out] at HF
            clear hr hf
            go_wp2_with (first
              | (at_builtin; refine wpList_append_own _ rfl _ _ 46 rfl w.heap.size 9 i0 (.string ByteArray.empty) 1 16 Tryd.underlying46 hi hz0 hz1 hz2 rfl (by decide) _ _ _ rfl (hown.alloc _) ⟨wr.heap.size, 0, none⟩ 1 1 [.string s] rfl rfl (cell_one_new _ _ _) (fun x hx => by simp at hx; subst hx; rfl) (by unfold maxLen; omega) (by omega) (by simp; omega) ?_; intro v' w3 hown' hgrow3 hnil3))
            have hb3 : Below w.heap.size w w3 := (HB.out.alloc HS.out _).grown hgrow3 (by have := HS.out; simp; omega) (fun q hq => (HOWN.out.lt q hq).1)
            go_ret2
            exact HP.out _ _ _ _ HF.out.symm hb3 (texts_more hown')
          · have HF := Lib.hid (rng_more f s tt L hle he)
            rw [hr.out] at HF
            have HFU := Lib.hid (fun w h => nNext_any s w h)
            have hs4 : ¬ 4096 < s.size := by omega
            by_cases hbig : 4096 < (nxT s.data.toList).length
            · have HE : Hid (nxE s = 3) := by show _ = _; unfold nxE; rw [if_neg hs4, if_pos hbig]
              have HO : Hid (rng f (nxB s) tt (L ++ [s]) = (L ++ [s], 0)) := rng_out _ _ _ _ (by unfold nxB; rw [bs_size]; omega)
              rw [HE.out] at HFU
              rw [HO.out] at HF
              clear hbig hs4
              generalize nxV s = N at *
              have hse := str_ne he
              clear hr
              go_wp2_with (first
                | (at_builtin; refine wpList_append_own _ rfl _ _ 46 rfl w.heap.size 9 i0 (.string ByteArray.empty) 1 16 Tryd.underlying46 hi hz0 hz1 hz2 rfl (by decide) _ _ _ rfl (hown.alloc _) ⟨wr.heap.size, 0, none⟩ 1 1 [.string s] rfl rfl (cell_one_new _ _ _) (fun x hx => by simp at hx; subst hx; rfl) (by unfold maxLen; omega) (by omega) (by simp; omega) ?_; intro v' w3 hown' hgrow3 hnil3))
              have hb3 : Hid (Below w.heap.size w w3) := (HB.out.alloc HS.out _).grown hgrow3 (by have := HS.out; simp; omega) (fun q hq => (HOWN.out.lt q hq).1)
              obtain ⟨ao2, cv2, rfl⟩ := texts_form hown'
              have HTX : Hid (Texts w.heap.size (.slice ao2 (L.length + 1) cv2) (L ++ [s]) w3) := texts_more hown'
              clear hown' hown hgrow3 hnil3
              refine (HFU.out _ (HTAB.out _ hb3.out)).mono ?_
              rintro e w4 ⟨rfl, hb4⟩
              have HB4 : Hid (Below w.heap.size w w4) := hb3.out.trans (hb4.mono hb3.out.size)
              have HO4 : Hid (Texts w.heap.size (.slice ao2 (L.length + 1) cv2) (L ++ [s]) w4) := HTX.out.later hb4
              clear hb4
              go_wp2
              go_ret2
              exact HP.out _ _ _ _ HF.out.symm HB4.out HO4.out
            · have hnl : (nxB s).size ≤ 4096 := by unfold nxB; rw [bs_size]; omega
              have HE : Hid (nxE s = 0) := by show _ = _; unfold nxE; rw [if_neg hs4, if_neg hbig]
              have HV : Hid (nxV s = nxB s) := by show _ = _; unfold nxV; rw [if_neg hs4, if_neg hbig]; rfl
              rw [HE.out, HV.out] at HFU
              clear hbig hs4
              generalize nxB s = N at *
              have hse := str_ne he
              clear hr
              go_wp2_with (first
                | (at_builtin; refine wpList_append_own _ rfl _ _ 46 rfl w.heap.size 9 i0 (.string ByteArray.empty) 1 16 Tryd.underlying46 hi hz0 hz1 hz2 rfl (by decide) _ _ _ rfl (hown.alloc _) ⟨wr.heap.size, 0, none⟩ 1 1 [.string s] rfl rfl (cell_one_new _ _ _) (fun x hx => by simp at hx; subst hx; rfl) (by unfold maxLen; omega) (by omega) (by simp; omega) ?_; intro v' w3 hown' hgrow3 hnil3))
              have hb3 : Hid (Below w.heap.size w w3) := (HB.out.alloc HS.out _).grown hgrow3 (by have := HS.out; simp; omega) (fun q hq => (HOWN.out.lt q hq).1)
              obtain ⟨ao2, cv2, rfl⟩ := texts_form hown'
              have HTX : Hid (Texts w.heap.size (.slice ao2 (L.length + 1) cv2) (L ++ [s]) w3) := texts_more hown'
              clear hown' hown hgrow3 hnil3
              refine (HFU.out _ (HTAB.out _ hb3.out)).mono ?_
              rintro e w4 ⟨rfl, hb4⟩
              have HB4 : Hid (Below w.heap.size w w4) := hb3.out.trans (hb4.mono hb3.out.size)
              have HO4 : Hid (Texts w.heap.size (.slice ao2 (L.length + 1) cv2) (L ++ [s]) w4) := HTX.out.later hb4
              clear hb4
              go_wp2
              go_roundw
              case rel => exact ⟨f, N, L ++ [s], ao2, cv2, by rw [List.length_append, List.length_singleton]; omega, rfl, by rw [List.length_append]; rfl, by omega, HO4.out.1, HB4.out, HF.out.symm⟩
              case measure => simp [sliceLen]; omega
      · have HF := Lib.hid (rng_out f s tt L hle)
        rw [hr.out] at HF
        have HB := Lib.hid hnx
        have HT : Hid (Texts w.heap.size (.slice ao L.length cv) L wr) := ⟨hown, ao, cv, rfl⟩
        clear hown hnx hr hi hz0 hz1 hz2 hf
        go_wp2
        go_ret2
        exact HP.out _ _ _ _ HF.out.symm HB.out HT.out

end Go.Proofs.YtmlifgngdilplaaDoor
