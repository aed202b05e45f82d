/-
  The document's Spans. No condition.
-/
import Derived.Test.YtdjpjknbbedamaaCt
namespace Go.Proofs.Ytdjpjknbbedamaa
open Go.RowKit

theorem wp_last (A : List (Nat × Nat)) (a y : Nat) : flatS (A ++ [(a, y)]) = flatS A ++ [.int .i64 a, .int .i64 y] := by
  rw [flatS, List.flatMap_append]
  rfl
theorem flatS_len (l : List (Nat × Nat)) : (flatS l).length = 2 * l.length := by
  induction l with
  | nil => rfl
  | cons x l ih =>
    show (_ :: _ :: flatS l).length = _
    simp only [List.length_cons, ih]
    omega
theorem cut_len (l : List (Nat × Nat)) (c : Nat) : (cutS l c).length ≤ l.length := by
  induction l with
  | nil => exact Nat.le_refl _
  | cons p l ih =>
    obtain ⟨a, b⟩ := p
    rw [cutS]
    split
    · exact Nat.zero_le _
    · split
      · simp
      · simp only [List.length_cons]; omega

theorem cl_noany (i : Nat) (hi : i < 7) : ((clN i).toList == [97, 110, 121]) = false := by
  match i, hi with
  | 0, _ => rw [Lib.toList_data]; rfl
  | 1, _ => rw [Lib.toList_data]; rfl
  | 2, _ => rw [Lib.toList_data]; rfl
  | 3, _ => rw [Lib.toList_data]; rfl
  | 4, _ => rw [Lib.toList_data]; rfl
  | 5, _ => rw [Lib.toList_data]; rfl
  | 6, _ => rw [Lib.toList_data]; rfl
theorem cut_zero (l : List (Nat × Nat)) : cutS l 0 = [] := by
  cases l with
  | nil => rfl
  | cons p l =>
    obtain ⟨a, b⟩ := p
    rw [cutS, if_pos (Nat.zero_le _)]

theorem news1 (w : World) (a b : Value) (t : TypeId) : ∀ (j : Nat) (u : Value), [a, b][j]? = some u → (w.alloc (.cells #[a, b] t)).cell? ((⟨w.heap.size, 0, none⟩ : Addr).add j) = some u := fun j u hu => by
  have h : (w.alloc (.cells #[a, b] t)).heap[w.heap.size]? = some (.cells #[a, b] t (0, 0)) := heap_alloc_last w _
  have hadd : (⟨w.heap.size, 0, none⟩ : Addr).add j = ⟨w.heap.size, j, none⟩ := by unfold Addr.add; split <;> simp_all
  rw [hadd, cell_of_row _ _ j _ t (0, 0) h]
  simpa using hu
theorem cl_sur (i : Nat) (hi : i < 7) (c : Nat) (h2 : c ≤ 65535) (h : isCI c = false) : inS (clS i) c = false := by
  have h3 : 55296 ≤ c ∧ c ≤ 57343 := by
    by_cases h4 : 55296 ≤ c ∧ c ≤ 57343
    · exact h4
    · have := isCI_iff (n := (c : Int)).2 ⟨by omega, by omega, by omega⟩
      rw [h] at this
      cases this
  rw [Bool.eq_false_iff]
  intro e
  match i, hi with
  | 0, _ => simp only [inS, clS, List.any_cons, List.any_nil, Bool.or_eq_true, decide_eq_true_eq, Bool.or_false] at e; omega
  | 1, _ => simp only [inS, clS, List.any_cons, List.any_nil, Bool.or_eq_true, decide_eq_true_eq, Bool.or_false] at e; omega
  | 2, _ => simp only [inS, clS, List.any_cons, List.any_nil, Bool.or_eq_true, decide_eq_true_eq, Bool.or_false] at e; omega
  | 3, _ => simp only [inS, clS, List.any_cons, List.any_nil, Bool.or_eq_true, decide_eq_true_eq, Bool.or_false] at e; omega
  | 4, _ => simp only [inS, clS, List.any_cons, List.any_nil, decide_eq_true_eq, Bool.or_false] at e; omega
  | 5, _ => simp only [inS, clS, List.any_cons, List.any_nil, Bool.or_eq_true, decide_eq_true_eq, Bool.or_false] at e; omega
  | 6, _ => simp only [inS, clS, List.any_cons, List.any_nil, Bool.or_eq_true, decide_eq_true_eq, Bool.or_false] at e; omega
set_option maxRecDepth 100000 in
set_option maxHeartbeats 1000000 in
theorem rspans_ok (i : Nat) (hi7 : i < 7) (w : World) :
    Calls Try.prog 22 #[.string (clN i)] w fun e w' => ∃ v, e = .returned (.tuple #[v, .int .i64 0]) ∧ SpRow w.heap.size v (clS i) w' ∧ Below w.heap.size w w' := by
  obtain ⟨i0, hi, hz0, hz1, hz2⟩ := info_parts info40
  have H1 := Lib.hid (fun w => IsClass_at i (by omega) w)
  have H2 := Lib.hid (fun c w => IsChar_any c w)
  have H3 := Lib.hid (fun c (h : isCI c = true) w => In_at i (by omega) c h w)
  have HNA : Hid (((clN i).toList == [97, 110, 121]) = false) := by
    show _ = false
    exact cl_noany i hi7
  have HST := Lib.hid (fun c => cut_step (clS i) (clS_sep i (by omega)) c)
  have HEND := Lib.hid (clS_cut i hi7)
  have HSU := Lib.hid (fun c => cl_sur i hi7 c)
  have HLE : Hid (∀ c, (cutS (clS i) c).length ≤ 22) := fun c => Nat.le_trans (cut_len _ _) (clS_len i (by omega))
  have H00 : Hid (cutS (clS i) 0 = []) := by
    show _ = _
    exact cut_zero _
  have HBR := Lib.hid (Below.refl w.heap.size w)
  generalize clN i = s at *
  generalize clS i = l at *
  have hna := HNA.out
  go_enter Try.func22, Try.ntmps22
  go_wp2_with fail
  refine (H1.out _).mono ?_
  rintro e w' ⟨rfl, rfl⟩
  go_wp2_with fail
  go_loopw [4, 5] (fun v x wr => ∃ (c : Nat) (ao : Option Addr) (cv : Nat), c ≤ 65536 ∧ x = .int .i64 c ∧ v = .slice ao (cutS l c).length cv ∧ wr.ownsRow w.heap.size 40 2 v (cutS l c).length (flatS (cutS l c)) ∧ Hid (Below w.heap.size w wr)) (fun _ x _ => 65536 - (intOf x).toNat)
  case atStart => exact ⟨0, none, 0, Nat.zero_le _, rfl, by rw [H00.out]; rfl, by rw [H00.out]; exact World.ownsRow_nil _ _ _ _, HBR⟩
  case round =>
    obtain ⟨c, ao, cv, hc, rfl, rfl, hown, hbl⟩ := hrel
    have hfl := HLE.out c
    by_cases hlt : c ≤ 65535
    · have HCH := Lib.hid (H2.out (c : Int))
      rcases HST.out c with ⟨hno, hcut⟩ | ⟨hyes, hcase⟩
      · have HCUT := Lib.hid hcut
        have HO := Lib.hid hown
        clear hcut hown
        cases hch : isCI c with
        | false =>
          rw [hch] at HCH
          clear hno hch
          go_wp2_with fail
          refine (HCH.out _).mono ?_
          rintro e w' ⟨rfl, rfl⟩
          go_wp2
          go_roundw
          case rel => exact ⟨c + 1, ao, cv, by omega, by go_num, by rw [HCUT.out], by rw [HCUT.out]; exact HO.out, hbl⟩
          case measure => simp [intOf]; omega
        | true =>
          have H4 := Lib.hid (H3.out (c : Int) hch)
          rw [hch] at HCH
          rw [hno] at H4
          clear hno hch
          go_wp2_with fail
          refine (HCH.out _).mono ?_
          rintro e w' ⟨rfl, rfl⟩
          go_wp2_with fail
          refine (H4.out _).mono ?_
          rintro e w' ⟨rfl, rfl⟩
          go_wp2
          go_roundw
          case rel => exact ⟨c + 1, ao, cv, by omega, by go_num, by rw [HCUT.out], by rw [HCUT.out]; exact HO.out, hbl⟩
          case measure => simp [intOf]; omega
      · cases hch : isCI c with
        | false =>
          rw [HSU.out c hlt hch] at hyes
          cases hyes
        | true =>
          have H4 := Lib.hid (H3.out (c : Int) hch)
          rw [hch] at HCH
          rw [hyes] at H4
          clear hyes hch
          rcases hcase with ⟨A, a, y, hA, hy, hcut⟩ | ⟨hlast, hcut, _⟩
          · have HC1 := Lib.hid hcut
            clear hcut
            generalize hC : cutS l c = C at *
            have HCC := Lib.hid hC
            clear hC
            subst hA
            obtain ⟨ao', cv', e1, hcl⟩ := SpRow.read ⟨hown, ao, cv, rfl⟩
            injection e1 with e1 e2 e3
            subst e1 e3
            obtain ⟨b, rfl, c0, c1⟩ := hcl wr (Below.refl _ _) A.length (by simp)
            rw [List.getElem_append_right (Nat.le_refl _)] at c0 c1
            simp only [Nat.sub_self, List.getElem_cons_zero] at c0 c1
            have hfr : wr.frozen? ⟨b, A.length * 2 + 1, none⟩ = false := hown.frozenAt _
            have hst := hown.stored (A.length * 2 + 1) (.int .i64 (c : Int))
            have hbb : w.heap.size ≤ b := (hown.lt b rfl).1
            have HB5 : Hid (Below w.heap.size w (wr.setCell ⟨b, A.length * 2 + 1, none⟩ (.int .i64 (c : Int)))) := hbl.out.setCell (p := ⟨b, A.length * 2 + 1, none⟩) hbb _
            have HO5 : Hid ((wr.setCell ⟨b, A.length * 2 + 1, none⟩ (.int .i64 (c : Int))).ownsRow w.heap.size 40 2 (.slice (some ⟨b, 0, none⟩) (cutS l (c + 1)).length cv) (cutS l (c + 1)).length (flatS (cutS l (c + 1)))) := by
              show World.ownsRow _ _ _ _ _ _ _
              have h5 := hst.1
              rw [HC1.out, wp_last]
              rw [wp_last, List.set_append_right _ _ (by rw [flatS_len]; omega), flatS_len, show A.length * 2 + 1 - 2 * A.length = 1 by omega] at h5
              simp only [List.length_append, List.length_cons, List.length_nil] at h5 ⊢
              exact h5
            have HL5 : Hid ((cutS l (c + 1)).length = A.length + 1) := by
              show _ = _
              rw [HC1.out]
              simp
            clear hst hcl hown hbb
            generalize hn : (A ++ [(a, y)]).length = n at *
            obtain rfl : n = A.length + 1 := by rw [← hn]; simp
            clear hn
            have hy2 : (y : Int) = (c : Int) - 1 := by omega
            go_wp2_with fail
            refine (HCH.out _).mono ?_
            rintro e w' ⟨rfl, rfl⟩
            go_wp2_with fail
            refine (H4.out _).mono ?_
            rintro e w' ⟨rfl, rfl⟩
            go_wp2
            go_roundw
            case rel => exact ⟨c + 1, _, _, by omega, by go_num, by rw [HL5.out], by rw [← HL5.out]; exact HO5.out, HB5⟩
            case measure => simp [intOf]; omega
          · have HC1 := Lib.hid hcut
            clear hcut
            generalize hC : cutS l c = C at *
            have HCC := Lib.hid hC
            clear hC
            rcases List.eq_nil_or_concat C with hnil | ⟨A, p, hcc⟩
            · subst hnil
              clear hlast
              go_wp2_with fail
              refine (HCH.out _).mono ?_
              rintro e w' ⟨rfl, rfl⟩
              go_wp2_with fail
              refine (H4.out _).mono ?_
              rintro e w' ⟨rfl, rfl⟩
              go_wp2_with (first
                | (at_builtin; refine wpList_append_own _ rfl _ _ 36 rfl w.heap.size 40 i0 (.agg #[.int .i64 0, .int .i64 0]) 2 16 Try.underlying36 hi hz0 hz1 hz2 rfl (by decide) _ _ _ rfl (hown.alloc _) _ 1 1 [.int .i64 (c : Int), .int .i64 (c : Int)] rfl rfl (news1 _ _ _ _) (fun u hu => by simp at hu; subst hu; rfl) (by first | decide | simp [maxLen]) (by first | decide | simp) (by have := hbl.out.size; simp; omega) ?_; intro v' w4 hown' hgrow' hnil'))
              have hb4 : Hid (Below w.heap.size w w4) := (hbl.out.alloc hbl.out.size _).grown hgrow' (by have := hbl.out.size; simp; omega) (fun q hq => (hown.lt q hq).1)
              have HO4 : Hid (w4.ownsRow w.heap.size 40 2 v' (cutS l (c + 1)).length (flatS (cutS l (c + 1)))) := by
                show World.ownsRow _ _ _ _ _ _ _
                rw [HC1.out]
                exact hown'
              obtain ⟨ao2, cv2, rfl⟩ := form_any2 HO4.out
              clear hown' hgrow' hnil' hown
              go_wp2
              go_roundw
              case rel => exact ⟨c + 1, ao2, cv2, by omega, by go_num, rfl, HO4.out, hb4⟩
              case measure => simp [intOf]; omega
            · obtain ⟨x, y⟩ := p
              rw [List.concat_eq_append] at hcc
              have hyc := hlast A x y hcc
              subst hcc
              clear hlast
              obtain ⟨ao', cv', e1, hcl⟩ := SpRow.read ⟨hown, ao, cv, rfl⟩
              injection e1 with e1 e2 e3
              subst e1 e3
              obtain ⟨b, rfl, c0, c1⟩ := hcl wr (Below.refl _ _) A.length (by simp)
              rw [List.getElem_append_right (Nat.le_refl _)] at c0 c1
              simp only [Nat.sub_self, List.getElem_cons_zero] at c0 c1
              clear hcl
              generalize hn : (A ++ [(x, y)]).length = n at *
              obtain rfl : n = A.length + 1 := by rw [← hn]; simp
              have HN := Lib.hid hn
              clear hn
              go_wp2_with fail
              refine (HCH.out _).mono ?_
              rintro e w' ⟨rfl, rfl⟩
              go_wp2_with fail
              refine (H4.out _).mono ?_
              rintro e w' ⟨rfl, rfl⟩
              go_wp2_with (first
                | (at_builtin; refine wpList_append_own _ rfl _ _ 36 rfl w.heap.size 40 i0 (.agg #[.int .i64 0, .int .i64 0]) 2 16 Try.underlying36 hi hz0 hz1 hz2 rfl (by decide) _ _ _ rfl (hown.alloc _) _ 1 1 [.int .i64 (c : Int), .int .i64 (c : Int)] rfl rfl (news1 _ _ _ _) (fun u hu => by simp at hu; subst hu; rfl) (by unfold maxLen; omega) (by omega) (by have := hbl.out.size; simp; omega) ?_; intro v' w4 hown' hgrow' hnil'))
              have hb4 : Hid (Below w.heap.size w w4) := (hbl.out.alloc hbl.out.size _).grown hgrow' (by have := hbl.out.size; simp; omega) (fun q hq => (hown.lt q hq).1)
              have HO4 : Hid (w4.ownsRow w.heap.size 40 2 v' (cutS l (c + 1)).length (flatS (cutS l (c + 1)))) := by
                show World.ownsRow _ _ _ _ _ _ _
                rw [HC1.out, wp_last (A ++ [(x, y)]) c c, List.length_append, HN.out]
                exact hown'
              obtain ⟨ao2, cv2, rfl⟩ := form_any2 HO4.out
              clear hown' hgrow' hnil' hown
              go_wp2
              go_roundw
              case rel => exact ⟨c + 1, ao2, cv2, by omega, by go_num, rfl, HO4.out, hb4⟩
              case measure => simp [intOf]; omega
    · obtain rfl : c = 65536 := by omega
      have HO := Lib.hid hown
      clear hown
      go_wp2
      go_ret2
      have := HO.out
      rw [HEND.out] at this
      refine ⟨_, rfl, ?_, hbl.out⟩
      rw [HEND.out]
      exact ⟨this, ao, cv, rfl⟩

end Go.Proofs.Ytdjpjknbbedamaa
