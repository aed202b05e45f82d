/-
  The walk of CharsForms: the small, capital, title and folded forms, and the document's. No condition.
-/
import Derived.Test.YtdjpjknbbedamaaFt
namespace Go.Proofs.Ytdjpjknbbedamaa
open Go.RowKit

def StrE (x : ByteArray) (v : Int) (w : World) (e : Ending) (w' : World) : Prop := e = .returned (.tuple #[.string x, .int .i64 v]) ∧ Below w.heap.size w w'

set_option maxRecDepth 100000 in
set_option maxHeartbeats 4000000 in
theorem forms_go (s A U T F A2 F2 : ByteArray) (eA eU eT eF eA2 eF2 : Int) (w : World) (hz : ¬ 20000 < s.size)
    (H1 : Hid (∀ w, Calls Try.prog 23 #[.string s] w (StrE A eA w))) (H2 : Hid (∀ w, Calls Try.prog 24 #[.string s] w (StrE A eA w)))
    (H3 : Hid (∀ w, Calls Try.prog 25 #[.string s] w (StrE U eU w))) (H4 : Hid (∀ w, Calls Try.prog 26 #[.string s] w (StrE U eU w)))
    (H5 : Hid (∀ w, Calls Try.prog 27 #[.string s] w (StrE T eT w))) (H6 : Hid (∀ w, Calls Try.prog 28 #[.string s] w (StrE T eT w)))
    (H7 : Hid (∀ w, Calls Try.prog 29 #[.string s] w (StrE F eF w))) (H8 : Hid (∀ w, Calls Try.prog 30 #[.string s] w (StrE F eF w)))
    (H9 : Hid (∀ w, Calls Try.prog 23 #[.string A] w (StrE A2 eA2 w))) (H10 : Hid (∀ w, Calls Try.prog 29 #[.string F] w (StrE F2 eF2 w)))
    (hA : (eA ≠ 0) ∨ (eA = 0 ∧ eA2 = 0 ∧ A2 = A)) (hF : (eF ≠ 0) ∨ (eF = 0 ∧ eF2 = 0 ∧ F2 = F)) :
    Calls Try.prog 6 #[.string s] w (KnownPost w) := by
  have HKN := Lib.hid known_any
  rcases hA with hA | ⟨rfl, rfl, rfl⟩ <;> rcases hF with hF | ⟨rfl, rfl, rfl⟩
  all_goals
    try have hA' : (eA != 0) = true := by simpa using hA
    try have hF' : (eF != 0) = true := by simpa using hF
    try clear hA
    try clear hF
    go_enter Try.func6, Try.ntmps6
    go_wp2_with fail
    refine (H1.out _).mono ?_
    rintro e w1 ⟨rfl, hb1⟩
    have HB1 := Lib.hid hb1
    clear hb1
    go_wp2_with fail
    refine (H2.out _).mono ?_
    rintro e w2 ⟨rfl, hb2⟩
    have HB2 : Hid (Below w.heap.size w w2) := HB1.out.trans (hb2.mono HB1.out.size)
    clear hb2
    go_wp2_with fail
    refine (H3.out _).mono ?_
    rintro e w3 ⟨rfl, hb3⟩
    have HB3 : Hid (Below w.heap.size w w3) := HB2.out.trans (hb3.mono HB2.out.size)
    clear hb3
    go_wp2_with fail
    refine (H4.out _).mono ?_
    rintro e w4 ⟨rfl, hb4⟩
    have HB4 : Hid (Below w.heap.size w w4) := HB3.out.trans (hb4.mono HB3.out.size)
    clear hb4
    go_wp2_with fail
    refine (H5.out _).mono ?_
    rintro e w5 ⟨rfl, hb5⟩
    have HB5 : Hid (Below w.heap.size w w5) := HB4.out.trans (hb5.mono HB4.out.size)
    clear hb5
    go_wp2_with fail
    refine (H6.out _).mono ?_
    rintro e w6 ⟨rfl, hb6⟩
    have HB6 : Hid (Below w.heap.size w w6) := HB5.out.trans (hb6.mono HB5.out.size)
    clear hb6
    go_wp2_with fail
    refine (H7.out _).mono ?_
    rintro e w7 ⟨rfl, hb7⟩
    have HB7 : Hid (Below w.heap.size w w7) := HB6.out.trans (hb7.mono HB6.out.size)
    clear hb7
    go_wp2_with fail
    refine (H8.out _).mono ?_
    rintro e w8 ⟨rfl, hb8⟩
    have HB8 : Hid (Below w.heap.size w w8) := HB7.out.trans (hb8.mono HB7.out.size)
    clear hb8
    go_wp2_with fail
    refine (H9.out _).mono ?_
    rintro e w9 ⟨rfl, hb9⟩
    have HB9 : Hid (Below w.heap.size w w9) := HB8.out.trans (hb9.mono HB8.out.size)
    clear hb9
    go_wp2_with fail
    refine (H10.out _).mono ?_
    rintro e w10 ⟨rfl, hb10⟩
    have HB10 : Hid (Below w.heap.size w w10) := HB9.out.trans (hb10.mono HB9.out.size)
    clear hb10
    go_wp2_with fail
    refine (HKN.out _).mono ?_
    rintro e w11 ⟨rfl, hb11⟩
    have HB11 : Hid (Below w.heap.size w w11) := HB10.out.trans (hb11.mono HB10.out.size)
    clear hb11
    go_wp2
    go_ret
    exact ⟨rfl, HB11.out⟩

theorem again (g : Nat → List Nat) (hg : ∀ c, isC c = true → allC (g c)) (hi : ∀ c, (g c).flatMap g = g c) (L : List Nat) (hC : allC L) :
    ∃ M, allC M ∧ bs (frmL g L) = bs (ens M) ∧ (ens M).length ≤ 4096 ∧ ((frmE g L ≠ 0) ∨ (frmE g L = 0 ∧ frmE g M = 0 ∧ bs (frmL g M) = bs (frmL g L))) := by
  by_cases h : 4096 < (ens (L.flatMap g)).length
  · refine ⟨[], (fun c h => by cases h), ?_, by decide, .inl ?_⟩
    · unfold frmL szL
      rw [if_pos h]
      rfl
    · unfold frmE szE
      rw [if_pos h]
      decide
  · have hM : (L.flatMap g).flatMap g = L.flatMap g := by
      rw [List.flatMap_assoc]
      congr 1
      funext c
      exact hi c
    refine ⟨L.flatMap g, flat_allC hg hC, ?_, by omega, .inr ⟨?_, ?_, ?_⟩⟩
    · unfold frmL szL
      rw [if_neg h]
    · unfold frmE szE
      rw [if_neg h]
    · unfold frmE
      rw [hM]
      unfold szE
      rw [if_neg h]
    · unfold frmL
      rw [hM]
theorem smF_idem (c : Nat) : (smF c).flatMap smF = smF c := by
  simp [smF, smC_idem]

theorem charsForms_walk (s : ByteArray) (_hs0 : s.size ≤ maxLen) (w : World) : Calls Try.prog 6 #[.string s] w (KnownPost w) := by
  clear _hs0
  by_cases hz : 20000 < s.size
  · have HKN := Lib.hid known_any
    go_enter Try.func6, Try.ntmps6
    go_wp2_with fail
    refine (HKN.out _).mono ?_
    rintro e w3 ⟨rfl, hb3⟩
    have HB3 := Lib.hid hb3
    clear hb3
    go_wp2
    go_ret
    exact ⟨rfl, HB3.out⟩
  · rcases ckE_cases s with ⟨hck, hs4, L, hC, hl⟩ | ⟨hck, hx⟩
    · obtain ⟨MA, hMA, eA, lA, cA⟩ := again smF (fun c h => smF_allC h) smF_idem L hC
      obtain ⟨MF, hMF, eF, lF, cF⟩ := again fdC (fun c h => fdC_allC h) fdC_idem L hC
      have hs : s = bs (ens L) := by rw [← hl, bs_of]
      have hT : ∀ w, Calls Try.prog 27 #[.string s] w (StrE (bs (szL (ens (ttL L)))) (szE (ens (ttL L))) w) := fun w => by
        rw [hs]
        exact Title_ok L hC (by rw [← bs_size, ← hs]; exact hs4) w
      have h9 : ∀ w, Calls Try.prog 23 #[.string (bs (frmL smF L))] w (StrE (bs (frmL smF MA)) (frmE smF MA) w) := fun w => by
        rw [eA]
        exact Lower_ok _ MA hMA (bs_list _) (by rw [bs_size]; exact lA) w
      have h10 : ∀ w, Calls Try.prog 29 #[.string (bs (frmL fdC L))] w (StrE (bs (frmL fdC MF)) (frmE fdC MF) w) := fun w => by
        rw [eF]
        exact Fold_ok _ MF hMF (bs_list _) (by rw [bs_size]; exact lF) w
      exact forms_go s (bs (frmL smF L)) (bs (frmL cpC L)) (bs (szL (ens (ttL L)))) (bs (frmL fdC L)) (bs (frmL smF MA)) (bs (frmL fdC MF)) (frmE smF L) (frmE cpC L) (szE (ens (ttL L))) (frmE fdC L) (frmE smF MA) (frmE fdC MF) w hz
        (fun w => Lower_ok s L hC hl hs4 w) (fun w => rLower_ok s L hC hl hs4 w) (fun w => Upper_ok s L hC hl hs4 w) (fun w => rUpper_ok s L hC hl hs4 w)
        hT (fun w => rTitle_ok s L hC hl hs4 w) (fun w => Fold_ok s L hC hl hs4 w) (fun w => rFold_ok s L hC hl hs4 w) h9 h10 cA cF
    · have h9 : ∀ w, Calls Try.prog 23 #[.string (bs [])] w (StrE (bs (frmL smF [])) (frmE smF []) w) := fun w => Lower_ok _ [] (fun c h => by cases h) (bs_list _) (by rw [bs_size]; decide) w
      have h10 : ∀ w, Calls Try.prog 29 #[.string (bs [])] w (StrE (bs (frmL fdC [])) (frmE fdC []) w) := fun w => Fold_ok _ [] (fun c h => by cases h) (bs_list _) (by rw [bs_size]; decide) w
      exact forms_go s (bs []) (bs []) (bs []) (bs []) (bs (frmL smF [])) (bs (frmL fdC [])) (ckE s) (ckE s) (ckE s) (ckE s) (frmE smF []) (frmE fdC []) w hz
        (fun w => Lower_bad s hck w) (fun w => rLower_bad s hck w) (fun w => Upper_bad s hck w) (fun w => rUpper_bad s hck w)
        (fun w => Title_bad s hck w) (fun w => rTitle_bad s hck w) (fun w => Fold_bad s hck w) (fun w => rFold_bad s hck w) h9 h10 (.inl hck) (.inl hck)

end Go.Proofs.Ytdjpjknbbedamaa
