/-
  Whether two texts have one fold: chars.SameFold and the document's; the walk of CharsFolds. No condition.
-/
import Derived.Test.YtdjpjknbbedamaaFs
import Derived.Test.YtdjpjknbbedamaaRj
namespace Go.Proofs.Ytdjpjknbbedamaa
open Go.RowKit

/-- A truth and an error. -/
def BoolE (b : Bool) (x : Int) (w : World) (e : Ending) (w' : World) : Prop := e = .returned (.tuple #[.bool b, .int .i64 x]) ∧ Below w.heap.size w w'

theorem sameFold_bad (s t : ByteArray) (hb : ck2 (ckE s) (ckE t) ≠ 0) (w : World) : Calls Try.prog 31 #[.string s, .string t] w (BoolE false (ck2 (ckE s) (ckE t)) w) := by
  have HK := Lib.hid (fun w => check2_any s t w)
  have hn : (ck2 (ckE s) (ckE t) != 0) = true := by simpa using hb
  have HP : Hid (∀ w w', Below w.heap.size w w' → BoolE false (ck2 (ckE s) (ckE t)) w (.returned (.tuple #[.bool false, .int .i64 (ck2 (ckE s) (ckE t))])) w') := fun w w' h => ⟨rfl, h⟩
  clear hb
  generalize ck2 (ckE s) (ckE t) = x at *
  go_enter Try.func31, Try.ntmps31
  go_wp2_with fail
  refine (HK.out _).mono ?_
  rintro e w' ⟨rfl, hb⟩
  have HB := Lib.hid hb
  clear hb
  go_wp2
  go_ret2
  exact HP.out _ _ HB.out

theorem rsameFold_bad (s t : ByteArray) (hb : ck2 (ckE s) (ckE t) ≠ 0) (w : World) : Calls Try.prog 32 #[.string s, .string t] w (BoolE false (ck2 (ckE s) (ckE t)) w) := by
  have HK := Lib.hid (fun w => both_any s t w)
  have hn : (ck2 (ckE s) (ckE t) != 0) = true := by simpa using hb
  have hbb : Hid (Below w.heap.size w w) := Below.refl _ _
  clear hb
  generalize ck2 (ckE s) (ckE t) = x at *
  go_enter Try.func32, Try.ntmps32
  go_wp2_with fail
  refine (HK.out _).mono ?_
  rintro e w' ⟨rfl, rfl⟩
  go_wp2
  go_ret2
  exact ⟨rfl, hbb.out⟩

theorem foldeq {L T : List Nat} (hC : allC L) (hT : allC T) : ((bs (ens (L.flatMap fdC))).toList == (bs (ens (T.flatMap fdC))).toList) = (up (L.flatMap fdC) == up (T.flatMap fdC)) := by
  rw [Lib.toList_data, Lib.toList_data, bs_list, bs_list, Bool.eq_iff_iff, beq_iff_eq, beq_iff_eq]
  constructor
  · intro h
    rw [(ens_inj (r := []) (q := []) (flat_allC (fun c h => fdC_allC h) hC) (flat_allC (fun c h => fdC_allC h) hT) (.inl rfl) (.inl rfl) (by rw [h])).1]
  · intro h
    rw [up_inj h]

theorem sameFold_ok (s t : ByteArray) (L T : List Nat) (hC : allC L) (hT : allC T) (hl : s.data.toList = ens L) (ht : t.data.toList = ens T) (hs : s.size ≤ 4096) (hts : t.size ≤ 4096) (w : World) :
    Calls Try.prog 31 #[.string s, .string t] w (BoolE (up (L.flatMap fdC) == up (T.flatMap fdC)) 0 w) := by
  have HK := Lib.hid (fun w => check2_ok hC hT hl ht hs hts w)
  have HR1 := Lib.hid (fun w => replaced_any 64 fdC (fun c => (fdC_ne c).2) s L hC hl (by omega) w e_fold (fun c hc w => (fold_any c w (hC c hc)).mono fun e w' h => h.p))
  have HR2 := Lib.hid (fun w => replaced_any 64 fdC (fun c => (fdC_ne c).2) t T hT ht (by omega) w e_fold (fun c hc w => (fold_any c w (hT c hc)).mono fun e w' h => h.p))
  have HE := Lib.hid (foldeq hC hT)
  have HP : Hid (∀ b w', b = (up (L.flatMap fdC) == up (T.flatMap fdC)) → Below w.heap.size w w' → BoolE (up (L.flatMap fdC) == up (T.flatMap fdC)) 0 w (.returned (.tuple #[.bool b, .int .i64 0])) w') := fun b w' e h => by
    rw [e]
    exact ⟨rfl, h⟩
  clear hC hT hl ht
  generalize (up (L.flatMap fdC) == up (T.flatMap fdC)) = R at *
  generalize hX : bs (ens (L.flatMap fdC)) = X at *
  generalize hY : bs (ens (T.flatMap fdC)) = Y at *
  have HX := Lib.hid hX
  have HY := Lib.hid hY
  clear hX hY
  go_enter Try.func31, Try.ntmps31
  go_wp2_with fail
  refine (HK.out _).mono ?_
  rintro e w1 ⟨rfl, hb1⟩
  have HB1 := Lib.hid hb1
  clear hb1
  go_wp2_with fail
  refine (HR1.out _).mono ?_
  rintro e w2 ⟨rfl, hb2⟩
  have HB2 : Hid (Below w.heap.size w w2) := HB1.out.trans (hb2.mono HB1.out.size)
  clear hb2
  rw [show bs (ens (L.flatMap fdC)) = X from HX.out]
  go_wp2_with fail
  refine (HR2.out _).mono ?_
  rintro e w3 ⟨rfl, hb3⟩
  have HB3 : Hid (Below w.heap.size w w3) := HB2.out.trans (hb3.mono HB2.out.size)
  clear hb3
  rw [show bs (ens (T.flatMap fdC)) = Y from HY.out]
  go_wp2
  go_ret2
  exact HP.out _ _ HE.out HB3.out

set_option maxHeartbeats 2000000 in
theorem rsameFold_ok (s t : ByteArray) (L T : List Nat) (hC : allC L) (hT : allC T) (hl : s.data.toList = ens L) (ht : t.data.toList = ens T) (hs : s.size ≤ 4096) (hts : t.size ≤ 4096) (w : World) :
    Calls Try.prog 32 #[.string s, .string t] w (BoolE (up (L.flatMap fdC) == up (T.flatMap fdC)) 0 w) := by
  have HK := Lib.hid (fun w => both_ok hC hT hl ht hs hts w)
  have HR1 := Lib.hid (fun w => folds_any s L hC hl hs w)
  have HR2 := Lib.hid (fun w => folds_any t T hT ht hts w)
  have hLs := ens_len_of hl hs
  have HLN : Hid ((up (L.flatMap fdC)).length ≤ 13000) := by
    have h1 := flat_len fdC 3 (fun c => (fdC_ne c).2) L
    show _ ≤ _
    rw [up_length]
    omega
  have HSM := Lib.hid (fun (v1 v2 : Value) (H1 H2 : Nat) (w : World) (h1 : Rd .i64 H1 v1 (up (L.flatMap fdC)) w) (h2 : Rd .i64 H2 v2 (up (T.flatMap fdC)) w) => SameInts_any _ _ H1 H2 v1 v2 w h1 h2 (Nat.le_trans HLN.out (by decide)))
  have HP : Hid (∀ w', Below w.heap.size w w' → BoolE (up (L.flatMap fdC) == up (T.flatMap fdC)) 0 w (.returned (.tuple #[.bool (up (L.flatMap fdC) == up (T.flatMap fdC)), .int .i64 0])) w') := fun w' h => ⟨rfl, h⟩
  clear hC hT hl ht
  generalize (up (L.flatMap fdC) == up (T.flatMap fdC)) = R at *
  generalize up (L.flatMap fdC) = X at *
  generalize up (T.flatMap fdC) = Y at *
  go_enter Try.func32, Try.ntmps32
  go_wp2_with fail
  refine (HK.out _).mono ?_
  rintro e w1 ⟨rfl, rfl⟩
  go_wp2_with fail
  refine (HR1.out _).mono ?_
  rintro e w2 ⟨v1, rfl, hb2, hr2⟩
  have HB2 := Lib.hid hb2
  go_wp2_with fail
  refine (HR2.out _).mono ?_
  rintro e w3 ⟨v2, rfl, hb3, hr3⟩
  have HB3 : Hid (Below w.heap.size w w3) := HB2.out.trans (hb3.mono HB2.out.size)
  have HRA := Lib.hid (hr2.rd.later hb3)
  have HRB := Lib.hid hr3.rd
  clear hb2 hr2 hb3 hr3
  go_wp2_with fail
  refine (HSM.out _ _ _ _ _ HRA.out HRB.out).mono ?_
  rintro e w4 ⟨rfl, hb4⟩
  have HB4 : Hid (Below w.heap.size w w4) := HB3.out.trans (hb4.mono HB3.out.size)
  clear hb4
  go_wp2
  go_ret2
  exact HP.out _ HB4.out

set_option maxHeartbeats 2000000 in
theorem folds_go (s t : ByteArray) (R : Bool) (d d2 : Int) (w : World) (hz : ¬ 20000 < s.size) (hy : ¬ 20000 < t.size) (hd : d = 0 → d2 = 0)
    (H1 : Hid (∀ w, Calls Try.prog 31 #[.string s, .string t] w (BoolE R d w))) (H2 : Hid (∀ w, Calls Try.prog 32 #[.string s, .string t] w (BoolE R d w)))
    (H3 : Hid (∀ w, Calls Try.prog 31 #[.string t, .string s] w (BoolE R d2 w))) :
    Calls Try.prog 7 #[.string s, .string t] w (KnownPost w) := by
  have HKN := Lib.hid known_any
  by_cases hd0 : d = 0
  · obtain rfl : d2 = 0 := hd hd0
    subst hd0
    go_enter Try.func7, Try.ntmps7
    go_wp2_with fail
    refine (H1.out _).mono ?_
    rintro e w1 ⟨rfl, hb1⟩
    have HB1 := Lib.hid hb1
    clear hb1
    go_wp2_with fail
    refine (H2.out _).mono ?_
    rintro e w2 ⟨rfl, hb2⟩
    have HB2 : Hid (Below w.heap.size w w2) := HB1.out.trans (hb2.mono HB1.out.size)
    clear hb2
    go_wp2_with fail
    refine (H3.out _).mono ?_
    rintro e w3 ⟨rfl, hb3⟩
    have HB3 : Hid (Below w.heap.size w w3) := HB2.out.trans (hb3.mono HB2.out.size)
    clear hb3
    go_wp2_with fail
    refine (HKN.out _).mono ?_
    rintro e w6 ⟨rfl, hb6⟩
    have HB6 : Hid (Below w.heap.size w w6) := HB3.out.trans (hb6.mono HB3.out.size)
    clear hb6
    go_wp2
    go_ret
    exact ⟨rfl, HB6.out⟩
  · have hn : (d != 0) = true := by simpa using hd0
    clear hd hd0
    go_enter Try.func7, Try.ntmps7
    go_wp2_with fail
    refine (H1.out _).mono ?_
    rintro e w1 ⟨rfl, hb1⟩
    have HB1 := Lib.hid hb1
    clear hb1
    go_wp2_with fail
    refine (H2.out _).mono ?_
    rintro e w2 ⟨rfl, hb2⟩
    have HB2 : Hid (Below w.heap.size w w2) := HB1.out.trans (hb2.mono HB1.out.size)
    clear hb2
    go_wp2_with fail
    refine (H3.out _).mono ?_
    rintro e w3 ⟨rfl, hb3⟩
    have HB3 : Hid (Below w.heap.size w w3) := HB2.out.trans (hb3.mono HB2.out.size)
    clear hb3
    go_wp2_with fail
    refine (HKN.out _).mono ?_
    rintro e w6 ⟨rfl, hb6⟩
    have HB6 : Hid (Below w.heap.size w w6) := HB3.out.trans (hb6.mono HB3.out.size)
    clear hb6
    go_wp2
    go_ret
    exact ⟨rfl, HB6.out⟩

theorem charsFolds_walk (s : ByteArray) (_hs0 : s.size ≤ maxLen) (t : ByteArray) (_ht0 : t.size ≤ maxLen) (w : World) : Calls Try.prog 7 #[.string s, .string t] w (KnownPost w) := by
  clear _hs0 _ht0
  by_cases hz : 20000 < s.size
  · have HKN := Lib.hid known_any
    go_enter Try.func7, Try.ntmps7
    go_wp2_with fail
    refine (HKN.out _).mono ?_
    rintro e w3 ⟨rfl, hb3⟩
    have HB3 := Lib.hid hb3
    clear hb3
    go_wp2
    go_ret
    exact ⟨rfl, HB3.out⟩
  by_cases hy : 20000 < t.size
  · have HKN := Lib.hid known_any
    go_enter Try.func7, Try.ntmps7
    go_wp2_with fail
    refine (HKN.out _).mono ?_
    rintro e w3 ⟨rfl, hb3⟩
    have HB3 := Lib.hid hb3
    clear hb3
    go_wp2
    go_ret
    exact ⟨rfl, HB3.out⟩
  by_cases hb : ck2 (ckE s) (ckE t) = 0
  · rcases ckE_cases s with ⟨h1, hs4, L, hC, hl⟩ | ⟨h1, _⟩
    · rcases ckE_cases t with ⟨h2, ht4, T, hT, ht⟩ | ⟨h2, _⟩
      · refine folds_go s t (up (L.flatMap fdC) == up (T.flatMap fdC)) 0 0 w hz hy (fun _ => rfl) (fun w => sameFold_ok s t L T hC hT hl ht hs4 ht4 w) (fun w => rsameFold_ok s t L T hC hT hl ht hs4 ht4 w) (fun w => ?_)
        rw [show (up (L.flatMap fdC) == up (T.flatMap fdC)) = (up (T.flatMap fdC) == up (L.flatMap fdC)) from BEq.comm]
        exact sameFold_ok t s T L hT hC ht hl ht4 hs4 w
      · rw [ck2, if_pos h1] at hb
        exact absurd hb h2
    · rw [ck2, if_neg h1] at hb
      exact absurd hb h1
  · have hb2 : ck2 (ckE t) (ckE s) ≠ 0 := by
      intro h
      unfold ck2 at h hb
      split at h
      · next e => rw [h, if_pos rfl] at hb; exact hb e
      · next e => exact e h
    exact folds_go s t false (ck2 (ckE s) (ckE t)) (ck2 (ckE t) (ckE s)) w hz hy (fun h => absurd h hb) (fun w => sameFold_bad s t hb w) (fun w => rsameFold_bad s t hb w) (fun w => sameFold_bad t s hb2 w)

end Go.Proofs.Ytdjpjknbbedamaa
