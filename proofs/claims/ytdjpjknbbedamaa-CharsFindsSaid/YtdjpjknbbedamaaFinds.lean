/-
  The walk of CharsFinds. No condition.
-/
import Derived.Test.YtdjpjknbbedamaaRj
namespace Go.Proofs.Ytdjpjknbbedamaa
open Go.RowKit

set_option maxHeartbeats 2000000 in
theorem finds_go (s t : ByteArray) (fr : Int) (a b d : Int) (w : World) (hz : ¬ 5000 < s.size) (hy : ¬ 5000 < t.size)
    (H1 : Hid (∀ w, Calls Try.prog 37 #[.string s, .string t, .int .i64 fr] w (NumE a d w))) (H2 : Hid (∀ w, Calls Try.prog 38 #[.string s, .string t, .int .i64 fr] w (NumE a d w)))
    (H3 : Hid (∀ w, Calls Try.prog 39 #[.string s, .string t, .int .i64 fr] w (NumE b d w))) (H4 : Hid (∀ w, Calls Try.prog 40 #[.string s, .string t, .int .i64 fr] w (NumE b d w))) :
    Calls Try.prog 9 #[.string s, .string t, .int .i64 fr] w (KnownPost w) := by
  have HKN := Lib.hid known_any
  go_enter Try.func9, Try.ntmps9
  go_wp2_with fail
  refine (H1.out _).mono ?_
  rintro e w1 ⟨rfl, hb1⟩
  have HB1 := Lib.hid hb1
  clear hb1
  go_wp2_with fail
  refine (H2.out _).mono ?_
  rintro e w2 ⟨rfl, hb2⟩
  have HB2 : Hid (Below w.heap.size w w2) := HB1.out.trans (hb2.mono HB1.out.size)
  clear hb2
  go_wp2_with fail
  refine (H3.out _).mono ?_
  rintro e w3 ⟨rfl, hb3⟩
  have HB3 : Hid (Below w.heap.size w w3) := HB2.out.trans (hb3.mono HB2.out.size)
  clear hb3
  go_wp2_with fail
  refine (H4.out _).mono ?_
  rintro e w4 ⟨rfl, hb4⟩
  have HB4 : Hid (Below w.heap.size w w4) := HB3.out.trans (hb4.mono HB3.out.size)
  clear hb4
  go_wp2_with fail
  refine (HKN.out _).mono ?_
  rintro e w6 ⟨rfl, hb6⟩
  have HB6 : Hid (Below w.heap.size w w6) := HB4.out.trans (hb6.mono HB4.out.size)
  clear hb6
  go_wp2
  go_ret
  exact ⟨rfl, HB6.out⟩

theorem charsFinds_walk (s : ByteArray) (_hs0 : s.size ≤ maxLen) (t : ByteArray) (_ht0 : t.size ≤ maxLen) (fr : Int) (hf : (Lit.int .i64 fr).wf = true) (w : World) : Calls Try.prog 9 #[.string s, .string t, .int .i64 fr] w (KnownPost w) := by
  clear _hs0 _ht0
  by_cases hz : 5000 < s.size
  · have HKN := Lib.hid known_any
    clear hf
    go_enter Try.func9, Try.ntmps9
    go_wp2_with fail
    refine (HKN.out _).mono ?_
    rintro e w3 ⟨rfl, hb3⟩
    have HB3 := Lib.hid hb3
    clear hb3
    go_wp2
    go_ret
    exact ⟨rfl, HB3.out⟩
  by_cases hy : 5000 < t.size
  · have HKN := Lib.hid known_any
    clear hf
    go_enter Try.func9, Try.ntmps9
    go_wp2_with fail
    refine (HKN.out _).mono ?_
    rintro e w3 ⟨rfl, hb3⟩
    have HB3 := Lib.hid hb3
    clear hb3
    go_wp2
    go_ret
    exact ⟨rfl, HB3.out⟩
  obtain ⟨f0, f1⟩ : -9223372036854775808 ≤ fr ∧ fr ≤ 9223372036854775807 := wf_bd hf
  by_cases hb : ck2 (ckE s) (ckE t) = 0
  · rcases ckE_cases s with ⟨h1, hs4, L, hC, hl⟩ | ⟨h1, _⟩
    · rcases ckE_cases t with ⟨h2, ht4, T, hT, ht⟩ | ⟨h2, _⟩
      · exact finds_go s t fr (idxF L T fr) (idxL L T fr) 0 w hz hy (fun w => Index_ok s t L T hC hT hl ht hs4 ht4 fr f0 f1 w) (fun w => rIndex_ok s t L T hC hT hl ht hs4 ht4 fr w) (fun w => Last_ok s t L T hC hT hl ht hs4 ht4 fr w) (fun w => rLast_ok s t L T hC hT hl ht hs4 ht4 fr w)
      · rw [ck2, if_pos h1] at hb
        exact absurd hb h2
    · rw [ck2, if_neg h1] at hb
      exact absurd hb h1
  · exact finds_go s t fr 0 0 (ck2 (ckE s) (ckE t)) w hz hy (fun w => (find_bad_c s t hb fr w).1) (fun w => (rfind_bad s t hb fr w).1) (fun w => (find_bad_c s t hb fr w).2) (fun w => (rfind_bad s t hb fr w).2)

end Go.Proofs.Ytdjpjknbbedamaa
