/-
  The walk of NumRanges: num.Range and the document's Range agree. Conditions: strconv's table of powers of ten as it is laid.
-/
import Derived.Test.YtmlifgngdilplaaDoorRngw
namespace Go.Proofs.YtmlifgngdilplaaDoor
open Go.RowKit

theorem rng_len (tt : ByteArray) : ∀ (f : Nat) (s : ByteArray) (acc : List ByteArray), f + acc.length ≤ 200 → (rng f s tt acc).1.length ≤ 200
  | 0, s, acc, h => by
    unfold rng
    split
    · simp
    · exact (show acc.length ≤ 200 by omega)
  | f + 1, s, acc, h => by
    unfold rng
    split
    · split
      · simp; omega
      · exact rng_len tt f _ _ (by simp; omega)
    · exact (show acc.length ≤ 200 by omega)
theorem rngR_len (s tt : ByteArray) : (rngR s tt).1.length ≤ 200 := by
  unfold rngR
  split
  · simp
  · exact rng_len tt _ _ _ (by simp)

set_option maxHeartbeats 800000 in
theorem numRanges_walk (s : ByteArray) (_w0 : s.size ≤ maxLen) (t : ByteArray) (_w1 : t.size ≤ maxLen) (w : World) (hL : laidMetH Tryd.prog Rows.numRangesRow.laid w) : Calls Tryd.prog 10 #[.string s, .string t] w (KnownPost w) := by
  have ht : Tab w := tab_of_laid hL
  clear hL _w0 _w1
  by_cases hl : 16384 < s.size
  · have HD := Lib.hid (show decide (16384 < (s.size : Int)) = true by simp; omega)
    clear ht
    go_enter Tryd.func10, Tryd.ntmps10
    go_wp2_with fail
    refine (long_any s _).mono ?_
    rintro e w' ⟨rfl, rfl⟩
    rw [HD.out]
    go_wp2_with fail
    refine (known_any _).mono ?_
    rintro e w3 ⟨rfl, hb3⟩
    have HB3 := Lib.hid hb3
    clear hb3
    go_wp2
    go_ret
    exact ⟨rfl, HB3.out⟩
  · have HD := Lib.hid (show decide (16384 < (s.size : Int)) = false by simp; omega)
    by_cases hl2 : 16384 < t.size
    · have HD2 := Lib.hid (show decide (16384 < (t.size : Int)) = true by simp; omega)
      clear ht
      go_enter Tryd.func10, Tryd.ntmps10
      go_wp2_with fail
      refine (long_any s _).mono ?_
      rintro e w' ⟨rfl, rfl⟩
      rw [HD.out]
      go_wp2_with fail
      refine (long_any t _).mono ?_
      rintro e w' ⟨rfl, rfl⟩
      rw [HD2.out]
      go_wp2_with fail
      refine (known_any _).mono ?_
      rintro e w3 ⟨rfl, hb3⟩
      have HB3 := Lib.hid hb3
      clear hb3
      go_wp2
      go_ret
      exact ⟨rfl, HB3.out⟩
    · have HD2 := Lib.hid (show decide (16384 < (t.size : Int)) = false by simp; omega)
      have H1 : Hid (Calls Tryd.prog 36 #[.string s, .string t] w (RngP (rngR s t) w)) := nRange_any s t w (by omega) (by omega) ht
      have H2 : Hid (∀ w, Calls Tryd.prog 37 #[.string s, .string t] w (RngP (rngR s t) w)) := fun w => rRange_any s t w (by omega) (by omega)
      have HLN := Lib.hid (rngR_len s t)
      clear ht
      generalize rngR s t = R at *
      obtain ⟨L, k⟩ := R
      go_enter Tryd.func10, Tryd.ntmps10
      go_wp2_with fail
      refine (long_any s _).mono ?_
      rintro e w' ⟨rfl, rfl⟩
      rw [HD.out]
      go_wp2_with fail
      refine (long_any t _).mono ?_
      rintro e w' ⟨rfl, rfl⟩
      rw [HD2.out]
      go_wp2_with fail
      refine (H1.out).mono ?_
      rintro e w1 ⟨v1, rfl, hb1, hT1⟩
      have HB1 := Lib.hid hb1
      have HT1 := Lib.hid hT1
      clear hb1 hT1
      go_wp2_with fail
      refine (H2.out _).mono ?_
      rintro e w2 ⟨v2, rfl, hb2, hT2⟩
      have HB2 : Hid (Below w.heap.size w w2) := HB1.out.trans (hb2.mono HB1.out.size)
      have HT2 := Lib.hid hT2
      have HT12 : Hid (Texts w.heap.size v1 L w2) := HT1.out.later hb2
      clear hb2 hT2
      go_wp2_with fail
      refine (SameTexts_any L _ _ v1 v2 _ HT12.out HT2.out HLN.out).mono ?_
      rintro e w4 ⟨rfl, hb4⟩
      have HB4 : Hid (Below w.heap.size w w4) := HB2.out.trans (hb4.mono HB2.out.size)
      clear hb4
      go_wp2_with fail
      refine (known_any _).mono ?_
      rintro e w3 ⟨rfl, hb3⟩
      have HB3 : Hid (Below w.heap.size w w3) := HB4.out.trans (hb3.mono HB4.out.size)
      clear hb3
      go_wp2
      go_ret
      exact ⟨rfl, HB3.out⟩

end Go.Proofs.YtmlifgngdilplaaDoor
