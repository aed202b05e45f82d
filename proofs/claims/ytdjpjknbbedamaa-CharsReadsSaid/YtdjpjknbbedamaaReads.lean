/-
  The walk of CharsReads: chars.Valid, Points and Text, and the document's. No condition.
-/
import Derived.Test.YtdjpjknbbedamaaKn
namespace Go.Proofs.Ytdjpjknbbedamaa
open Go.RowKit

theorem row_rd0 {w w2 : World} {v : Value} {L : List Int} {B : Nat} (h : Row 3 .i64 B v L w) (hb : Below w.heap.size w w2) : Rd .i64 w.heap.size v L w2 := h.rd.later hb

set_option maxRecDepth 100000 in
set_option maxHeartbeats 4000000 in
theorem charsReads_walk (s : ByteArray) (_hs0 : s.size ≤ maxLen) (w : World) : Calls Try.prog 3 #[.string s] w (KnownPost w) := by
  clear _hs0
  have HKN := Lib.hid known_any
  by_cases hz : 20000 < s.size
  · go_enter Try.func3, Try.ntmps3
    go_wp2_with fail
    refine (HKN.out _).mono ?_
    rintro e w3 ⟨rfl, hb3⟩
    have HB3 := Lib.hid hb3
    clear hb3
    go_wp2
    go_ret
    exact ⟨rfl, HB3.out⟩
  · obtain ⟨M, r, hP⟩ := parts_of s.data.toList
    have HV1 := Lib.hid (fun w => Valid_any s M r hP w (by omega))
    have HV2 := Lib.hid (fun w => rValid_any s M r hP w (by omega))
    clear hP
    generalize (ens M).length = vn at *
    generalize r.isEmpty = vb at *
    rcases ckE_cases s with ⟨hck, hs4, L, hC, hl⟩ | ⟨hck, hx⟩
    · have HL : Hid (L.length ≤ 1000000) := by
        have := ens_len_of hl hs4
        show _ ≤ _
        omega
      have HU : Hid ((up L).length ≤ 140737488355) := by
        have := ens_len_of hl hs4
        show _ ≤ _
        rw [up_length]
        omega
      have HP1 := Lib.hid (fun w => Points_ok s L hC hl hs4 w)
      have HP2 := Lib.hid (fun w => rPoints_ok s L hC hl hs4 w)
      have HT : Hid (∀ (v : Value) (H : Nat) (w : World), H ≤ w.heap.size → Rd .i64 H v (up L) w → Calls Try.prog 17 #[v] w (TxP (szL (ens L)) (szE (ens L)) w)) := fun v H w h1 h2 => Text_ok L hC H v w h1 h2 HL.out
      have HE1 : Hid (szL (ens L) = ens L) := by
        show _ = _
        rw [szL, if_neg (by rw [← hl, ← size_list]; omega)]
      have HE2 : Hid (szE (ens L) = 0) := by
        show _ = _
        rw [szE, if_neg (by rw [← hl, ← size_list]; omega)]
      have HS : Hid (bs (ens L) = s) := by
        show _ = _
        rw [← hl, bs_of]
      clear hC hl hck
      generalize up L = U at *
      go_enter Try.func3, Try.ntmps3
      go_wp2_with fail
      refine (HV1.out _).mono ?_
      rintro e w1 ⟨rfl, hb1⟩
      have HB1 := Lib.hid hb1
      clear hb1
      go_wp2_with fail
      refine (HV2.out _).mono ?_
      rintro e w' ⟨rfl, rfl⟩
      go_wp2_with fail
      refine (HP1.out _).mono ?_
      rintro e w2 ⟨v1, rfl, hb2, hr2⟩
      have HB2 : Hid (Below w.heap.size w w2) := HB1.out.trans (hb2.mono HB1.out.size)
      have HR2 := Lib.hid hr2
      clear hb2 hr2
      go_wp2_with fail
      refine (HP2.out _).mono ?_
      rintro e w3 ⟨v2, rfl, hb3, hr3⟩
      have HB3 : Hid (Below w.heap.size w w3) := HB2.out.trans (hb3.mono HB2.out.size)
      have HD1 : Hid (Rd .i64 w2.heap.size v1 U w3) := HR2.out.rd.later hb3
      have HD2 : Hid (Rd .i64 w3.heap.size v2 U w3) := hr3.rd
      have HZ3 : Hid (w2.heap.size ≤ w3.heap.size) := hb3.size
      clear hb3 hr3
      go_wp2_with fail
      refine (SameInts_any U U _ _ v1 v2 _ HD1.out HD2.out HU.out).mono ?_
      rintro e w4 ⟨rfl, hb4⟩
      have HB4 : Hid (Below w.heap.size w w4) := HB3.out.trans (hb4.mono HB3.out.size)
      have HD4 : Hid (Rd .i64 w2.heap.size v1 U w4) := HD1.out.later (hb4.mono HZ3.out)
      have HZ4 : Hid (w2.heap.size ≤ w4.heap.size) := Nat.le_trans HZ3.out hb4.size
      clear hb4
      rw [show (U == U) = true by simp]
      go_wp2_with fail
      refine (HT.out v1 _ _ HZ4.out HD4.out).mono ?_
      rintro e w5 ⟨rfl, hb5⟩
      have HB5 : Hid (Below w.heap.size w w5) := HB4.out.trans (hb5.mono HB4.out.size)
      clear hb5
      rw [HE1.out, HE2.out, HS.out]
      go_wp2_with fail
      refine (HKN.out _).mono ?_
      rintro e w6 ⟨rfl, hb6⟩
      have HB6 : Hid (Below w.heap.size w w6) := HB5.out.trans (hb6.mono HB5.out.size)
      clear hb6
      go_wp2
      go_ret
      exact ⟨rfl, HB6.out⟩
    · have HP1 := Lib.hid (fun w => Points_bad s hck w)
      have HP2 := Lib.hid (fun w => rPoints_bad s hck w)
      have HT : Hid (∀ (v : Value) (H : Nat) (w : World), H ≤ w.heap.size → Rd .i64 H v [] w → Calls Try.prog 17 #[v] w (TxP [] 0 w)) := fun v H w h1 h2 => Text_ok [] (fun c h => by cases h) H v w h1 h2 (by simp)
      have hcn : (ckE s != 0) = true := by simpa using hck
      clear hx hck
      generalize ckE s = x at *
      go_enter Try.func3, Try.ntmps3
      go_wp2_with fail
      refine (HV1.out _).mono ?_
      rintro e w1 ⟨rfl, hb1⟩
      have HB1 := Lib.hid hb1
      clear hb1
      go_wp2_with fail
      refine (HV2.out _).mono ?_
      rintro e w' ⟨rfl, rfl⟩
      go_wp2_with fail
      refine (HP1.out _).mono ?_
      rintro e w2 ⟨v1, rfl, hb2, hr2⟩
      have HB2 : Hid (Below w.heap.size w w2) := HB1.out.trans (hb2.mono HB1.out.size)
      have HR2 := Lib.hid hr2
      clear hb2 hr2
      go_wp2_with fail
      refine (HP2.out _).mono ?_
      rintro e w3 ⟨v2, rfl, hb3, hr3⟩
      have HB3 : Hid (Below w.heap.size w w3) := HB2.out.trans (hb3.mono HB2.out.size)
      have HD1 : Hid (Rd .i64 w2.heap.size v1 [] w3) := HR2.out.rd.later hb3
      have HD2 : Hid (Rd .i64 w3.heap.size v2 [] w3) := hr3.rd
      have HZ3 : Hid (w2.heap.size ≤ w3.heap.size) := hb3.size
      clear hb3 hr3
      go_wp2_with fail
      refine (SameInts_any [] [] _ _ v1 v2 _ HD1.out HD2.out (by simp)).mono ?_
      rintro e w4 ⟨rfl, hb4⟩
      have HB4 : Hid (Below w.heap.size w w4) := HB3.out.trans (hb4.mono HB3.out.size)
      have HD4 : Hid (Rd .i64 w2.heap.size v1 [] w4) := HD1.out.later (hb4.mono HZ3.out)
      have HZ4 : Hid (w2.heap.size ≤ w4.heap.size) := Nat.le_trans HZ3.out hb4.size
      clear hb4
      rw [show (([] : List Int) == []) = true by simp]
      go_wp2_with fail
      refine (HT.out v1 _ _ HZ4.out HD4.out).mono ?_
      rintro e w5 ⟨rfl, hb5⟩
      have HB5 : Hid (Below w.heap.size w w5) := HB4.out.trans (hb5.mono HB4.out.size)
      clear hb5
      go_wp2_with fail
      refine (HKN.out _).mono ?_
      rintro e w6 ⟨rfl, hb6⟩
      have HB6 : Hid (Below w.heap.size w w6) := HB5.out.trans (hb6.mono HB5.out.size)
      clear hb6
      go_wp2
      go_ret
      exact ⟨rfl, HB6.out⟩

end Go.Proofs.Ytdjpjknbbedamaa
