/-
  The walk of NumScalars. Conditions: strconv's table of powers of ten as it is laid.
-/
import Derived.Test.YtmlifgngdilplaaDoorScal
namespace Go.Proofs.YtmlifgngdilplaaDoor
open Go.RowKit Go.MapKept

set_option maxHeartbeats 400000 in
theorem scalars_long (k n : Int) (s : ByteArray) (t : Bool) (w : World) (h : 16384 < s.size) : Calls Tryd.prog 3 #[.agg #[.int .i64 k, .int .i64 n, .string s, .bool t]] w (KnownPost w) := by
  have HD := Lib.hid (show decide (16384 < (s.size : Int)) = true by simp; omega)
  clear h
  go_enter Tryd.func3, Tryd.ntmps3
  go_wp2_with fail
  refine (long_any s _).mono ?_
  rintro e w' ⟨rfl, rfl⟩
  rw [HD.out]
  go_wp2_with fail
  refine (known_any _).mono ?_
  rintro e w3 ⟨rfl, hb3⟩
  have HB : Hid (Below w.heap.size w w3) := ((Below.refl _ _).alloc (Nat.le_refl _) _).trans (hb3.mono (by simp))
  clear hb3
  go_wp2
  go_ret
  exact ⟨rfl, HB.out⟩

set_option maxHeartbeats 1600000 in
theorem scalars_bad (k n : Int) (s : ByteArray) (t : Bool) (w : World) (h : ¬ 16384 < s.size) (hv : valE k n s.size ≠ 0) (htab : Tab w) : Calls Tryd.prog 3 #[.agg #[.int .i64 k, .int .i64 n, .string s, .bool t]] w (KnownPost w) := by
  have HD := Lib.hid (show decide (16384 < (s.size : Int)) = false by simp; omega)
  have hs : s.size ≤ 140737488355328 := by omega
  have HTAB := Lib.hid htab
  have H1 := Lib.hid (fun w => rValidate_any k n s t w hs)
  have H2 := Lib.hid (fun w => NumberOf_any k n s t w hs)
  have H3 := Lib.hid (fun w ht => TextOf_any k n s t w hs ht)
  have H4 := Lib.hid (fun w ht => Truth_any k n s t w hs ht)
  have H5 := Lib.hid (fun w => Validate_any k n s t w hs)
  have hz : (valE k n s.size != 0) = true := by simp [hv]
  have hn0 : nobN k n s = 0 := by unfold nobN; rw [if_neg hv]
  rw [hn0] at H2
  rw [if_neg hv] at H3 H4
  clear hn0 hv htab h
  generalize valE k n s.size = V at *
  go_enter Tryd.func3, Tryd.ntmps3
  go_wp2_with fail
  refine (long_any s _).mono ?_
  rintro e w' ⟨rfl, rfl⟩
  rw [HD.out]
  go_wp2_with fail
  refine (H1.out _).mono ?_
  rintro e w' ⟨rfl, hb⟩
  have HB1 : Hid (Below (w.alloc (.cells #[.int .i64 k, .int .i64 n, .string s, .bool t] 23)).heap.size (w.alloc (.cells #[.int .i64 k, .int .i64 n, .string s, .bool t] 23)) w') := hb
  clear hb
  
  obtain ⟨c0, c1, c2, c3, hbw⟩ := box_later HB1.out
  have HW1 := Lib.hid hbw
  clear hbw
  generalize w' = w1 at *
  go_wp2_with fail
  refine (H2.out _).mono ?_
  rintro e w' ⟨rfl, hb⟩
  have HB2 : Hid (Below (w.alloc (.cells #[.int .i64 k, .int .i64 n, .string s, .bool t] 23)).heap.size (w.alloc (.cells #[.int .i64 k, .int .i64 n, .string s, .bool t] 23)) w') := HB1.out.trans (hb.mono HB1.out.size)
  clear hb
  clear c0 c1 c2 c3 HB1
  obtain ⟨c0, c1, c2, c3, hbw⟩ := box_later HB2.out
  have HW2 := Lib.hid hbw
  clear hbw
  generalize w' = w2 at *
  go_wp2_with fail
  refine (H3.out _ (HTAB.out.later HW2.out)).mono ?_
  rintro e w' ⟨rfl, hb⟩
  have HB3 : Hid (Below (w.alloc (.cells #[.int .i64 k, .int .i64 n, .string s, .bool t] 23)).heap.size (w.alloc (.cells #[.int .i64 k, .int .i64 n, .string s, .bool t] 23)) w') := HB2.out.trans (hb.mono HB2.out.size)
  clear hb
  clear c0 c1 c2 c3 HB2
  obtain ⟨c0, c1, c2, c3, hbw⟩ := box_later HB3.out
  have HW3 := Lib.hid hbw
  clear hbw
  generalize w' = w3 at *
  go_wp2_with fail
  refine (H4.out _ (HTAB.out.later HW3.out)).mono ?_
  rintro e w' ⟨rfl, hb⟩
  have HB4 : Hid (Below (w.alloc (.cells #[.int .i64 k, .int .i64 n, .string s, .bool t] 23)).heap.size (w.alloc (.cells #[.int .i64 k, .int .i64 n, .string s, .bool t] 23)) w') := HB3.out.trans (hb.mono HB3.out.size)
  clear hb
  clear c0 c1 c2 c3 HB3
  obtain ⟨c0, c1, c2, c3, hbw⟩ := box_later HB4.out
  have HW4 := Lib.hid hbw
  clear hbw
  generalize w' = w4 at *
  go_wp2_with fail
  refine (H5.out _).mono ?_
  rintro e w' ⟨rfl, hb⟩
  have HB5 : Hid (Below (w.alloc (.cells #[.int .i64 k, .int .i64 n, .string s, .bool t] 23)).heap.size (w.alloc (.cells #[.int .i64 k, .int .i64 n, .string s, .bool t] 23)) w') := HB4.out.trans (hb.mono HB4.out.size)
  clear hb
  clear c0 c1 c2 c3 HB4
  obtain ⟨c0, c1, c2, c3, hbw⟩ := box_later HB5.out
  have HW5 := Lib.hid hbw
  clear hbw
  generalize w' = w5 at *
  go_wp2_with fail
  refine (known_any _).mono ?_
  rintro e w' ⟨rfl, hb⟩
  have HB : Hid (Below w.heap.size w w') := HW5.out.trans (hb.mono HW5.out.size)
  clear hb
  go_wp2
  go_ret
  exact ⟨rfl, HB.out⟩

set_option maxHeartbeats 1600000 in
theorem scalars_ok (k n : Int) (s : ByteArray) (t : Bool) (w : World) (h : ¬ 16384 < s.size) (hv : valE k n s.size = 0) (htab : Tab w) : Calls Tryd.prog 3 #[.agg #[.int .i64 k, .int .i64 n, .string s, .bool t]] w (KnownPost w) := by
  have HD := Lib.hid (show decide (16384 < (s.size : Int)) = false by simp; omega)
  have hs : s.size ≤ 140737488355328 := by omega
  have HTAB := Lib.hid htab
  have H1 := Lib.hid (fun w => rValidate_any k n s t w hs)
  have H2 := Lib.hid (fun w => NumberOf_any k n s t w hs)
  have H3 := Lib.hid (fun w ht => TextOf_any k n s t w hs ht)
  have H4 := Lib.hid (fun w ht => Truth_any k n s t w hs ht)
  have H5 := Lib.hid (fun w => Validate_any k n s t w hs)
  have hin : k = 1 → inR n := fun hk => by subst hk; exact valE_num hv
  have H6 := Lib.hid (fun w => rNumber_any k n s t w hs)
  have H7 := Lib.hid (fun w => rText_any k n s t w hin)
  have H8 := Lib.hid (fun w => rIsTrue_any k n s t w hin)
  have hn0 : nobN k n s = nobV k n s := by unfold nobN nobV; rw [if_pos hv]
  rw [hn0, hv] at H2
  rw [if_pos hv, hv] at H3 H4
  rw [hv] at H1 H5
  clear hn0 hv htab h hin
  generalize trueB (tx k n s) = B at *
  generalize tx k n s = T at *
  generalize nobV k n s = N at *
  go_enter Tryd.func3, Tryd.ntmps3
  go_wp2_with fail
  refine (long_any s _).mono ?_
  rintro e w' ⟨rfl, rfl⟩
  rw [HD.out]
  go_wp2_with fail
  refine (H1.out _).mono ?_
  rintro e w' ⟨rfl, hb⟩
  have HB1 : Hid (Below (w.alloc (.cells #[.int .i64 k, .int .i64 n, .string s, .bool t] 23)).heap.size (w.alloc (.cells #[.int .i64 k, .int .i64 n, .string s, .bool t] 23)) w') := hb
  clear hb
  
  obtain ⟨c0, c1, c2, c3, hbw⟩ := box_later HB1.out
  have HW1 := Lib.hid hbw
  clear hbw
  generalize w' = w1 at *
  go_wp2_with fail
  refine (H2.out _).mono ?_
  rintro e w' ⟨rfl, hb⟩
  have HB2 : Hid (Below (w.alloc (.cells #[.int .i64 k, .int .i64 n, .string s, .bool t] 23)).heap.size (w.alloc (.cells #[.int .i64 k, .int .i64 n, .string s, .bool t] 23)) w') := HB1.out.trans (hb.mono HB1.out.size)
  clear hb
  clear c0 c1 c2 c3 HB1
  obtain ⟨c0, c1, c2, c3, hbw⟩ := box_later HB2.out
  have HW2 := Lib.hid hbw
  clear hbw
  generalize w' = w2 at *
  go_wp2_with fail
  refine (H3.out _ (HTAB.out.later HW2.out)).mono ?_
  rintro e w' ⟨rfl, hb⟩
  have HB3 : Hid (Below (w.alloc (.cells #[.int .i64 k, .int .i64 n, .string s, .bool t] 23)).heap.size (w.alloc (.cells #[.int .i64 k, .int .i64 n, .string s, .bool t] 23)) w') := HB2.out.trans (hb.mono HB2.out.size)
  clear hb
  clear c0 c1 c2 c3 HB2
  obtain ⟨c0, c1, c2, c3, hbw⟩ := box_later HB3.out
  have HW3 := Lib.hid hbw
  clear hbw
  generalize w' = w3 at *
  go_wp2_with fail
  refine (H4.out _ (HTAB.out.later HW3.out)).mono ?_
  rintro e w' ⟨rfl, hb⟩
  have HB4 : Hid (Below (w.alloc (.cells #[.int .i64 k, .int .i64 n, .string s, .bool t] 23)).heap.size (w.alloc (.cells #[.int .i64 k, .int .i64 n, .string s, .bool t] 23)) w') := HB3.out.trans (hb.mono HB3.out.size)
  clear hb
  clear c0 c1 c2 c3 HB3
  obtain ⟨c0, c1, c2, c3, hbw⟩ := box_later HB4.out
  have HW4 := Lib.hid hbw
  clear hbw
  generalize w' = w4 at *
  go_wp2_with fail
  refine (H5.out _).mono ?_
  rintro e w' ⟨rfl, hb⟩
  have HB5 : Hid (Below (w.alloc (.cells #[.int .i64 k, .int .i64 n, .string s, .bool t] 23)).heap.size (w.alloc (.cells #[.int .i64 k, .int .i64 n, .string s, .bool t] 23)) w') := HB4.out.trans (hb.mono HB4.out.size)
  clear hb
  clear c0 c1 c2 c3 HB4
  obtain ⟨c0, c1, c2, c3, hbw⟩ := box_later HB5.out
  have HW5 := Lib.hid hbw
  clear hbw
  generalize w' = w5 at *
  go_wp2_with fail
  refine (H6.out _).mono ?_
  rintro e w' ⟨rfl, hb⟩
  have HB6 : Hid (Below (w.alloc (.cells #[.int .i64 k, .int .i64 n, .string s, .bool t] 23)).heap.size (w.alloc (.cells #[.int .i64 k, .int .i64 n, .string s, .bool t] 23)) w') := HB5.out.trans (hb.mono HB5.out.size)
  clear hb
  clear c0 c1 c2 c3 HB5
  obtain ⟨c0, c1, c2, c3, hbw⟩ := box_later HB6.out
  have HW6 := Lib.hid hbw
  clear hbw
  generalize w' = w6 at *
  go_wp2_with fail
  refine (H7.out _).mono ?_
  rintro e w' ⟨rfl, hb⟩
  have HB7 : Hid (Below (w.alloc (.cells #[.int .i64 k, .int .i64 n, .string s, .bool t] 23)).heap.size (w.alloc (.cells #[.int .i64 k, .int .i64 n, .string s, .bool t] 23)) w') := HB6.out.trans (hb.mono HB6.out.size)
  clear hb
  clear c0 c1 c2 c3 HB6
  obtain ⟨c0, c1, c2, c3, hbw⟩ := box_later HB7.out
  have HW7 := Lib.hid hbw
  clear hbw
  generalize w' = w7 at *
  go_wp2_with fail
  refine (H8.out _).mono ?_
  rintro e w' ⟨rfl, hb⟩
  have HB8 : Hid (Below (w.alloc (.cells #[.int .i64 k, .int .i64 n, .string s, .bool t] 23)).heap.size (w.alloc (.cells #[.int .i64 k, .int .i64 n, .string s, .bool t] 23)) w') := HB7.out.trans (hb.mono HB7.out.size)
  clear hb
  clear c0 c1 c2 c3 HB7
  obtain ⟨c0, c1, c2, c3, hbw⟩ := box_later HB8.out
  have HW8 := Lib.hid hbw
  clear hbw
  generalize w' = w8 at *
  go_wp2_with fail
  refine (known_any _).mono ?_
  rintro e w' ⟨rfl, hb⟩
  have HB : Hid (Below w.heap.size w w') := HW8.out.trans (hb.mono HW8.out.size)
  clear hb
  go_wp2
  go_ret
  exact ⟨rfl, HB.out⟩

theorem numScalars_walk (k : Int) (n : Int) (s : ByteArray) (t : Bool) (w : World) (htab : Tab w) : Calls Tryd.prog 3 #[.agg #[.int .i64 k, .int .i64 n, .string s, .bool t]] w (KnownPost w) := by
  by_cases h : 16384 < s.size
  · exact scalars_long k n s t w h
  · by_cases hv : valE k n s.size = 0
    · exact scalars_ok k n s t w h hv htab
    · exact scalars_bad k n s t w h hv htab

end Go.Proofs.YtmlifgngdilplaaDoor
