/-
  The walk of NumOrders: num.CompareText and the document's CompareText agree, and the opposite is the opposite. No condition.
-/
import Derived.Test.YtmlifgngdilplaaDoorCmp
import Derived.Test.YtmlifgngdilplaaDoorLooks
namespace Go.Proofs.YtmlifgngdilplaaDoor
open Go.RowKit

theorem CompareText_any (s t : ByteArray) (w : World) : Calls Tryd.prog 32 #[.string s, .string t] w fun e w' => e = .returned (.int .i64 (Lib.compareBytes s.data.toList t.data.toList)) ∧ w = w' := by
  have HC := Lib.hid (Tryd.strings_Compare s t w)
  generalize Lib.compareBytes s.data.toList t.data.toList = V at *
  go_enter Tryd.func32, Tryd.ntmps32
  go_wp2_with fail
  refine (HC.out).mono ?_
  rintro e w' ⟨rfl, rfl⟩
  go_wp2
  go_ret
  exact ⟨rfl, rfl⟩

theorem cb_bd : ∀ (l m : List UInt8), -1 ≤ Lib.compareBytes l m ∧ Lib.compareBytes l m ≤ 1
  | [], [] => by decide
  | [], _ :: _ => by simp [Lib.compareBytes]
  | _ :: _, [] => by simp [Lib.compareBytes]
  | a :: l, b :: m => by
    unfold Lib.compareBytes
    split
    · omega
    · split
      · omega
      · exact cb_bd l m
theorem cb_neg : ∀ (l m : List UInt8), Lib.compareBytes m l = -Lib.compareBytes l m
  | [], [] => rfl
  | [], _ :: _ => rfl
  | _ :: _, [] => rfl
  | a :: l, b :: m => by
    unfold Lib.compareBytes
    by_cases h1 : a < b
    · have h2 : ¬ b < a := by rw [UInt8.lt_iff_toNat_lt] at *; omega
      rw [if_neg h2, if_pos h1, if_pos h1]
      rfl
    · rw [if_neg h1, if_neg h1]
      by_cases h2 : b < a
      · rw [if_pos h2, if_pos h2]
      · rw [if_neg h2, if_neg h2]; exact cb_neg l m
theorem cb_step {l m : List UInt8} {k : Nat} {a b : UInt8} (hl : l[k]? = some a) (hm : m[k]? = some b) :
    Lib.compareBytes (l.drop k) (m.drop k) = if a = b then Lib.compareBytes (l.drop (k + 1)) (m.drop (k + 1)) else cmpI a.toNat b.toNat := by
  have h1 : l.drop k = a :: l.drop (k + 1) := by rw [List.drop_eq_getElem?_toList_append, hl]; rfl
  have h2 : m.drop k = b :: m.drop (k + 1) := by rw [List.drop_eq_getElem?_toList_append, hm]; rfl
  rw [h1, h2]
  show (if a < b then -1 else if b < a then 1 else _) = _
  by_cases hab : a = b
  · subst hab
    rw [if_neg (by rw [UInt8.lt_iff_toNat_lt]; omega), if_neg (by rw [UInt8.lt_iff_toNat_lt]; omega), if_pos rfl]
  · rw [if_neg hab]
    have hne : a.toNat ≠ b.toNat := fun h => hab (UInt8.toNat_inj.1 h)
    unfold cmpI
    by_cases h1 : a < b
    · have h1' := h1
      rw [UInt8.lt_iff_toNat_lt] at h1'
      rw [if_pos h1, if_pos (by omega)]
    · have h1' := h1
      rw [UInt8.lt_iff_toNat_lt] at h1'
      have h2 : b < a := by rw [UInt8.lt_iff_toNat_lt]; omega
      rw [if_neg h1, if_pos h2, if_neg (by omega), if_pos (by omega)]
theorem cb_end {l m : List UInt8} {k : Nat} (h1 : k ≤ l.length) (h2 : k ≤ m.length) (h : k = l.length ∨ k = m.length) :
    Lib.compareBytes (l.drop k) (m.drop k) = cmpI l.length m.length := by
  unfold cmpI
  by_cases ha : k = l.length
  · have e1 : l.drop k = [] := List.drop_eq_nil_of_le (by omega)
    rw [e1]
    by_cases hb : k = m.length
    · rw [List.drop_eq_nil_of_le (show m.length ≤ k by omega), if_neg (by omega), if_neg (by omega)]; rfl
    · obtain ⟨c, r, e2⟩ : ∃ c r, m.drop k = c :: r := by
        cases hd : m.drop k with
        | nil => have := List.drop_eq_nil_iff.1 hd; omega
        | cons c r => exact ⟨c, r, rfl⟩
      rw [e2, if_pos (by omega)]; rfl
  · have hb : k = m.length := by omega
    obtain ⟨c, r, e2⟩ : ∃ c r, l.drop k = c :: r := by
      cases hd : l.drop k with
      | nil => have := List.drop_eq_nil_iff.1 hd; omega
      | cons c r => exact ⟨c, r, rfl⟩
    rw [e2, List.drop_eq_nil_of_le (show m.length ≤ k by omega), if_neg (by omega), if_pos (by omega)]; rfl

theorem rCompare_same (a b : Int) (w : World) : Calls Tryd.prog 31 #[.int .i64 a, .int .i64 b] w fun e w' => e = .returned (.int .i64 (cmpI a b)) ∧ w' = w :=
  (rCompare_any a b w).mono fun _ _ h => ⟨h.1, h.2.symm⟩

set_option maxHeartbeats 800000 in
theorem rCompareText_any (s t : ByteArray) (w : World) (hs : s.size ≤ 140737488355328) (ht : t.size ≤ 140737488355328) :
    Calls Tryd.prog 33 #[.string s, .string t] w fun e w' => e = .returned (.int .i64 (Lib.compareBytes s.data.toList t.data.toList)) ∧ Below w.heap.size w w' := by
  have hb0 : Hid (Below w.heap.size w w) := Below.refl _ _
  generalize hV : Lib.compareBytes s.data.toList t.data.toList = V
  have HV := Lib.hid hV
  clear hV
  go_enter Tryd.func33, Tryd.ntmps33
  go_wp2
  go_loopw [5] (fun i wr => ∃ k : Nat, k ≤ s.size ∧ k ≤ t.size ∧ i = .int .i64 k ∧ Hid (Lib.compareBytes (s.data.toList.drop k) (t.data.toList.drop k) = V) ∧ Hid (Below w.heap.size w wr)) (fun i _ => s.size - (intOf i).toNat)
  case atStart => exact ⟨0, by omega, by omega, rfl, HV, hb0⟩
  case round =>
    obtain ⟨k, hk1, hk2, rfl, hc, hb⟩ := hrel
    by_cases hlt : k < s.size ∧ k < t.size
    · obtain ⟨h1, h2⟩ := hlt
      have hst := cb_step (getElem_list s k h1) (getElem_list t k h2)
      rw [hc.out] at hst
      by_cases he : s[k] = t[k]
      · rw [if_pos he] at hst
        have HS : Hid (Lib.compareBytes (s.data.toList.drop (k + 1)) (t.data.toList.drop (k + 1)) = V) := hst.symm
        have hne : ((s[k].toNat : Int) != (t[k].toNat : Int)) = false := by rw [he]; simp
        clear hst he
        go_wp2
        go_quiet (fail)
        go_wp2
        go_roundw
        case rel => exact ⟨k + 1, by omega, by omega, by go_num, HS, below_drewN hb.out _⟩
        case measure => simp [intOf]; omega
      · rw [if_neg he] at hst
        have HS : Hid (cmpI s[k].toNat t[k].toNat = V) := hst.symm
        have hne : ((s[k].toNat : Int) != (t[k].toNat : Int)) = true := by
          have : s[k].toNat ≠ t[k].toNat := fun h => he (UInt8.toNat_inj.1 h)
          simp; omega
        clear hst he
        have w1 : IntKind.i64.wrap (s[k].toNat : Int) = (s[k].toNat : Int) := IntWalk.i64_in _ (by have := s[k].toNat_lt; omega)
        have w2 : IntKind.i64.wrap (t[k].toNat : Int) = (t[k].toNat : Int) := IntWalk.i64_in _ (by have := t[k].toNat_lt; omega)
        go_wp2
        go_quiet (fail)
        go_wp2
        generalize hq : wr.drewN nq = wq
        have HBQ : Hid (Below w.heap.size w wq) := by rw [← hq]; exact below_drewN hb.out _
        clear hq
        go_quiet ((go_at_call 31; exact Calls.quiet_of_same (rCompare_same _ _ _)))
        go_wp2
        go_ret
        exact ⟨ret_int HS.out, below_drewN HBQ.out _⟩
    · have hend := cb_end (l := s.data.toList) (m := t.data.toList) (k := k) (by rw [← size_list]; exact hk1) (by rw [← size_list]; exact hk2) (by rw [← size_list, ← size_list]; omega)
      rw [hc.out, ← size_list, ← size_list] at hend
      have HE : Hid (cmpI s.size t.size = V) := hend.symm
      clear hend
      by_cases hks : k < s.size
      · have hkt : t.size ≤ k := by omega
        clear hlt
        go_wp2_with fail
        refine (rCompare_any _ _ _).mono ?_
        rintro e w' ⟨rfl, rfl⟩
        go_wp2
        go_ret
        exact ⟨ret_int HE.out, hb.out⟩
      · have hks2 : s.size ≤ k := by omega
        clear hlt hks
        go_wp2_with fail
        refine (rCompare_any _ _ _).mono ?_
        rintro e w' ⟨rfl, rfl⟩
        go_wp2
        go_ret
        exact ⟨ret_int HE.out, hb.out⟩

theorem orders_long (s t : ByteArray) (w : World) (h : 16384 < s.size ∨ 16384 < t.size) : Calls Tryd.prog 8 #[.string s, .string t] w (KnownPost w) := by
  by_cases h1 : 16384 < s.size
  · have HD := Lib.hid (show decide (16384 < (s.size : Int)) = true by simp; omega)
    clear h h1
    go_enter Tryd.func8, Tryd.ntmps8
    go_wp2_with fail
    refine (long_any s _).mono ?_
    rintro e w' ⟨rfl, rfl⟩
    rw [HD.out]
    go_wp2_with fail
    refine (known_any _).mono ?_
    rintro e w3 ⟨rfl, hb3⟩
    have HB3 := Lib.hid hb3
    clear hb3
    go_wp2
    go_ret
    exact ⟨rfl, HB3.out⟩
  · have HD := Lib.hid (show decide (16384 < (s.size : Int)) = false by simp; omega)
    have HT := Lib.hid (show decide (16384 < (t.size : Int)) = true by simp; omega)
    clear h h1
    go_enter Tryd.func8, Tryd.ntmps8
    go_wp2_with fail
    refine (long_any s _).mono ?_
    rintro e w' ⟨rfl, rfl⟩
    rw [HD.out]
    go_wp2_with fail
    refine (long_any t _).mono ?_
    rintro e w' ⟨rfl, rfl⟩
    rw [HT.out]
    go_wp2_with fail
    refine (known_any _).mono ?_
    rintro e w3 ⟨rfl, hb3⟩
    have HB3 := Lib.hid hb3
    clear hb3
    go_wp2
    go_ret
    exact ⟨rfl, HB3.out⟩

set_option maxHeartbeats 400000 in
theorem orders_short (s t : ByteArray) (w : World) (h1 : ¬ 16384 < s.size) (h2 : ¬ 16384 < t.size) : Calls Tryd.prog 8 #[.string s, .string t] w (KnownPost w) := by
  have HD := Lib.hid (show decide (16384 < (s.size : Int)) = false by simp; omega)
  have HT := Lib.hid (show decide (16384 < (t.size : Int)) = false by simp; omega)
  have H1 := Lib.hid (CompareText_any s t)
  have H2 := Lib.hid (fun w => rCompareText_any s t w (by omega) (by omega))
  have H3 := Lib.hid (CompareText_any t s)
  rw [cb_neg s.data.toList t.data.toList] at H3
  obtain ⟨v1, v2⟩ := cb_bd s.data.toList t.data.toList
  clear h1 h2
  generalize Lib.compareBytes s.data.toList t.data.toList = V at *
  go_enter Tryd.func8, Tryd.ntmps8
  go_wp2_with fail
  refine (long_any s _).mono ?_
  rintro e w' ⟨rfl, rfl⟩
  rw [HD.out]
  go_wp2_with fail
  refine (long_any t _).mono ?_
  rintro e w' ⟨rfl, rfl⟩
  rw [HT.out]
  go_wp2_with fail
  refine (H1.out _).mono ?_
  rintro e w' ⟨rfl, rfl⟩
  go_wp2_with fail
  refine (H2.out _).mono ?_
  rintro e w1 ⟨rfl, hb1⟩
  have HB1 := Lib.hid hb1
  clear hb1
  go_wp2_with fail
  refine (H3.out _).mono ?_
  rintro e w' ⟨rfl, rfl⟩
  go_wp2_with fail
  refine (H1.out _).mono ?_
  rintro e w' ⟨rfl, rfl⟩
  go_wp2_with fail
  refine (known_any _).mono ?_
  rintro e w3 ⟨rfl, hb3⟩
  have HB3 : Hid (Below w.heap.size w w3) := HB1.out.trans (hb3.mono HB1.out.size)
  clear hb3
  go_wp2
  go_ret
  exact ⟨rfl, HB3.out⟩

theorem numOrders_walk (s : ByteArray) (_w0 : s.size ≤ maxLen) (t : ByteArray) (_w1 : t.size ≤ maxLen) (w : World) : Calls Tryd.prog 8 #[.string s, .string t] w (KnownPost w) := by
  by_cases h1 : 16384 < s.size
  · exact orders_long s t w (.inl h1)
  · by_cases h2 : 16384 < t.size
    · exact orders_long s t w (.inr h2)
    · exact orders_short s t w h1 h2

end Go.Proofs.YtmlifgngdilplaaDoor
