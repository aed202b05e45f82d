/-
  num.TextOf, num.Truth and the document's Validate, Number, Text and IsTrue of a scalar. Conditions: a text of at most 2^47 bytes; strconv's table as it is laid.
-/
import Derived.Test.YtmlifgngdilplaaDoorOft
import Derived.Test.YtmlifgngdilplaaDoorWr
namespace Go.Proofs.YtmlifgngdilplaaDoor
open Go.RowKit Go.MapKept

set_option maxHeartbeats 400000 in
theorem rValidate_any (k n : Int) (s : ByteArray) (t : Bool) (w : World) (hs : s.size ≤ 140737488355328) :
    Calls Tryd.prog 17 #[.agg #[.int .i64 k, .int .i64 n, .string s, .bool t]] w (ErrPost (valE k n s.size) w) := by
  have HP : Hid (∀ v w', v = valE k n s.size → Below w.heap.size w w' → ErrPost (valE k n s.size) w (.returned (.int .i64 v)) w') := by
    rintro v w' rfl hb
    exact ⟨rfl, hb⟩
  have hem := isEmpty_size s
  have HB : Hid (∀ (o : Obj), Below w.heap.size w (w.alloc o)) := fun o => (Below.refl _ _).alloc (Nat.le_refl _) o
  by_cases hz : 4096 < s.size
  · go_enter Tryd.func17, Tryd.ntmps17
    go_wp2
    go_ret
    exact HP.out _ _ (by simp [valE, hz]) (HB.out _)
  · have hzz : (s.size = 0) ∨ ¬ (s.size = 0) := by omega
    by_cases k0 : k = 0
    · subst k0
      by_cases n0 : n = 0
      · subst n0
        by_cases z0 : s.size = 0
        · have hem' : s.toList.isEmpty = true := by rw [hem]; simp [z0]
          clear hem hzz
          go_enter Tryd.func17, Tryd.ntmps17
          go_wp2
          go_ret
          exact HP.out _ _ (by simp [valE, z0]) (HB.out _)
        · have hem' : s.toList.isEmpty = false := by rw [hem]; simp [z0]
          clear hem hzz
          go_enter Tryd.func17, Tryd.ntmps17
          go_wp2
          go_ret
          exact HP.out _ _ (by simp [valE, z0, hz]) (HB.out _)
      · have n0' : (n == 0) = false := by simp [n0]
        clear hem hzz
        go_enter Tryd.func17, Tryd.ntmps17
        go_wp2
        go_ret
        exact HP.out _ _ (by simp [valE, n0, hz]) (HB.out _)
    · have k0' : (k == 0) = false := by simp [k0]
      by_cases k1 : k = 1
      · subst k1
        clear k0 k0'
        cases hn : isNumB n
        · have HN := Lib.hid hn
          clear hn hem hzz
          go_enter Tryd.func17, Tryd.ntmps17
          go_wp2_with fail
          refine (IsNum_any n _).mono ?_
          rintro e w' ⟨rfl, rfl⟩
          rw [HN.out]
          go_wp2
          go_ret
          exact HP.out _ _ (by simp [valE, HN.out, hz]) (HB.out _)
        · have HN := Lib.hid hn
          clear hn
          by_cases z0 : s.size = 0
          · have hem' : s.toList.isEmpty = true := by rw [hem]; simp [z0]
            clear hem hzz
            go_enter Tryd.func17, Tryd.ntmps17
            go_wp2_with fail
            refine (IsNum_any n _).mono ?_
            rintro e w' ⟨rfl, rfl⟩
            rw [HN.out]
            go_wp2
            go_ret
            exact HP.out _ _ (by simp [valE, HN.out, z0]) (HB.out _)
          · have hem' : s.toList.isEmpty = false := by rw [hem]; simp [z0]
            clear hem hzz
            go_enter Tryd.func17, Tryd.ntmps17
            go_wp2_with fail
            refine (IsNum_any n _).mono ?_
            rintro e w' ⟨rfl, rfl⟩
            rw [HN.out]
            go_wp2
            go_ret
            exact HP.out _ _ (by simp [valE, HN.out, z0, hz]) (HB.out _)
      · have k1' : (k == 1) = false := by simp [k1]
        clear hem hzz
        by_cases k2 : k = 2
        · subst k2
          by_cases n0 : n = 0
          · subst n0
            go_enter Tryd.func17, Tryd.ntmps17
            go_wp2
            go_ret
            exact HP.out _ _ (by simp [valE, hz]) (HB.out _)
          · have n0' : (n == 0) = false := by simp [n0]
            go_enter Tryd.func17, Tryd.ntmps17
            go_wp2
            go_ret
            exact HP.out _ _ (by simp [valE, n0, hz]) (HB.out _)
        · have k2' : (k == 2) = false := by simp [k2]
          go_enter Tryd.func17, Tryd.ntmps17
          go_wp2
          go_ret
          exact HP.out _ _ (by simp [valE, k0, k1, k2, hz]) (HB.out _)


def tx (k n : Int) (s : ByteArray) : ByteArray := if k = 1 then bs (Lib.itoa n) else s
theorem valE_num {n : Int} {z : Nat} (h : valE 1 n z = 0) : inR n := by
  unfold valE at h
  split at h
  · omega
  · simp at h
    exact inR_iff.1 h.1

def TxPost (t : ByteArray) (v : Int) (w : World) (e : Ending) (w' : World) : Prop := e = .returned (.tuple #[.string t, .int .i64 v]) ∧ Below w.heap.size w w'

set_option maxHeartbeats 400000 in
theorem TextOf_any (k n : Int) (s : ByteArray) (t : Bool) (w : World) (hs : s.size ≤ 140737488355328) (htab : Tab w) :
    Calls Tryd.prog 19 #[.agg #[.int .i64 k, .int .i64 n, .string s, .bool t]] w (TxPost (if valE k n s.size = 0 then tx k n s else ⟨#[]⟩) (valE k n s.size) w) := by
  have HTAB := Lib.hid htab
  clear htab
  by_cases hv : valE k n s.size = 0
  · have hvn : (valE k n s.size != 0) = false := by simp [hv]
    rw [if_pos hv]
    by_cases k1 : k = 1
    · subst k1
      have HI := Lib.hid (Itoa_any n (valE_num hv))
      have HF : Hid (∀ w', Below w.heap.size w w' → TxPost (tx 1 n s) (valE 1 n s.size) w (.returned (.tuple #[.string (bs (Lib.itoa n)), .int .i64 0])) w') := fun w' hb => by
        refine ⟨?_, hb⟩
        unfold tx
        rw [if_pos rfl, hv]
      clear hv
      generalize bs (Lib.itoa n) = T at *
      go_enter Tryd.func19, Tryd.ntmps19
      go_wp2_with fail
      refine (Validate_any 1 n s t _ hs).mono ?_
      rintro e w2 ⟨rfl, hb2⟩
      obtain ⟨c0, c1, c2, c3, hb⟩ := box_later hb2
      have HB := Lib.hid hb
      clear hb2 hb
      go_wp2_with fail
      refine (HI.out _ (HTAB.out.later HB.out)).mono ?_
      rintro e w3 ⟨rfl, hb3⟩
      have HB3 : Hid (Below w.heap.size w w3) := HB.out.trans (hb3.mono HB.out.size)
      clear hb3
      go_wp2
      go_ret2
      exact HF.out _ HB3.out
    · have k1' : (k == 1) = false := by simp [k1]
      have HF : Hid (∀ w', Below w.heap.size w w' → TxPost (tx k n s) (valE k n s.size) w (.returned (.tuple #[.string s, .int .i64 0])) w') := fun w' hb => by
        refine ⟨?_, hb⟩
        unfold tx
        rw [if_neg k1, hv]
      clear hv k1
      go_enter Tryd.func19, Tryd.ntmps19
      go_wp2_with fail
      refine (Validate_any k n s t _ hs).mono ?_
      rintro e w2 ⟨rfl, hb2⟩
      obtain ⟨c0, c1, c2, c3, hb⟩ := box_later hb2
      have HB := Lib.hid hb
      clear hb2 hb
      go_wp2
      go_ret2
      exact HF.out _ HB.out
  · have hvn : (valE k n s.size != 0) = true := by simp [hv]
    rw [if_neg hv]
    have HF : Hid (∀ w', Below w.heap.size w w' → TxPost ⟨#[]⟩ (valE k n s.size) w (.returned (.tuple #[.string ⟨#[]⟩, .int .i64 (valE k n s.size)])) w') := fun w' hb => ⟨rfl, hb⟩
    clear hv
    go_enter Tryd.func19, Tryd.ntmps19
    go_wp2_with fail
    refine (Validate_any k n s t _ hs).mono ?_
    rintro e w2 ⟨rfl, hb2⟩
    obtain ⟨c0, c1, c2, c3, hb⟩ := box_later hb2
    have HB := Lib.hid hb
    clear hb2 hb
    go_wp2
    go_ret2
    exact HF.out _ HB.out

/-- Whether a text is true. -/
def trueB (t : ByteArray) : Bool := !t.toList.isEmpty && !(t.toList == [48])
theorem ret_be {a b : Bool} {n : Int} (h : a = b) : Ending.returned (.tuple #[.bool a, .int .i64 n]) = .returned (.tuple #[.bool b, .int .i64 n]) := by rw [h]
def TrPost (b : Bool) (v : Int) (w : World) (e : Ending) (w' : World) : Prop := e = .returned (.tuple #[.bool b, .int .i64 v]) ∧ Below w.heap.size w w'

set_option maxHeartbeats 400000 in
theorem Truth_any (k n : Int) (s : ByteArray) (t : Bool) (w : World) (hs : s.size ≤ 140737488355328) (htab : Tab w) :
    Calls Tryd.prog 20 #[.agg #[.int .i64 k, .int .i64 n, .string s, .bool t]] w (TrPost (if valE k n s.size = 0 then trueB (tx k n s) else false) (valE k n s.size) w) := by
  have HTAB := Lib.hid htab
  clear htab
  have HT := Lib.hid (fun w ht => TextOf_any k n s t w hs ht)
  by_cases hv : valE k n s.size = 0
  · rw [if_pos hv]
    rw [if_pos hv, hv] at HT
    rw [hv]
    clear hv
    generalize tx k n s = T at *
    go_enter Tryd.func20, Tryd.ntmps20
    go_wp2_with fail
    refine (HT.out _ (HTAB.out.later ((Below.refl _ _).alloc (Nat.le_refl _) _))).mono ?_
    rintro e w2 ⟨rfl, hb2⟩
    have HB : Hid (Below w.heap.size w w2) := ((Below.refl _ _).alloc (Nat.le_refl _) _).trans (hb2.mono (by simp))
    clear hb2
    go_wp2
    all_goals
      go_ret2
      refine ⟨?_, HB.out⟩
      first | rfl | exact ret_be (by simp [trueB, *])
  · rw [if_neg hv]
    rw [if_neg hv] at HT
    have hvn : (valE k n s.size != 0) = true := by simp [hv]
    clear hv
    generalize valE k n s.size = E at *
    go_enter Tryd.func20, Tryd.ntmps20
    go_wp2_with fail
    refine (HT.out _ (HTAB.out.later ((Below.refl _ _).alloc (Nat.le_refl _) _))).mono ?_
    rintro e w2 ⟨rfl, hb2⟩
    have HB : Hid (Below w.heap.size w w2) := ((Below.refl _ _).alloc (Nat.le_refl _) _).trans (hb2.mono (by simp))
    clear hb2
    go_wp2
    go_ret2
    exact ⟨rfl, HB.out⟩

def StrPost (t : ByteArray) (w : World) (e : Ending) (w' : World) : Prop := e = .returned (.string t) ∧ Below w.heap.size w w'

theorem rText_any (k n : Int) (s : ByteArray) (t : Bool) (w : World) (hn : k = 1 → inR n) :
    Calls Tryd.prog 23 #[.agg #[.int .i64 k, .int .i64 n, .string s, .bool t]] w (StrPost (tx k n s) w) := by
  have HB : Hid (∀ (o : Obj), Below w.heap.size w (w.alloc o)) := fun o => (Below.refl _ _).alloc (Nat.le_refl _) o
  by_cases k1 : k = 1
  · subst k1
    have HI := Lib.hid (Written_any n (hn rfl))
    have HF : Hid (tx 1 n s = bs (Lib.itoa n)) := rfl
    clear hn
    generalize bs (Lib.itoa n) = T at *
    go_enter Tryd.func23, Tryd.ntmps23
    go_wp2_with fail
    refine (HI.out _).mono ?_
    rintro e w3 ⟨rfl, rfl⟩
    go_wp2
    go_ret
    exact ⟨by rw [HF.out]; rfl, HB.out _⟩
  · have k1' : (k == 1) = false := by simp [k1]
    have HF : Hid (tx k n s = s) := if_neg k1
    clear k1 hn
    go_enter Tryd.func23, Tryd.ntmps23
    go_wp2
    go_ret
    exact ⟨by rw [HF.out]; rfl, HB.out _⟩

def nobV (k n : Int) (s : ByteArray) : Int := if k = 2 then numOf s.data.toList else n
theorem rNumber_any (k n : Int) (s : ByteArray) (t : Bool) (w : World) (hs : s.size ≤ 140737488355328) :
    Calls Tryd.prog 22 #[.agg #[.int .i64 k, .int .i64 n, .string s, .bool t]] w (ErrPost (nobV k n s) w) := by
  have HB : Hid (∀ (o : Obj), Below w.heap.size w (w.alloc o)) := fun o => (Below.refl _ _).alloc (Nat.le_refl _) o
  by_cases k2 : k = 2
  · subst k2
    have HF : Hid (nobV 2 n s = numOf s.data.toList) := rfl
    go_enter Tryd.func22, Tryd.ntmps22
    go_wp2_with fail
    refine (OfText_any s _ hs).mono ?_
    rintro e w3 ⟨rfl, rfl⟩
    go_wp2
    go_ret
    exact ⟨by rw [HF.out]; rfl, HB.out _⟩
  · have k2' : (k == 2) = false := by simp [k2]
    have HF : Hid (nobV k n s = n) := if_neg k2
    clear k2
    go_enter Tryd.func22, Tryd.ntmps22
    go_wp2
    go_ret
    exact ⟨by rw [HF.out]; rfl, HB.out _⟩

theorem rIsTrue_any (k n : Int) (s : ByteArray) (t : Bool) (w : World) (hn : k = 1 → inR n) :
    Calls Tryd.prog 24 #[.agg #[.int .i64 k, .int .i64 n, .string s, .bool t]] w (BoolPost (trueB (tx k n s)) w) := by
  have HT := Lib.hid (fun w => rText_any k n s t w hn)
  clear hn
  generalize tx k n s = T at *
  go_enter Tryd.func24, Tryd.ntmps24
  go_wp2_with fail
  refine (HT.out _).mono ?_
  rintro e w2 ⟨rfl, hb2⟩
  have HB : Hid (Below w.heap.size w w2) := ((Below.refl _ _).alloc (Nat.le_refl _) _).trans (hb2.mono (by simp))
  clear hb2
  go_wp2
  all_goals
    go_ret
    refine ⟨?_, HB.out⟩
    first | rfl | exact ret_bool (by simp [trueB, *])

end Go.Proofs.YtmlifgngdilplaaDoor
