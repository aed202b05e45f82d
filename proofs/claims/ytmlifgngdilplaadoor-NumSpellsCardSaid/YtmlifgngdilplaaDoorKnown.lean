/-
  num.Validate, num.NumberOf, and the law's known(): true in every world. Conditions: a text of at most 2^47 bytes.
-/
import Derived.Test.YtmlifgngdilplaaDoorDo
import Derived.Test.YtmlifgngdilplaaDoorText
namespace Go.Proofs.YtmlifgngdilplaaDoor
open Go.RowKit Go.MapKept

def valE (k n : Int) (z : Nat) : Int :=
  if 4096 < z then 3 else if k = 0 then (if n = 0 ∧ z = 0 then 0 else 1) else if k = 1 then (if isNumB n = true ∧ z = 0 then 0 else 1) else if k = 2 then (if n = 0 then 0 else 1) else 1

def ErrPost (v : Int) (w : World) (e : Ending) (w' : World) : Prop := e = .returned (.int .i64 v) ∧ Below w.heap.size w w'

set_option maxHeartbeats 400000 in
theorem Validate_any (k n : Int) (s : ByteArray) (t : Bool) (w : World) (hs : s.size ≤ 140737488355328) :
    Calls Tryd.prog 21 #[.agg #[.int .i64 k, .int .i64 n, .string s, .bool t]] w (ErrPost (valE k n s.size) w) := by
  have HP : Hid (∀ v w', v = valE k n s.size → Below w.heap.size w w' → ErrPost (valE k n s.size) w (.returned (.int .i64 v)) w') := by
    rintro v w' rfl hb
    exact ⟨rfl, hb⟩
  have hem := isEmpty_size s
  have HB : Hid (∀ (o : Obj), Below w.heap.size w (w.alloc o)) := fun o => (Below.refl _ _).alloc (Nat.le_refl _) o
  by_cases hz : 4096 < s.size
  · go_enter Tryd.func21, Tryd.ntmps21
    go_wp2
    go_ret
    exact HP.out _ _ (by simp [valE, hz]) (HB.out _)
  · have hzz : (s.size = 0) ∨ ¬ (s.size = 0) := by omega
    by_cases k0 : k = 0
    · subst k0
      by_cases n0 : n = 0
      · subst n0
        by_cases z0 : s.size = 0
        · have hem' : s.toList.isEmpty = true := by rw [hem]; simp [z0]
          clear hem hzz
          go_enter Tryd.func21, Tryd.ntmps21
          go_wp2
          go_ret
          exact HP.out _ _ (by simp [valE, z0]) (HB.out _)
        · have hem' : s.toList.isEmpty = false := by rw [hem]; simp [z0]
          clear hem hzz
          go_enter Tryd.func21, Tryd.ntmps21
          go_wp2
          go_ret
          exact HP.out _ _ (by simp [valE, z0, hz]) (HB.out _)
      · have n0' : (n == 0) = false := by simp [n0]
        clear hem hzz
        go_enter Tryd.func21, Tryd.ntmps21
        go_wp2
        go_ret
        exact HP.out _ _ (by simp [valE, n0, hz]) (HB.out _)
    · have k0' : (k == 0) = false := by simp [k0]
      by_cases k1 : k = 1
      · subst k1
        clear k0 k0'
        cases hn : isNumB n
        · have HN := Lib.hid hn
          clear hn hem hzz
          go_enter Tryd.func21, Tryd.ntmps21
          go_wp2_with fail
          refine (isNumber_any n _).mono ?_
          rintro e w' ⟨rfl, rfl⟩
          rw [HN.out]
          go_wp2
          go_ret
          exact HP.out _ _ (by simp [valE, HN.out, hz]) (HB.out _)
        · have HN := Lib.hid hn
          clear hn
          by_cases z0 : s.size = 0
          · have hem' : s.toList.isEmpty = true := by rw [hem]; simp [z0]
            clear hem hzz
            go_enter Tryd.func21, Tryd.ntmps21
            go_wp2_with fail
            refine (isNumber_any n _).mono ?_
            rintro e w' ⟨rfl, rfl⟩
            rw [HN.out]
            go_wp2
            go_ret
            exact HP.out _ _ (by simp [valE, HN.out, z0]) (HB.out _)
          · have hem' : s.toList.isEmpty = false := by rw [hem]; simp [z0]
            clear hem hzz
            go_enter Tryd.func21, Tryd.ntmps21
            go_wp2_with fail
            refine (isNumber_any n _).mono ?_
            rintro e w' ⟨rfl, rfl⟩
            rw [HN.out]
            go_wp2
            go_ret
            exact HP.out _ _ (by simp [valE, HN.out, z0, hz]) (HB.out _)
      · have k1' : (k == 1) = false := by simp [k1]
        clear hem hzz
        by_cases k2 : k = 2
        · subst k2
          by_cases n0 : n = 0
          · subst n0
            go_enter Tryd.func21, Tryd.ntmps21
            go_wp2
            go_ret
            exact HP.out _ _ (by simp [valE, hz]) (HB.out _)
          · have n0' : (n == 0) = false := by simp [n0]
            go_enter Tryd.func21, Tryd.ntmps21
            go_wp2
            go_ret
            exact HP.out _ _ (by simp [valE, n0, hz]) (HB.out _)
        · have k2' : (k == 2) = false := by simp [k2]
          go_enter Tryd.func21, Tryd.ntmps21
          go_wp2
          go_ret
          exact HP.out _ _ (by simp [valE, k0, k1, k2, hz]) (HB.out _)

/-- A number and an error. -/
def NePost (n v : Int) (w : World) (e : Ending) (w' : World) : Prop := e = .returned (.tuple #[.int .i64 n, .int .i64 v]) ∧ Below w.heap.size w w'
def nobN (k n : Int) (s : ByteArray) : Int := if valE k n s.size = 0 then (if k = 2 then numOf s.data.toList else n) else 0

/-- What a later world holds of a box of four cells. -/
theorem box_later {w w2 : World} {c0 c1 c2 c3 : Value} {T : TypeId} (hb : Below (w.alloc (.cells #[c0, c1, c2, c3] T)).heap.size (w.alloc (.cells #[c0, c1, c2, c3] T)) w2) :
    w2.cell? ⟨w.heap.size, 0, none⟩ = some c0 ∧ w2.cell? ⟨w.heap.size, 1, none⟩ = some c1 ∧ w2.cell? ⟨w.heap.size, 2, none⟩ = some c2 ∧ w2.cell? ⟨w.heap.size, 3, none⟩ = some c3 ∧ Below w.heap.size w w2 := by
  have h : ∀ i, w2.cell? ⟨w.heap.size, i, none⟩ = #[c0, c1, c2, c3][i]? := fun i => by
    rw [hb.cell (by simp), World.cell?_alloc_new]
  refine ⟨h 0, h 1, h 2, h 3, ?_⟩
  exact ((Below.refl _ _).alloc (Nat.le_refl _) _).trans (hb.mono (by simp))

set_option maxHeartbeats 400000 in
theorem NumberOf_any (k n : Int) (s : ByteArray) (t : Bool) (w : World) (hs : s.size ≤ 140737488355328) :
    Calls Tryd.prog 18 #[.agg #[.int .i64 k, .int .i64 n, .string s, .bool t]] w (NePost (nobN k n s) (valE k n s.size) w) := by
  by_cases hv : valE k n s.size = 0
  · have hvv : (valE k n s.size == 0) = true := by simp [hv]
    have hvn : (valE k n s.size != 0) = false := by simp [hv]
    by_cases k2 : k = 2
    · subst k2
      have HF : Hid (∀ w', Below w.heap.size w w' → NePost (nobN 2 n s) (valE 2 n s.size) w (.returned (.tuple #[.int .i64 (numOf s.data.toList), .int .i64 0])) w') := fun w' hb => by
        refine ⟨?_, hb⟩
        unfold nobN
        rw [if_pos hv, if_pos rfl, hv]
      clear hv
      go_enter Tryd.func18, Tryd.ntmps18
      go_wp2_with fail
      refine (Validate_any 2 n s t _ hs).mono ?_
      rintro e w2 ⟨rfl, hb2⟩
      obtain ⟨c0, c1, c2, c3, hb⟩ := box_later hb2
      have HB := Lib.hid hb
      have HZ := Lib.hid hb2.size
      clear hb2 hb
      go_wp2_with fail
      refine (numberOf_any s _ hs).mono ?_
      rintro e w3 ⟨rfl, hb3⟩
      have HB3 : Hid (Below w.heap.size w w3) := HB.out.trans (hb3.mono HB.out.size)
      clear hb3
      go_wp2
      go_ret2
      exact HF.out _ HB3.out
    · have k2' : (k == 2) = false := by simp [k2]
      have HF : Hid (∀ w', Below w.heap.size w w' → NePost (nobN k n s) (valE k n s.size) w (.returned (.tuple #[.int .i64 n, .int .i64 0])) w') := fun w' hb => by
        refine ⟨?_, hb⟩
        unfold nobN
        rw [if_pos hv, if_neg k2, hv]
      clear hv k2
      go_enter Tryd.func18, Tryd.ntmps18
      go_wp2_with fail
      refine (Validate_any k n s t _ hs).mono ?_
      rintro e w2 ⟨rfl, hb2⟩
      obtain ⟨c0, c1, c2, c3, hb⟩ := box_later hb2
      have HB := Lib.hid hb
      clear hb2 hb
      go_wp2
      go_ret2
      exact HF.out _ HB.out
  · have hvn : (valE k n s.size != 0) = true := by simp [hv]
    have HF : Hid (∀ w', Below w.heap.size w w' → NePost (nobN k n s) (valE k n s.size) w (.returned (.tuple #[.int .i64 0, .int .i64 (valE k n s.size)])) w') := fun w' hb => by
      refine ⟨?_, hb⟩
      unfold nobN
      rw [if_neg hv]
    clear hv
    go_enter Tryd.func18, Tryd.ntmps18
    go_wp2_with fail
    refine (Validate_any k n s t _ hs).mono ?_
    rintro e w2 ⟨rfl, hb2⟩
    obtain ⟨c0, c1, c2, c3, hb⟩ := box_later hb2
    have HB := Lib.hid hb
    clear hb2 hb
    go_wp2
    go_ret2
    exact HF.out _ HB.out

def KnownPost (w : World) (e : Ending) (w' : World) : Prop := e = .returned (.bool true) ∧ Below w.heap.size w w'

theorem known_nums : nobN 2 0 ⟨#[32, 32, 45, 49, 50, 97, 98, 99]⟩ = -12 ∧ valE 2 0 (ByteArray.size ⟨#[32, 32, 45, 49, 50, 97, 98, 99]⟩) = 0 ∧ doN 3 (-7) 2 = -4 ∧ doW 3 (-7) 2 = 0 ∧ doE 3 (-7) 2 = 0 ∧ looksB [32, 32, 45, 49, 50, 97, 98, 99] = false := by
  decide +kernel

set_option maxHeartbeats 400000 in
theorem known_any (w : World) : Calls Tryd.prog 16 #[] w (KnownPost w) := by
  obtain ⟨k1, k2, k3, k4, k5, k6⟩ := known_nums
  have h1 := fun w => NumberOf_any 2 0 ⟨#[32, 32, 45, 49, 50, 97, 98, 99]⟩ false w (by decide)
  have h2 := Do_any 3 (-7) 2
  have h3 := fun w => Looks_any ⟨#[32, 32, 45, 49, 50, 97, 98, 99]⟩ w (by decide)
  have e3 : (⟨#[32, 32, 45, 49, 50, 97, 98, 99]⟩ : ByteArray).data.toList = [32, 32, 45, 49, 50, 97, 98, 99] := rfl
  rw [k1, k2] at h1
  rw [k3, k4, k5] at h2
  rw [e3, k6] at h3
  have H1 := Lib.hid h1
  have H2 := Lib.hid h2
  have H3 := Lib.hid h3
  clear k1 k2 k3 k4 k5 k6 h1 h2 h3 e3
  go_enter Tryd.func16, Tryd.ntmps16
  go_wp2_with fail
  refine (H1.out _).mono ?_
  rintro e w1 ⟨rfl, hb1⟩
  have HB1 := Lib.hid hb1
  clear hb1
  go_wp2_with fail
  refine (H2.out _).mono ?_
  rintro e w2 ⟨he, hb2⟩
  unfold three at he
  subst he
  have HB2 : Hid (Below w.heap.size w w2) := HB1.out.trans (hb2.mono HB1.out.size)
  clear hb2
  go_wp2_with fail
  refine (H3.out _).mono ?_
  rintro e w3 ⟨rfl, hb3⟩
  have HB3 : Hid (Below w.heap.size w w3) := HB2.out.trans (hb3.mono HB2.out.size)
  clear hb3
  go_wp2
  go_ret
  exact ⟨rfl, HB3.out⟩

end Go.Proofs.YtmlifgngdilplaaDoor
