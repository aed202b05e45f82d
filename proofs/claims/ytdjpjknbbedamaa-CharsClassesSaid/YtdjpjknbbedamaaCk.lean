/-
  Is: chars' and the document's, in all cases. No condition.
-/
import Derived.Test.YtdjpjknbbedamaaCj
namespace Go.Proofs.Ytdjpjknbbedamaa
open Go.RowKit

theorem any_in (c : Int) (h : isCI c = true) : inS (clS 7) c = true := by
  have := isCI_iff.1 h
  have e : inS (clS 7) c = true ↔ (0 ≤ c ∧ c ≤ 55295) ∨ (57344 ≤ c ∧ c ≤ 1114111) := by simp [inS, clS]
  rw [e]
  omega
theorem In_at (i : Nat) (hi : i < 8) (c : Int) (h : isCI c = true) (w : World) : Calls Try.prog 56 #[.int .i64 c, .string (clN i)] w (BoolS (inS (clS i) c) w) := by
  match i, hi with
  | 0, _ => exact In_0 c w
  | 1, _ => exact In_1 c w
  | 2, _ => exact In_2 c w
  | 3, _ => exact In_3 c w
  | 4, _ => exact In_4 c w
  | 5, _ => exact In_5 c w
  | 6, _ => exact In_6 c w
  | 7, _ =>
    rw [any_in c h]
    exact In_7 c w
theorem IsClass_at (i : Nat) (hi : i < 8) (w : World) : Calls Try.prog 55 #[.string (clN i)] w (BoolS true w) := by
  match i, hi with
  | 0, _ => exact IsClass_0 w
  | 1, _ => exact IsClass_1 w
  | 2, _ => exact IsClass_2 w
  | 3, _ => exact IsClass_3 w
  | 4, _ => exact IsClass_4 w
  | 5, _ => exact IsClass_5 w
  | 6, _ => exact IsClass_6 w
  | 7, _ => exact IsClass_7 w

/-- What Is answers. -/
def IsP (b : Bool) (x : Int) (w : World) (e : Ending) (w' : World) : Prop := e = .returned (.tuple #[.bool b, .int .i64 x]) ∧ Below w.heap.size w w'

theorem rIs_no (c : Int) (s : ByteArray) (h : ∀ i, i < 8 → s ≠ clN i) (w : World) : Calls Try.prog 20 #[.int .i64 c, .string s] w (IsP false 4 w) := by
  have H1 := Lib.hid (fun w => IsClass_no s h w)
  have hb : Hid (Below w.heap.size w w) := Below.refl _ _
  clear h
  go_enter Try.func20, Try.ntmps20
  go_wp2_with fail
  refine (H1.out _).mono ?_
  rintro e w' ⟨rfl, rfl⟩
  go_wp2
  go_ret2
  exact ⟨rfl, hb.out⟩
theorem rIs_arg (c : Int) (i : Nat) (hi : i < 8) (hc : isCI c = false) (w : World) : Calls Try.prog 20 #[.int .i64 c, .string (clN i)] w (IsP false 1 w) := by
  have H1 := Lib.hid (fun w => IsClass_at i hi w)
  have H2 : Hid (∀ w, Calls Try.prog 52 #[.int .i64 c] w fun e w' => e = .returned (.bool false) ∧ w = w') := fun w => by
    have := IsChar_any c w
    rwa [hc] at this
  have hb : Hid (Below w.heap.size w w) := Below.refl _ _
  clear hc
  generalize clN i = s at *
  go_enter Try.func20, Try.ntmps20
  go_wp2_with fail
  refine (H1.out _).mono ?_
  rintro e w' ⟨rfl, rfl⟩
  go_wp2_with fail
  refine (H2.out _).mono ?_
  rintro e w' ⟨rfl, rfl⟩
  go_wp2
  go_ret2
  exact ⟨rfl, hb.out⟩
theorem rIs_yes (c : Int) (i : Nat) (hi : i < 8) (hc : isCI c = true) (w : World) : Calls Try.prog 20 #[.int .i64 c, .string (clN i)] w (IsP (inS (clS i) c) 0 w) := by
  have H1 := Lib.hid (fun w => IsClass_at i hi w)
  have H2 : Hid (∀ w, Calls Try.prog 52 #[.int .i64 c] w fun e w' => e = .returned (.bool true) ∧ w = w') := fun w => by
    have := IsChar_any c w
    rwa [hc] at this
  have H3 := Lib.hid (fun w => In_at i hi c hc w)
  have hb : Hid (Below w.heap.size w w) := Below.refl _ _
  clear hc
  generalize inS (clS i) c = Z at *
  generalize clN i = s at *
  go_enter Try.func20, Try.ntmps20
  go_wp2_with fail
  refine (H1.out _).mono ?_
  rintro e w' ⟨rfl, rfl⟩
  go_wp2_with fail
  refine (H2.out _).mono ?_
  rintro e w' ⟨rfl, rfl⟩
  go_wp2_with fail
  refine (H3.out _).mono ?_
  rintro e w' ⟨rfl, rfl⟩
  go_wp2
  go_ret2
  exact ⟨rfl, hb.out⟩

theorem Is_no (c : Int) (s : ByteArray) (hf : findS s tab = none) (w : World) : Calls Try.prog 19 #[.int .i64 c, .string s] w (IsP false 4 w) := by
  have H1 := Lib.hid (fun w => spans_miss s hf w)
  clear hf
  go_enter Try.func19, Try.ntmps19
  go_wp2_with fail
  refine (H1.out _).mono ?_
  rintro e w' ⟨rfl, hb⟩
  have HB := Lib.hid hb
  clear hb
  go_wp2
  go_ret2
  exact ⟨rfl, HB.out⟩
theorem Is_arg (c : Int) (i : Nat) (hi : i < 8) (hc : isCI c = false) (w : World) : Calls Try.prog 19 #[.int .i64 c, .string (clN i)] w (IsP false 1 w) := by
  have H1 := Lib.hid (fun w => spans_ok (clN i) (clS i) (clS_len i hi) (clS_ne i hi) (find_at i hi) w)
  have H2 : Hid (∀ w, Calls Try.prog 48 #[.int .i64 c] w fun e w' => e = .returned (.bool false) ∧ w = w') := fun w => by
    have := isCharacter_any c w
    rwa [hc] at this
  clear hc
  generalize clS i = l at *
  generalize clN i = s at *
  go_enter Try.func19, Try.ntmps19
  go_wp2_with fail
  refine (H1.out _).mono ?_
  rintro e w' ⟨v, rfl, hsp, hb⟩
  have HB := Lib.hid hb
  clear hb hsp
  go_wp2_with fail
  refine (H2.out _).mono ?_
  rintro e w' ⟨rfl, rfl⟩
  go_wp2
  go_ret2
  exact ⟨rfl, HB.out⟩
theorem Is_yes (c : Int) (i : Nat) (hi : i < 8) (hc : isCI c = true) (w : World) : Calls Try.prog 19 #[.int .i64 c, .string (clN i)] w (IsP (inS (clS i) c) 0 w) :=
  Is_there c (clN i) (clS i) (clS_len i hi) (clS_ne i hi) (find_at i hi) hc w

end Go.Proofs.Ytdjpjknbbedamaa
