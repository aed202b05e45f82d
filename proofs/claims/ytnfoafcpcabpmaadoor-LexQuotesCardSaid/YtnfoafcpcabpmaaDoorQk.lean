/-
  Which quote begins: isDelimiter, quoteKind. Conditions: texts of at most 100000 bytes.
-/
import Derived.Test.YtnfoafcpcabpmaaDoorPb
namespace Go.Proofs.YtnfoafcpcabpmaaDoor
open Go.RowKit

def dlL : List UInt8 := [40, 91, 123, 60, 47, 33, 124, 126, 39, 34]
def dlB (b : UInt8) : Bool := dlL.contains b
theorem ixB_ge (c : UInt8) : ∀ (l : List UInt8), (0 ≤ Lib.indexByte l c ↔ c ∈ l) ∧ -1 ≤ Lib.indexByte l c
  | [] => by simp [Lib.indexByte]
  | b :: l => by
    obtain ⟨h1, h2⟩ := ixB_ge c l
    have e : Lib.indexByte (b :: l) c = if b == c then (0 : Int) else if Lib.indexByte l c == -1 then -1 else Lib.indexByte l c + 1 := rfl
    rw [e]
    by_cases hb : b = c
    · subst hb
      simp
    · have hb2 : (b == c) = false := by rw [beq_eq_false_iff_ne]; exact hb
      rw [hb2]
      by_cases hi : Lib.indexByte l c = -1
      · rw [hi]
        rw [hi] at h1
        have hn : c ∉ l := fun h => by have := h1.2 h; omega
        have hb3 : ¬ c = b := fun h => hb h.symm
        simp [hn, hb3]
      · have hi2 : (Lib.indexByte l c == -1) = false := by rw [beq_eq_false_iff_ne]; exact hi
        have hm : c ∈ l := h1.1 (by omega)
        rw [hi2]
        simp [hm]
        omega
theorem idxB_any (s : ByteArray) (c : UInt8) (w : World) : Calls Tryd.prog 47 #[.string s, .int .u8 c.toNat] w fun e w' => e = .returned (.int .i64 (Lib.indexByte s.data.toList c)) ∧ w = w' := by
  refine (Tryd.strings_IndexByte s c.toNat w).mono ?_
  rintro e w' ⟨rfl, rfl⟩
  refine ⟨?_, rfl⟩
  congr 2
  simp
theorem isDelimiter_any (b : UInt8) (w : World) : Calls Tryd.prog 83 #[.int .u8 b.toNat] w (BoS (dlB b) w) := by
  have HI := Lib.hid (fun w => idxB_any ⟨#[40, 91, 123, 60, 47, 33, 124, 126, 39, 34]⟩ b w)
  obtain ⟨h1, h2⟩ := ixB_ge b dlL
  have HX : Hid (decide (0 ≤ Lib.indexByte dlL b) = dlB b) := by
    show _ = _
    unfold dlB
    rw [Bool.eq_iff_iff, decide_eq_true_eq, List.contains_iff_mem]
    exact h1
  have HI2 : Hid (∀ w, Calls Tryd.prog 47 #[.string ⟨#[40, 91, 123, 60, 47, 33, 124, 126, 39, 34]⟩, .int .u8 b.toNat] w fun e w' => e = .returned (.int .i64 (Lib.indexByte dlL b)) ∧ w = w') := HI.out
  have HP : Hid (∀ v w, v = dlB b → BoS (dlB b) w (.returned (.bool v)) w) := fun v w h => BoS.mk h w
  clear h1 HI
  generalize Lib.indexByte dlL b = n at *
  generalize b.toNat = x at *
  go_enter Tryd.func83, Tryd.ntmps83
  go_wp2_with fail
  refine (HI2.out _).mono ?_
  rintro e w' ⟨rfl, rfl⟩
  go_wp2
  go_ret
  exact HP.out _ _ HX.out

/-- The kind of a quote, and how many bytes stand before its delimiter. -/
def qkW (t : List UInt8) : Int × Int :=
  if t = [113] then (4, 1) else if t = [113, 113] then (5, 2) else if t = [113, 119] then (6, 2) else if t = [109] then (7, 1) else if t = [115] then (8, 1) else if t = [116, 114] then (9, 2) else (0, -1)
def qkd (l : List UInt8) : Int × Int :=
  if by0 l 0 = 39 then (4, 0) else if by0 l 0 = 34 then (5, 0) else if by0 l 0 = 47 then (7, 0)
  else if wsz l = l.length then (0, -1) else if dlB (by0 l (wsz l)) = false then (0, -1) else qkW (l.take (wsz l))
theorem take_list (s : ByteArray) (k : Nat) : (s.extract 0 k).data.toList = s.data.toList.take k := by
  rw [Lib.extract_data]
  simp
def TwS (p : Int × Int) (w : World) (e : Ending) (w' : World) : Prop := e = .returned (.tuple #[.int .i64 p.1, .int .i64 p.2]) ∧ w = w'

set_option maxRecDepth 100000 in
set_option maxHeartbeats 8000000 in
theorem quoteKind_any (s : ByteArray) (w : World) (hs : s.size ≤ 100000) (h0 : 0 < s.size) : Calls Tryd.prog 61 #[.string s] w (TwS (qkd s.data.toList) w) := by
  have hsl : s.size = s.data.toList.length := Lib.size_eq s
  have hb0 : by0 s.data.toList 0 = s[0] := by0_at s 0 h0
  have HP : Hid (∀ a b w, (a, b) = qkd s.data.toList → TwS (qkd s.data.toList) w (.returned (.tuple #[.int .i64 a, .int .i64 b])) w) := fun a b w h => by
    rw [← h]
    exact ⟨rfl, rfl⟩
  by_cases c1 : s[0] = 39
  · have f1 : ((s[0].toNat : Int) == 39) = true := by rw [c1]; rfl
    have HX : Hid (((4 : Int), (0 : Int)) = qkd s.data.toList) := by
      show _ = _
      unfold qkd
      rw [hb0, if_pos c1]
    clear c1 hb0 hsl
    go_enter Tryd.func61, Tryd.ntmps61
    go_wp2
    go_ret2
    exact HP.out _ _ _ HX.out
  have f1 : ((s[0].toNat : Int) == 39) = false := u8_ne (b := 39) c1
  by_cases c2 : s[0] = 34
  · have f2 : ((s[0].toNat : Int) == 34) = true := by rw [c2]; rfl
    have HX : Hid (((5 : Int), (0 : Int)) = qkd s.data.toList) := by
      show _ = _
      unfold qkd
      rw [hb0, if_neg c1, if_pos c2]
    clear c1 c2 hb0 hsl
    go_enter Tryd.func61, Tryd.ntmps61
    go_wp2
    go_ret2
    exact HP.out _ _ _ HX.out
  have f2 : ((s[0].toNat : Int) == 34) = false := u8_ne (b := 34) c2
  by_cases c3 : s[0] = 47
  · have f3 : ((s[0].toNat : Int) == 47) = true := by rw [c3]; rfl
    have HX : Hid (((7 : Int), (0 : Int)) = qkd s.data.toList) := by
      show _ = _
      unfold qkd
      rw [hb0, if_neg c1, if_neg c2, if_pos c3]
    clear c1 c2 c3 hb0 hsl
    go_enter Tryd.func61, Tryd.ntmps61
    go_wp2
    go_ret2
    exact HP.out _ _ _ HX.out
  have f3 : ((s[0].toNat : Int) == 47) = false := u8_ne (b := 47) c3
  have hq : qkd s.data.toList = if wsz s.data.toList = s.data.toList.length then (0, -1) else if dlB (by0 s.data.toList (wsz s.data.toList)) = false then (0, -1) else qkW (s.data.toList.take (wsz s.data.toList)) := by
    unfold qkd
    rw [hb0, if_neg c1, if_neg c2, if_neg c3]
  have HW := Lib.hid (fun w => wordSize_any s w (by omega))
  have hwl := wsz_le s.data.toList
  have HDL := Lib.hid isDelimiter_any
  have HBY : Hid (∀ k (h : k < s.size), by0 s.data.toList k = s[k]) := fun k h => by0_at s k h
  have hex := take_list s (wsz s.data.toList)
  obtain ⟨n, hn⟩ : ∃ n, wsz s.data.toList = n := ⟨_, rfl⟩
  rw [hn] at hq HW hwl hex
  clear c1 c2 c3 hb0 hn
  by_cases c4 : n = s.size
  · have g4 : ((n : Int) == (s.size : Int)) = true := by rw [c4]; simp
    have HX : Hid (((0 : Int), (-1 : Int)) = qkd s.data.toList) := by
      show _ = _
      rw [hq, if_pos (by omega)]
    clear c4 hq hsl hwl hex
    go_enter Tryd.func61, Tryd.ntmps61
    go_wp2_with fail
    refine (HW.out _).mono ?_
    rintro e w' ⟨rfl, rfl⟩
    go_wp2
    go_ret2
    exact HP.out _ _ _ HX.out
  have g4 : ((n : Int) == (s.size : Int)) = false := by rw [beq_eq_false_iff_ne]; omega
  have hlt : n < s.size := by omega
  rw [if_neg (by omega), HBY.out n hlt] at hq
  cases c5 : dlB s[n]
  · have HX : Hid (((0 : Int), (-1 : Int)) = qkd s.data.toList) := by
      show _ = _
      rw [hq, if_pos c5]
    clear c4 hq hsl hwl hex
    go_enter Tryd.func61, Tryd.ntmps61
    go_wp2_with (first
      | (go_at_call 25; refine (HW.out _).mono ?_; rintro e w' ⟨rfl, rfl⟩)
      | (go_at_call 83; refine (HDL.out _ _).mono ?_; rintro e w' ⟨rfl, rfl⟩))
    go_ret2
    exact HP.out _ _ _ HX.out
  · rw [c5, if_neg (by simp), ← hex] at hq
    unfold qkW at hq
    clear c4 hsl hwl hex
    have hto : ∀ t : List UInt8, (s.extract 0 n).data.toList ≠ t → ((s.extract 0 n).toList == t) = false := fun t h => by
      rw [Lib.toList_data, beq_eq_false_iff_ne]
      exact h
    have hyes : ∀ t : List UInt8, (s.extract 0 n).data.toList = t → s.extract 0 n = ⟨t.toArray⟩ := fun t h => by
      rw [← bs_of (s.extract 0 n), h]
      rfl
    by_cases k1 : (s.extract 0 n).data.toList = [113]
    · have HX : Hid (((4 : Int), (1 : Int)) = qkd s.data.toList) := by show _ = _; rw [hq, if_pos k1]
      have he := hyes _ k1
      have hn1 : n = 1 := by
        have := congrArg List.length k1
        rw [take_list, List.length_take] at this
        have h2 : s.size = s.data.toList.length := Lib.size_eq s
        simp at this
        omega
      clear hq hto hyes k1
      subst hn1
      have he2 : s.extract 0 1 = ⟨#[113]⟩ := he
      have HW2 : Hid (∀ w, Calls Tryd.prog 25 #[.string s] w (InS 1 w)) := HW.out
      have g5 : ((1 : Int) == (s.size : Int)) = false := g4
      clear he g4 HW
      go_enter Tryd.func61, Tryd.ntmps61
      go_wp2_with (first
        | (go_at_call 25; refine (HW2.out _).mono ?_; rintro e w' ⟨rfl, rfl⟩)
        | (go_at_call 83; refine (HDL.out _ _).mono ?_; rintro e w' ⟨rfl, rfl⟩))
      go_ret2
      exact HP.out _ _ _ HX.out
    by_cases k2 : (s.extract 0 n).data.toList = [113, 113]
    · have HX : Hid (((5 : Int), (2 : Int)) = qkd s.data.toList) := by show _ = _; rw [hq, if_neg k1, if_pos k2]
      have he := hyes _ k2
      have hn1 : n = 2 := by
        have := congrArg List.length k2
        rw [take_list, List.length_take] at this
        have h2 : s.size = s.data.toList.length := Lib.size_eq s
        simp at this
        omega
      clear hq hto hyes k1 k2
      subst hn1
      have he2 : s.extract 0 2 = ⟨#[113, 113]⟩ := he
      have HW2 : Hid (∀ w, Calls Tryd.prog 25 #[.string s] w (InS 2 w)) := HW.out
      have g5 : ((2 : Int) == (s.size : Int)) = false := g4
      clear he g4 HW
      go_enter Tryd.func61, Tryd.ntmps61
      go_wp2_with (first
        | (go_at_call 25; refine (HW2.out _).mono ?_; rintro e w' ⟨rfl, rfl⟩)
        | (go_at_call 83; refine (HDL.out _ _).mono ?_; rintro e w' ⟨rfl, rfl⟩))
      go_ret2
      exact HP.out _ _ _ HX.out
    by_cases k3 : (s.extract 0 n).data.toList = [113, 119]
    · have HX : Hid (((6 : Int), (2 : Int)) = qkd s.data.toList) := by show _ = _; rw [hq, if_neg k1, if_neg k2, if_pos k3]
      have he := hyes _ k3
      have hn1 : n = 2 := by
        have := congrArg List.length k3
        rw [take_list, List.length_take] at this
        have h2 : s.size = s.data.toList.length := Lib.size_eq s
        simp at this
        omega
      clear hq hto hyes k1 k2 k3
      subst hn1
      have he2 : s.extract 0 2 = ⟨#[113, 119]⟩ := he
      have HW2 : Hid (∀ w, Calls Tryd.prog 25 #[.string s] w (InS 2 w)) := HW.out
      have g5 : ((2 : Int) == (s.size : Int)) = false := g4
      clear he g4 HW
      go_enter Tryd.func61, Tryd.ntmps61
      go_wp2_with (first
        | (go_at_call 25; refine (HW2.out _).mono ?_; rintro e w' ⟨rfl, rfl⟩)
        | (go_at_call 83; refine (HDL.out _ _).mono ?_; rintro e w' ⟨rfl, rfl⟩))
      go_ret2
      exact HP.out _ _ _ HX.out
    by_cases k4 : (s.extract 0 n).data.toList = [109]
    · have HX : Hid (((7 : Int), (1 : Int)) = qkd s.data.toList) := by show _ = _; rw [hq, if_neg k1, if_neg k2, if_neg k3, if_pos k4]
      have he := hyes _ k4
      have hn1 : n = 1 := by
        have := congrArg List.length k4
        rw [take_list, List.length_take] at this
        have h2 : s.size = s.data.toList.length := Lib.size_eq s
        simp at this
        omega
      clear hq hto hyes k1 k2 k3 k4
      subst hn1
      have he2 : s.extract 0 1 = ⟨#[109]⟩ := he
      have HW2 : Hid (∀ w, Calls Tryd.prog 25 #[.string s] w (InS 1 w)) := HW.out
      have g5 : ((1 : Int) == (s.size : Int)) = false := g4
      clear he g4 HW
      go_enter Tryd.func61, Tryd.ntmps61
      go_wp2_with (first
        | (go_at_call 25; refine (HW2.out _).mono ?_; rintro e w' ⟨rfl, rfl⟩)
        | (go_at_call 83; refine (HDL.out _ _).mono ?_; rintro e w' ⟨rfl, rfl⟩))
      go_ret2
      exact HP.out _ _ _ HX.out
    by_cases k5 : (s.extract 0 n).data.toList = [115]
    · have HX : Hid (((8 : Int), (1 : Int)) = qkd s.data.toList) := by show _ = _; rw [hq, if_neg k1, if_neg k2, if_neg k3, if_neg k4, if_pos k5]
      have he := hyes _ k5
      have hn1 : n = 1 := by
        have := congrArg List.length k5
        rw [take_list, List.length_take] at this
        have h2 : s.size = s.data.toList.length := Lib.size_eq s
        simp at this
        omega
      clear hq hto hyes k1 k2 k3 k4 k5
      subst hn1
      have he2 : s.extract 0 1 = ⟨#[115]⟩ := he
      have HW2 : Hid (∀ w, Calls Tryd.prog 25 #[.string s] w (InS 1 w)) := HW.out
      have g5 : ((1 : Int) == (s.size : Int)) = false := g4
      clear he g4 HW
      go_enter Tryd.func61, Tryd.ntmps61
      go_wp2_with (first
        | (go_at_call 25; refine (HW2.out _).mono ?_; rintro e w' ⟨rfl, rfl⟩)
        | (go_at_call 83; refine (HDL.out _ _).mono ?_; rintro e w' ⟨rfl, rfl⟩))
      go_ret2
      exact HP.out _ _ _ HX.out
    by_cases k6 : (s.extract 0 n).data.toList = [116, 114]
    · have HX : Hid (((9 : Int), (2 : Int)) = qkd s.data.toList) := by show _ = _; rw [hq, if_neg k1, if_neg k2, if_neg k3, if_neg k4, if_neg k5, if_pos k6]
      have he := hyes _ k6
      have hn1 : n = 2 := by
        have := congrArg List.length k6
        rw [take_list, List.length_take] at this
        have h2 : s.size = s.data.toList.length := Lib.size_eq s
        simp at this
        omega
      clear hq hto hyes k1 k2 k3 k4 k5 k6
      subst hn1
      have he2 : s.extract 0 2 = ⟨#[116, 114]⟩ := he
      have HW2 : Hid (∀ w, Calls Tryd.prog 25 #[.string s] w (InS 2 w)) := HW.out
      have g5 : ((2 : Int) == (s.size : Int)) = false := g4
      clear he g4 HW
      go_enter Tryd.func61, Tryd.ntmps61
      go_wp2_with (first
        | (go_at_call 25; refine (HW2.out _).mono ?_; rintro e w' ⟨rfl, rfl⟩)
        | (go_at_call 83; refine (HDL.out _ _).mono ?_; rintro e w' ⟨rfl, rfl⟩))
      go_ret2
      exact HP.out _ _ _ HX.out
    have HX : Hid (((0 : Int), (-1 : Int)) = qkd s.data.toList) := by show _ = _; rw [hq, if_neg k1, if_neg k2, if_neg k3, if_neg k4, if_neg k5, if_neg k6]
    have m1 := hto _ k1
    have m2 := hto _ k2
    have m3 := hto _ k3
    have m4 := hto _ k4
    have m5 := hto _ k5
    have m6 := hto _ k6
    clear hq hto hyes k1 k2 k3 k4 k5 k6
    go_enter Tryd.func61, Tryd.ntmps61
    go_wp2_with (first
      | (go_at_call 25; refine (HW.out _).mono ?_; rintro e w' ⟨rfl, rfl⟩)
      | (go_at_call 83; refine (HDL.out _ _).mono ?_; rintro e w' ⟨rfl, rfl⟩))
    go_ret2
    exact HP.out _ _ _ HX.out

end Go.Proofs.YtnfoafcpcabpmaaDoor
