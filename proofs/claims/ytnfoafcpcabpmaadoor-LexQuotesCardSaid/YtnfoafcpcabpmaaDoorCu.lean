/-
  strings.Cut at one byte, strings.CutPrefix at a text, as facts on lists of bytes. Conditions: texts of at most 1000000 bytes.
-/
import Derived.Test.YtnfoafcpcabpmaaDoorBd
namespace Go.Proofs.YtnfoafcpcabpmaaDoor
open Go.RowKit

def CutP (x y : ByteArray) (b : Bool) (w : World) (e : Ending) (w' : World) : Prop := e = .returned (.tuple #[.string x, .string y, .bool b]) ∧ Below w.heap.size w w'
theorem ixB_hit (c : UInt8) (r : List UInt8) : ∀ (d : List UInt8), c ∉ d → Lib.indexByte (d ++ c :: r) c = (d.length : Int)
  | [], _ => by simp [Lib.indexByte]
  | b :: d, h => by
    have h1 : (b == c) = false := by
      rw [beq_eq_false_iff_ne]
      rintro rfl
      exact h (by simp)
    have h2 := ixB_hit c r d (fun hd => h (by simp [hd]))
    have h3 : ((d.length : Int) == -1) = false := by
      rw [beq_eq_false_iff_ne]
      omega
    show (if b == c then (0 : Int) else if Lib.indexByte (d ++ c :: r) c == -1 then -1 else Lib.indexByte (d ++ c :: r) c + 1) = _
    rw [h1, h2, h3]
    simp
theorem ixB_miss (c : UInt8) : ∀ (l : List UInt8), c ∉ l → Lib.indexByte l c = -1
  | [], _ => rfl
  | b :: l, h => by
    have h1 : (b == c) = false := by
      rw [beq_eq_false_iff_ne]
      rintro rfl
      exact h (by simp)
    have h2 := ixB_miss c l (fun hd => h (by simp [hd]))
    show (if b == c then (0 : Int) else if Lib.indexByte l c == -1 then -1 else Lib.indexByte l c + 1) = _
    rw [h1, h2]
    simp
theorem bs_drop (l m : List UInt8) (k : Nat) (h : k = l.length) : (bs (l ++ m)).extract k (bs (l ++ m)).size = bs m := by
  subst h
  rw [← bs_of ((bs (l ++ m)).extract l.length (bs (l ++ m)).size), Lib.extract_data, bs_list, bs_size]
  congr 1
  simp
theorem bs_take (l m : List UInt8) (k : Nat) (h : k = l.length) : (bs (l ++ m)).extract 0 k = bs l := by
  subst h
  rw [← bs_of ((bs (l ++ m)).extract 0 l.length), Lib.extract_data, bs_list]
  congr 1
  simp

set_option maxHeartbeats 1000000 in
theorem lCut_hit (c : UInt8) (d r : List UInt8) (hd : c ∉ d) (hz : d.length + r.length ≤ 1000000) (w : World) :
    Calls Tryd.prog 100 #[.string (bs (d ++ c :: r)), .string ⟨#[c]⟩] w (CutP (bs d) (bs r) true w) := by
  have HI : Hid (∀ w, Calls Tryd.prog 106 #[.string (bs (d ++ c :: r)), .string ⟨#[c]⟩] w fun e w' => e = .returned (.int .i64 d.length) ∧ w' = w) := fun w => by
    have := Tryd.stringslite_Index_one (bs (d ++ c :: r)) c w
    rwa [bs_list, ixB_hit c r d hd] at this
  have hs : (bs (d ++ c :: r)).size = d.length + 1 + r.length := by
    rw [bs_size, List.length_append, List.length_cons]
    omega
  have h1 : ((bs (d ++ c :: r)).size : Int) = (d.length : Int) + 1 + r.length := by omega
  have E1 : Hid ((bs (d ++ c :: r)).extract 0 d.length = bs d) := bs_take d (c :: r) d.length rfl
  have E2 : Hid ((bs (d ++ c :: r)).extract (d.length + 1) (bs (d ++ c :: r)).size = bs r) := by
    have := bs_drop (d ++ [c]) r (d.length + 1) (by simp)
    rwa [List.append_assoc] at this
  have HP : Hid (∀ x y w', x = bs d → y = bs r → Below w.heap.size w w' → CutP (bs d) (bs r) true w (.returned (.tuple #[.string x, .string y, .bool true])) w') := fun x y w' e1 e2 h => by
    subst e1
    subst e2
    exact ⟨rfl, h⟩
  have HB := Lib.hid (Below.refl w.heap.size w)
  have hc1 : (⟨#[c]⟩ : ByteArray).size = 1 := rfl
  have hle : d.length + 1 ≤ (bs (d ++ c :: r)).size := by omega
  have hsm : (bs (d ++ c :: r)).size ≤ 1000001 := by omega
  clear hs h1 hd hz
  generalize bs (d ++ c :: r) = s at *
  generalize d.length = n at *
  generalize (⟨#[c]⟩ : ByteArray) = sep at *
  go_enter Tryd.func100, Tryd.ntmps100
  go_wp2_with fail
  refine (HI.out _).mono ?_
  rintro e w' ⟨rfl, rfl⟩
  go_wp2
  go_quiet (fail)
  go_wp2
  go_ret3
  exact HP.out _ _ _ E1.out E2.out (bl_drewN HB.out _)
set_option maxHeartbeats 1000000 in
theorem lCut_miss (c : UInt8) (l : List UInt8) (hd : c ∉ l) (w : World) :
    Calls Tryd.prog 100 #[.string (bs l), .string ⟨#[c]⟩] w (CutP (bs l) ⟨#[]⟩ false w) := by
  have HI : Hid (∀ w, Calls Tryd.prog 106 #[.string (bs l), .string ⟨#[c]⟩] w fun e w' => e = .returned (.int .i64 (-1)) ∧ w' = w) := fun w => by
    have := Tryd.stringslite_Index_one (bs l) c w
    rwa [bs_list, ixB_miss c l hd] at this
  have HB := Lib.hid (Below.refl w.heap.size w)
  clear hd
  generalize bs l = s at *
  generalize (⟨#[c]⟩ : ByteArray) = sep at *
  go_enter Tryd.func100, Tryd.ntmps100
  go_wp2_with fail
  refine (HI.out _).mono ?_
  rintro e w' ⟨rfl, rfl⟩
  go_wp2
  go_ret3
  exact ⟨rfl, HB.out⟩
theorem sCut_hit (c : UInt8) (d r : List UInt8) (hd : c ∉ d) (hz : d.length + r.length ≤ 1000000) (w : World) :
    Calls Tryd.prog 94 #[.string (bs (d ++ c :: r)), .string ⟨#[c]⟩] w (CutP (bs d) (bs r) true w) := by
  have H := Lib.hid (lCut_hit c d r hd hz w)
  clear hd hz
  generalize bs (d ++ c :: r) = s at *
  generalize (⟨#[c]⟩ : ByteArray) = sep at *
  go_enter Tryd.func94, Tryd.ntmps94
  go_wp2_with fail
  refine (H.out).mono ?_
  rintro e w' ⟨rfl, hb⟩
  have HB := Lib.hid hb
  clear hb
  go_wp2
  go_ret3
  exact ⟨rfl, HB.out⟩
theorem sCut_miss (c : UInt8) (l : List UInt8) (hd : c ∉ l) (w : World) :
    Calls Tryd.prog 94 #[.string (bs l), .string ⟨#[c]⟩] w (CutP (bs l) ⟨#[]⟩ false w) := by
  have H := Lib.hid (lCut_miss c l hd w)
  clear hd
  generalize bs l = s at *
  generalize (⟨#[c]⟩ : ByteArray) = sep at *
  go_enter Tryd.func94, Tryd.ntmps94
  go_wp2_with fail
  refine (H.out).mono ?_
  rintro e w' ⟨rfl, hb⟩
  have HB := Lib.hid hb
  clear hb
  go_wp2
  go_ret3
  exact ⟨rfl, HB.out⟩

theorem cpre_hit (p r : List UInt8) (w : World) : Calls Tryd.prog 71 #[.string (bs (p ++ r)), .string ⟨p.toArray⟩] w fun e w' => e = .returned (.tuple #[.string (bs r), .bool true]) ∧ w = w' := by
  refine (Tryd.strings_CutPrefix (bs (p ++ r)) ⟨p.toArray⟩ w).mono ?_
  rintro e w' ⟨rfl, rfl⟩
  have h : Lib.hasPrefix (bs (p ++ r)).data.toList p = true := by
    rw [bs_list]
    unfold Lib.hasPrefix
    rw [List.isPrefixOf_iff_prefix]
    exact List.prefix_append p r
  refine ⟨?_, rfl⟩
  unfold Lib.trimPrefix
  simp only [h, if_true]
  rw [bs_list, List.drop_left]
  rfl
theorem cpre_miss (l p : List UInt8) (h : p.isPrefixOf l = false) (w : World) : Calls Tryd.prog 71 #[.string (bs l), .string ⟨p.toArray⟩] w fun e w' => e = .returned (.tuple #[.string (bs l), .bool false]) ∧ w = w' := by
  refine (Tryd.strings_CutPrefix (bs l) ⟨p.toArray⟩ w).mono ?_
  rintro e w' ⟨rfl, rfl⟩
  have h : Lib.hasPrefix (bs l).data.toList p = false := by
    rw [bs_list]
    exact h
  refine ⟨?_, rfl⟩
  unfold Lib.trimPrefix
  simp only [h]
  rw [bs_list]
  rfl

end Go.Proofs.YtnfoafcpcabpmaaDoor
