/-
  part: what stands between the delimiters of a quote, or a panic where it does not end. Conditions: a text of at most 100000 bytes; what is left out lies ahead. Which quote begins: isDelimiter, quoteKind. Conditions: texts of at most 100000 bytes. A scanner's word and cut. Conditions: a text of at most 100000 bytes.
-/
import Derived.Test.YtaocbhfehncdcaaGreatDoorXM04
import Derived.StillTailTactics
import Derived.IntWalk
namespace Go.Proofs.YtaocbhfehncdcaaGreatDoor
open Go.RowKit

/-- What part leaves. -/
def PtP (W0 B : Nat) (σ : Sf) (ρ : Sr) (r : Option (Nat × List UInt8)) (w : World) (e : Ending) (w' : World) : Prop :=
  match r with
  | some (a, out) => ScP W0 B (.string (bs out)) { σ with a := a } ρ w e w'
  | none => Wrong B σ.b w e w'
theorem u8_eq {a b : UInt8} (h : a = b) : ((a.toNat : Int) == (b.toNat : Int)) = true := by rw [h]; simp
theorem u8_ne {a b : UInt8} (h : a ≠ b) : ((a.toNat : Int) == (b.toNat : Int)) = false := by
  rw [beq_eq_false_iff_ne]
  intro e
  exact h (UInt8.toNat_inj.1 (by omega))

set_option maxRecDepth 100000 in
set_option maxHeartbeats 8000000 in
theorem part_any (W0 B : Nat) (σ : Sf) (ρ : Sr) (o : UInt8) (w : World) (h : IsSc W0 B σ ρ w) (hs : σ.s.size ≤ 100000) (hg : Gd σ.s.size ρ.ml) :
    Calls Tryz.prog 171 #[.pointer (some ⟨B, 0, none⟩), .int .u8 o.toNat] w (PtP W0 B σ ρ (pt σ.s ρ.ml o σ.a 1 []) w) := by
  obtain ⟨s, a0, b, e, t, tk, tm, op, M⟩ := σ
  dsimp only at hs hg
  have HPY : Hid (∀ a out w', pt s ρ.ml o a0 1 [] = some (a, out) → IsSc W0 B ⟨s, a, b, e, t, tk, tm, op, M⟩ ρ w' → But B w w' → PtP W0 B ⟨s, a0, b, e, t, tk, tm, op, M⟩ ρ (pt s ρ.ml o a0 1 []) w (.returned (.string (bs out))) w') := fun a out w' h1 h2 h3 => by
    rw [h1]
    exact ⟨rfl, h2, h3⟩
  have HPN : Hid (∀ w', pt s ρ.ml o a0 1 [] = none → But B w w' → PtP W0 B ⟨s, a0, b, e, t, tk, tm, op, M⟩ ρ (pt s ρ.ml o a0 1 []) w (.panicked [{ v := .iface 130 (.int .i64 (b : Int)), recovered := false }]) w') := fun w' h1 h2 => by
    rw [h1]
    exact ⟨rfl, h2⟩
  have HTK := Lib.hid (fun a w' (h : IsSc W0 B ⟨s, a, b, e, t, tk, tm, op, M⟩ ρ w') (ha : a < s.size) => take_any W0 B ⟨s, a, b, e, t, tk, tm, op, M⟩ ρ w' h hs ha)
  have HTN := Lib.hid (fun a w' (h : IsSc W0 B ⟨s, a, b, e, t, tk, tm, op, M⟩ ρ w') (ha : s.size ≤ a) => take_no W0 B ⟨s, a, b, e, t, tk, tm, op, M⟩ ρ w' h hs ha)
  have HSTP := Lib.hid (fun a d out (ha : a < s.size) => pt_step (o := o) hg d out ha)
  have HEND := Lib.hid (fun a d out (ha : s.size ≤ a) => pt_end (s := s) (ml := ρ.ml) (o := o) (d := d) (out := out) ha)
  have HGT : Hid (∀ a, a < stp ρ.ml a ∧ (a < s.size → stp ρ.ml a ≤ s.size)) := fun a => stp_gt hg a
  have HPR := Lib.hid (fun w => partner_any o w)
  have HWB := Lib.hid (fun l c w' (h1 : Bld w.heap.size w.heap.size l w') (h2 : l.length + 1 ≤ 140737488355328) (h3 : w.heap.size ≤ w'.heap.size) => WriteByte_any w.heap.size w.heap.size l c w' h1 h2 h3)
  have HLT : Hid (∀ a, ScLt w.heap.size B ⟨s, a, b, e, t, tk, tm, op, M⟩) := fun a => h.ltSize.withA a
  have HBlt : B < w.heap.size := h.sc.lt
  have HBL := Lib.hid HBlt
  have H0 : Hid (IsSc W0 B ⟨s, a0, b, e, t, tk, tm, op, M⟩ ρ (w.alloc (.cells #[.pointer none, .slice none 0 0] 54))) := h.later ((Below.refl _ _).alloc (Nat.le_refl _) _)
  have HF0 : Hid (Bld w.heap.size w.heap.size [] (w.alloc (.cells #[.pointer none, .slice none 0 0] 54))) := Bld.fresh _ w (Nat.le_refl _)
  have HB0 : Hid (But B w (w.alloc (.cells #[.pointer none, .slice none 0 0] 54))) := But.of ((Below.refl _ _).alloc (Nat.le_refl _) _)
  have HS0 : Hid (w.heap.size ≤ (w.alloc (.cells #[.pointer none, .slice none 0 0] 54)).heap.size) := by
    show _ ≤ _
    simp
  have HAT : Hid (∀ a (h : a < s.size), by0 s.data.toList a = s[a]) := fun a h => by0_at s a h
  clear h hg HBlt
  go_enter Tryz.func171, Tryz.ntmps171
  go_wp2_with fail
  refine (HPR.out _).mono ?_
  rintro e1 w' ⟨rfl, rfl⟩
  go_wp2_with fail
  generalize w.alloc (.cells #[.pointer none, .slice none 0 0] 54) = w1 at *
  generalize prB o = pe at *
  go_loopw [6] (fun dv wr => ∃ (a d : Nat) (out : List UInt8), 1 ≤ d ∧ d ≤ a + 1 ∧ (a ≤ s.size ∨ a = a0) ∧ out.length ≤ 2 * a ∧ dv = .int .i64 d ∧ Hid (pt s ρ.ml o a0 1 [] = pt s ρ.ml o a d out) ∧ Hid (IsSc W0 B ⟨s, a, b, e, t, tk, tm, op, M⟩ ρ wr) ∧ Hid (But B w wr) ∧ Hid (Bld w.heap.size w.heap.size out wr) ∧ Hid (w.heap.size ≤ wr.heap.size)) (fun _ wr => s.size - atOf B wr)
  case atStart => exact ⟨a0, 1, [], by omega, by omega, .inr rfl, by simp, rfl, rfl, H0, HB0, HF0, HS0⟩
  case round =>
    obtain ⟨a, d, out, hd1, hd2, hal, hol, rfl, hpt, hsc, hbu, hbd, hsz⟩ := hrel
    have HA : Hid (atOf B wr = a) := hsc.out.at
    by_cases hlt : a < s.size
    · have HT := Lib.hid (HTK.out a _ hsc.out hlt)
      have HE := Lib.hid (hpt.out.trans (HSTP.out a d out hlt))
      have hgt := HGT.out a
      generalize s[a] = x at *
      by_cases h1 : x = pe
      · have f1 := u8_eq h1
        by_cases h2 : d = 1
        · subst h2
          have HN : Hid (pt s ρ.ml o a0 1 [] = some (stp ρ.ml a, out)) := by
            show _ = _
            rw [HE.out, if_pos h1, if_pos rfl]
          clear h1
          rw [show ((1 : Nat) : Int) = 1 from rfl]
          go_wp2_with fail
          refine (HT.out).mono ?_
          rintro e1 w2 ⟨rfl, hsx, hbx⟩
          have HS2 := Lib.hid hsx
          have HB2 : Hid (But B w w2) := hbu.out.trans hbx
          have HD2 : Hid (Bld w.heap.size w.heap.size (out) w2) := hbd.out.but HBL.out hbx
          have HZ2 : Hid (w.heap.size ≤ w2.heap.size) := Nat.le_trans hsz.out hbx.size
          clear hsx hbx
          have HST := Lib.hid (String_any _ _ out w2 HD2.out HZ2.out)
          go_wp2_with fail
          refine (HST.out).mono ?_
          rintro e1 w3 ⟨rfl, hk3⟩
          have HB3 : Hid (But B w w3) := HB2.out.more hk3.2.1
          have HS3 : Hid (IsSc W0 B ⟨s, stp ρ.ml a, b, e, t, tk, tm, op, M⟩ ρ w3) := HS2.out.below (HLT.out _) hk3.2.1
          clear hk3
          go_wp2
          go_ret
          exact HPY.out _ _ _ HN.out HS3.out HB3.out
        · have HN : Hid (pt s ρ.ml o a0 1 [] = pt s ρ.ml o (stp ρ.ml a) (d - 1) (out ++ [x])) := by
            show _ = _
            rw [HE.out, if_pos h1, if_neg h2]
          have f2 : ((d : Int) - 1 == 0) = false := by rw [beq_eq_false_iff_ne]; omega
          clear h1
          go_wp2_with fail
          refine (HT.out).mono ?_
          rintro e1 w2 ⟨rfl, hsx, hbx⟩
          have HS2 := Lib.hid hsx
          have HB2 : Hid (But B w w2) := hbu.out.trans hbx
          have HD2 : Hid (Bld w.heap.size w.heap.size (out) w2) := hbd.out.but HBL.out hbx
          have HZ2 : Hid (w.heap.size ≤ w2.heap.size) := Nat.le_trans hsz.out hbx.size
          clear hsx hbx
          have HWX := Lib.hid (HWB.out (out) x _ HD2.out (by simp; omega) HZ2.out)
          go_wp2_with fail
          refine (HWX.out).mono ?_
          rintro e1 w3 ⟨rfl, hkx⟩
          have HD3 : Hid (Bld w.heap.size w.heap.size (out ++ [x]) w3) := hkx.1
          have HB3 : Hid (But B w w3) := HB2.out.more hkx.2.1
          have HS3 : Hid (IsSc W0 B ⟨s, stp ρ.ml a, b, e, t, tk, tm, op, M⟩ ρ w3) := HS2.out.below (HLT.out _) hkx.2.1
          have HZ3 : Hid (w.heap.size ≤ w3.heap.size) := Nat.le_trans HZ2.out hkx.2.1.size
          have HA3 : Hid (atOf B w3 = stp ρ.ml a) := HS3.out.at
          clear hkx HWX
          go_wp2
          go_roundw
          case rel => exact ⟨stp ρ.ml a, d - 1, out ++ [x], by omega, by omega, .inl (by omega), by simp; omega, by rw [show ((d - 1 : Nat) : Int) = (d : Int) - 1 by omega], HN, HS3, HB3, HD3, HZ3⟩
          case measure =>
            have h1 := HA.out
            have h2 := HA3.out
            omega
      · have f1 := u8_ne h1
        have f0 : ((d : Int) == 0) = false := by rw [beq_eq_false_iff_ne]; omega
        by_cases h2 : x = o
        · have f2 := u8_eq h2
          have HN : Hid (pt s ρ.ml o a0 1 [] = pt s ρ.ml o (stp ρ.ml a) (d + 1) (out ++ [x])) := by
            show _ = _
            rw [HE.out, if_neg h1, if_pos h2]
          have f3 : ((d : Int) + 1 == 0) = false := by rw [beq_eq_false_iff_ne]; omega
          clear h1 h2
          go_wp2_with fail
          refine (HT.out).mono ?_
          rintro e1 w2 ⟨rfl, hsx, hbx⟩
          have HS2 := Lib.hid hsx
          have HB2 : Hid (But B w w2) := hbu.out.trans hbx
          have HD2 : Hid (Bld w.heap.size w.heap.size (out) w2) := hbd.out.but HBL.out hbx
          have HZ2 : Hid (w.heap.size ≤ w2.heap.size) := Nat.le_trans hsz.out hbx.size
          clear hsx hbx
          have HWX := Lib.hid (HWB.out (out) x _ HD2.out (by simp; omega) HZ2.out)
          go_wp2_with fail
          refine (HWX.out).mono ?_
          rintro e1 w3 ⟨rfl, hkx⟩
          have HD3 : Hid (Bld w.heap.size w.heap.size (out ++ [x]) w3) := hkx.1
          have HB3 : Hid (But B w w3) := HB2.out.more hkx.2.1
          have HS3 : Hid (IsSc W0 B ⟨s, stp ρ.ml a, b, e, t, tk, tm, op, M⟩ ρ w3) := HS2.out.below (HLT.out _) hkx.2.1
          have HZ3 : Hid (w.heap.size ≤ w3.heap.size) := Nat.le_trans HZ2.out hkx.2.1.size
          have HA3 : Hid (atOf B w3 = stp ρ.ml a) := HS3.out.at
          clear hkx HWX
          go_wp2
          go_roundw
          case rel => exact ⟨stp ρ.ml a, d + 1, out ++ [x], by omega, by omega, .inl (by omega), by simp; omega, by go_num, HN, HS3, HB3, HD3, HZ3⟩
          case measure =>
            have h1 := HA.out
            have h2 := HA3.out
            omega
        · have f2 := u8_ne h2
          by_cases h3 : x = 92
          · have f3 : ((x.toNat : Int) == 92) = true := by rw [h3]; rfl
            by_cases h4 : stp ρ.ml a < s.size
            · have HN : Hid (pt s ρ.ml o a0 1 [] = pt s ρ.ml o (stp ρ.ml (stp ρ.ml a)) d (out ++ [x] ++ [s[stp ρ.ml a]])) := by
                show _ = _
                rw [HE.out, if_neg h1, if_neg h2, if_pos h3, if_pos h4, HAT.out _ h4, h3]
              have hgt2 := HGT.out (stp ρ.ml a)
              clear h1 h2 h3
              go_wp2_with fail
              refine (HT.out).mono ?_
              rintro e1 w2 ⟨rfl, hsx, hbx⟩
              have HS2 := Lib.hid hsx
              have HB2 : Hid (But B w w2) := hbu.out.trans hbx
              have HD2 : Hid (Bld w.heap.size w.heap.size (out) w2) := hbd.out.but HBL.out hbx
              have HZ2 : Hid (w.heap.size ≤ w2.heap.size) := Nat.le_trans hsz.out hbx.size
              clear hsx hbx
              have HWX := Lib.hid (HWB.out (out) x _ HD2.out (by simp; omega) HZ2.out)
              go_wp2_with fail
              refine (HWX.out).mono ?_
              rintro e1 w3 ⟨rfl, hkx⟩
              have HD3 : Hid (Bld w.heap.size w.heap.size (out ++ [x]) w3) := hkx.1
              have HB3 : Hid (But B w w3) := HB2.out.more hkx.2.1
              have HS3 : Hid (IsSc W0 B ⟨s, stp ρ.ml a, b, e, t, tk, tm, op, M⟩ ρ w3) := HS2.out.below (HLT.out _) hkx.2.1
              have HZ3 : Hid (w.heap.size ≤ w3.heap.size) := Nat.le_trans HZ2.out hkx.2.1.size
              have HA3 : Hid (atOf B w3 = stp ρ.ml a) := HS3.out.at
              clear hkx HWX
              have HT2 := Lib.hid (HTK.out _ _ HS3.out h4)
              generalize s[stp ρ.ml a] = y at *
              go_wp2_with fail
              refine (HT2.out).mono ?_
              rintro e1 w4 ⟨rfl, hsx, hbx⟩
              have HS4 := Lib.hid hsx
              have HB4 : Hid (But B w w4) := HB3.out.trans hbx
              have HD4 : Hid (Bld w.heap.size w.heap.size (out ++ [x]) w4) := HD3.out.but HBL.out hbx
              have HZ4 : Hid (w.heap.size ≤ w4.heap.size) := Nat.le_trans HZ3.out hbx.size
              clear hsx hbx
              have HWX := Lib.hid (HWB.out (out ++ [x]) y _ HD4.out (by simp; omega) HZ4.out)
              go_wp2_with fail
              refine (HWX.out).mono ?_
              rintro e1 w5 ⟨rfl, hkx⟩
              have HD5 : Hid (Bld w.heap.size w.heap.size (out ++ [x] ++ [y]) w5) := hkx.1
              have HB5 : Hid (But B w w5) := HB4.out.more hkx.2.1
              have HS5 : Hid (IsSc W0 B ⟨s, stp ρ.ml (stp ρ.ml a), b, e, t, tk, tm, op, M⟩ ρ w5) := HS4.out.below (HLT.out _) hkx.2.1
              have HZ5 : Hid (w.heap.size ≤ w5.heap.size) := Nat.le_trans HZ4.out hkx.2.1.size
              have HA5 : Hid (atOf B w5 = stp ρ.ml (stp ρ.ml a)) := HS5.out.at
              clear hkx HWX
              go_wp2
              go_roundw
              case rel => exact ⟨stp ρ.ml (stp ρ.ml a), d, out ++ [x] ++ [y], by omega, by omega, .inl (by omega), by simp; omega, rfl, HN, HS5, HB5, HD5, HZ5⟩
              case measure =>
                have h1 := HA.out
                have h2 := HA5.out
                omega
            · have HN : Hid (pt s ρ.ml o a0 1 [] = none) := by
                show _ = _
                rw [HE.out, if_neg h1, if_neg h2, if_pos h3, if_neg h4]
              clear h1 h2 h3
              go_wp2_with fail
              refine (HT.out).mono ?_
              rintro e1 w2 ⟨rfl, hsx, hbx⟩
              have HS2 := Lib.hid hsx
              have HB2 : Hid (But B w w2) := hbu.out.trans hbx
              have HD2 : Hid (Bld w.heap.size w.heap.size (out) w2) := hbd.out.but HBL.out hbx
              have HZ2 : Hid (w.heap.size ≤ w2.heap.size) := Nat.le_trans hsz.out hbx.size
              clear hsx hbx
              have HWX := Lib.hid (HWB.out (out) x _ HD2.out (by simp; omega) HZ2.out)
              go_wp2_with fail
              refine (HWX.out).mono ?_
              rintro e1 w3 ⟨rfl, hkx⟩
              have HD3 : Hid (Bld w.heap.size w.heap.size (out ++ [x]) w3) := hkx.1
              have HB3 : Hid (But B w w3) := HB2.out.more hkx.2.1
              have HS3 : Hid (IsSc W0 B ⟨s, stp ρ.ml a, b, e, t, tk, tm, op, M⟩ ρ w3) := HS2.out.below (HLT.out _) hkx.2.1
              have HZ3 : Hid (w.heap.size ≤ w3.heap.size) := Nat.le_trans HZ2.out hkx.2.1.size
              have HA3 : Hid (atOf B w3 = stp ρ.ml a) := HS3.out.at
              clear hkx HWX
              have HT2 := Lib.hid (HTN.out _ _ HS3.out (by omega))
              go_wp2_with fail
              refine (HT2.out).mono ?_
              rintro e1 w4 ⟨rfl, hb4⟩
              have HB4 : Hid (But B w w4) := HB3.out.trans hb4
              clear hb4
              go_wp2
              exact ⟨rfl, HPN.out _ HN.out HB4.out⟩
          · have f3 : ((x.toNat : Int) == 92) = false := u8_ne (b := 92) h3
            have HN : Hid (pt s ρ.ml o a0 1 [] = pt s ρ.ml o (stp ρ.ml a) d (out ++ [x])) := by
              show _ = _
              rw [HE.out, if_neg h1, if_neg h2, if_neg h3]
            clear h1 h2 h3
            go_wp2_with fail
            refine (HT.out).mono ?_
            rintro e1 w2 ⟨rfl, hsx, hbx⟩
            have HS2 := Lib.hid hsx
            have HB2 : Hid (But B w w2) := hbu.out.trans hbx
            have HD2 : Hid (Bld w.heap.size w.heap.size (out) w2) := hbd.out.but HBL.out hbx
            have HZ2 : Hid (w.heap.size ≤ w2.heap.size) := Nat.le_trans hsz.out hbx.size
            clear hsx hbx
            have HWX := Lib.hid (HWB.out (out) x _ HD2.out (by simp; omega) HZ2.out)
            go_wp2_with fail
            refine (HWX.out).mono ?_
            rintro e1 w3 ⟨rfl, hkx⟩
            have HD3 : Hid (Bld w.heap.size w.heap.size (out ++ [x]) w3) := hkx.1
            have HB3 : Hid (But B w w3) := HB2.out.more hkx.2.1
            have HS3 : Hid (IsSc W0 B ⟨s, stp ρ.ml a, b, e, t, tk, tm, op, M⟩ ρ w3) := HS2.out.below (HLT.out _) hkx.2.1
            have HZ3 : Hid (w.heap.size ≤ w3.heap.size) := Nat.le_trans HZ2.out hkx.2.1.size
            have HA3 : Hid (atOf B w3 = stp ρ.ml a) := HS3.out.at
            clear hkx HWX
            go_wp2
            go_roundw
            case rel => exact ⟨stp ρ.ml a, d, out ++ [x], by omega, by omega, .inl (by omega), by simp; omega, rfl, HN, HS3, HB3, HD3, HZ3⟩
            case measure =>
              have h1 := HA.out
              have h2 := HA3.out
              omega
    · have HT := Lib.hid (HTN.out a _ hsc.out (by omega))
      have HE : Hid (pt s ρ.ml o a0 1 [] = none) := hpt.out.trans (HEND.out a d out (by omega))
      go_wp2_with fail
      refine (HT.out).mono ?_
      rintro e1 w2 ⟨rfl, hb2⟩
      have HB2 : Hid (But B w w2) := hbu.out.trans hb2
      clear hb2
      go_wp2
      exact ⟨rfl, HPN.out _ HE.out HB2.out⟩

end Go.Proofs.YtaocbhfehncdcaaGreatDoor

namespace Go.Proofs.YtaocbhfehncdcaaGreatDoor
open Go.RowKit

def dlL : List UInt8 := [40, 91, 123, 60, 47, 33, 124, 126, 39, 34]
def dlB (b : UInt8) : Bool := dlL.contains b
theorem ixB_ge (c : UInt8) : ∀ (l : List UInt8), (0 ≤ Lib.indexByte l c ↔ c ∈ l) ∧ -1 ≤ Lib.indexByte l c
  | [] => by simp [Lib.indexByte]
  | b :: l => by
    obtain ⟨h1, h2⟩ := ixB_ge c l
    have e : Lib.indexByte (b :: l) c = if b == c then (0 : Int) else if Lib.indexByte l c == -1 then -1 else Lib.indexByte l c + 1 := rfl
    rw [e]
    by_cases hb : b = c
    · subst hb
      simp
    · have hb2 : (b == c) = false := by rw [beq_eq_false_iff_ne]; exact hb
      rw [hb2]
      by_cases hi : Lib.indexByte l c = -1
      · rw [hi]
        rw [hi] at h1
        have hn : c ∉ l := fun h => by have := h1.2 h; omega
        have hb3 : ¬ c = b := fun h => hb h.symm
        simp [hn, hb3]
      · have hi2 : (Lib.indexByte l c == -1) = false := by rw [beq_eq_false_iff_ne]; exact hi
        have hm : c ∈ l := h1.1 (by omega)
        rw [hi2]
        simp [hm]
        omega
theorem idxB_any (s : ByteArray) (c : UInt8) (w : World) : Calls Tryz.prog 181 #[.string s, .int .u8 c.toNat] w fun e w' => e = .returned (.int .i64 (Lib.indexByte s.data.toList c)) ∧ w = w' := by
  refine (Tryz.strings_IndexByte s c.toNat w).mono ?_
  rintro e w' ⟨rfl, rfl⟩
  refine ⟨?_, rfl⟩
  congr 2
  simp
theorem isDelimiter_any (b : UInt8) (w : World) : Calls Tryz.prog 198 #[.int .u8 b.toNat] w (BoS (dlB b) w) := by
  have HI := Lib.hid (fun w => idxB_any ⟨#[40, 91, 123, 60, 47, 33, 124, 126, 39, 34]⟩ b w)
  obtain ⟨h1, h2⟩ := ixB_ge b dlL
  have HX : Hid (decide (0 ≤ Lib.indexByte dlL b) = dlB b) := by
    show _ = _
    unfold dlB
    rw [Bool.eq_iff_iff, decide_eq_true_eq, List.contains_iff_mem]
    exact h1
  have HI2 : Hid (∀ w, Calls Tryz.prog 181 #[.string ⟨#[40, 91, 123, 60, 47, 33, 124, 126, 39, 34]⟩, .int .u8 b.toNat] w fun e w' => e = .returned (.int .i64 (Lib.indexByte dlL b)) ∧ w = w') := HI.out
  have HP : Hid (∀ v w, v = dlB b → BoS (dlB b) w (.returned (.bool v)) w) := fun v w h => BoS.mk h w
  clear h1 HI
  generalize Lib.indexByte dlL b = n at *
  generalize b.toNat = x at *
  go_enter Tryz.func198, Tryz.ntmps198
  go_wp2_with fail
  refine (HI2.out _).mono ?_
  rintro e w' ⟨rfl, rfl⟩
  go_wp2
  go_ret
  exact HP.out _ _ HX.out

/-- The kind of a quote, and how many bytes stand before its delimiter. -/
def qkW (t : List UInt8) : Int × Int :=
  if t = [113] then (4, 1) else if t = [113, 113] then (5, 2) else if t = [113, 119] then (6, 2) else if t = [109] then (7, 1) else if t = [115] then (8, 1) else if t = [116, 114] then (9, 2) else (0, -1)
def qkd (l : List UInt8) : Int × Int :=
  if by0 l 0 = 39 then (4, 0) else if by0 l 0 = 34 then (5, 0) else if by0 l 0 = 47 then (7, 0)
  else if wsz l = l.length then (0, -1) else if dlB (by0 l (wsz l)) = false then (0, -1) else qkW (l.take (wsz l))
theorem take_list (s : ByteArray) (k : Nat) : (s.extract 0 k).data.toList = s.data.toList.take k := by
  rw [Lib.extract_data]
  simp
def TwS (p : Int × Int) (w : World) (e : Ending) (w' : World) : Prop := e = .returned (.tuple #[.int .i64 p.1, .int .i64 p.2]) ∧ w = w'

set_option maxRecDepth 100000 in
set_option maxHeartbeats 8000000 in
theorem quoteKind_any (s : ByteArray) (w : World) (hs : s.size ≤ 100000) (h0 : 0 < s.size) : Calls Tryz.prog 169 #[.string s] w (TwS (qkd s.data.toList) w) := by
  have hsl : s.size = s.data.toList.length := Lib.size_eq s
  have hb0 : by0 s.data.toList 0 = s[0] := by0_at s 0 h0
  have HP : Hid (∀ a b w, (a, b) = qkd s.data.toList → TwS (qkd s.data.toList) w (.returned (.tuple #[.int .i64 a, .int .i64 b])) w) := fun a b w h => by
    rw [← h]
    exact ⟨rfl, rfl⟩
  by_cases c1 : s[0] = 39
  · have f1 : ((s[0].toNat : Int) == 39) = true := by rw [c1]; rfl
    have HX : Hid (((4 : Int), (0 : Int)) = qkd s.data.toList) := by
      show _ = _
      unfold qkd
      rw [hb0, if_pos c1]
    clear c1 hb0 hsl
    go_enter Tryz.func169, Tryz.ntmps169
    go_wp2
    go_ret2
    exact HP.out _ _ _ HX.out
  have f1 : ((s[0].toNat : Int) == 39) = false := u8_ne (b := 39) c1
  by_cases c2 : s[0] = 34
  · have f2 : ((s[0].toNat : Int) == 34) = true := by rw [c2]; rfl
    have HX : Hid (((5 : Int), (0 : Int)) = qkd s.data.toList) := by
      show _ = _
      unfold qkd
      rw [hb0, if_neg c1, if_pos c2]
    clear c1 c2 hb0 hsl
    go_enter Tryz.func169, Tryz.ntmps169
    go_wp2
    go_ret2
    exact HP.out _ _ _ HX.out
  have f2 : ((s[0].toNat : Int) == 34) = false := u8_ne (b := 34) c2
  by_cases c3 : s[0] = 47
  · have f3 : ((s[0].toNat : Int) == 47) = true := by rw [c3]; rfl
    have HX : Hid (((7 : Int), (0 : Int)) = qkd s.data.toList) := by
      show _ = _
      unfold qkd
      rw [hb0, if_neg c1, if_neg c2, if_pos c3]
    clear c1 c2 c3 hb0 hsl
    go_enter Tryz.func169, Tryz.ntmps169
    go_wp2
    go_ret2
    exact HP.out _ _ _ HX.out
  have f3 : ((s[0].toNat : Int) == 47) = false := u8_ne (b := 47) c3
  have hq : qkd s.data.toList = if wsz s.data.toList = s.data.toList.length then (0, -1) else if dlB (by0 s.data.toList (wsz s.data.toList)) = false then (0, -1) else qkW (s.data.toList.take (wsz s.data.toList)) := by
    unfold qkd
    rw [hb0, if_neg c1, if_neg c2, if_neg c3]
  have HW := Lib.hid (fun w => wordSize_any s w (by omega))
  have hwl := wsz_le s.data.toList
  have HDL := Lib.hid isDelimiter_any
  have HBY : Hid (∀ k (h : k < s.size), by0 s.data.toList k = s[k]) := fun k h => by0_at s k h
  have hex := take_list s (wsz s.data.toList)
  obtain ⟨n, hn⟩ : ∃ n, wsz s.data.toList = n := ⟨_, rfl⟩
  rw [hn] at hq HW hwl hex
  clear c1 c2 c3 hb0 hn
  by_cases c4 : n = s.size
  · have g4 : ((n : Int) == (s.size : Int)) = true := by rw [c4]; simp
    have HX : Hid (((0 : Int), (-1 : Int)) = qkd s.data.toList) := by
      show _ = _
      rw [hq, if_pos (by omega)]
    clear c4 hq hsl hwl hex
    go_enter Tryz.func169, Tryz.ntmps169
    go_wp2_with fail
    refine (HW.out _).mono ?_
    rintro e w' ⟨rfl, rfl⟩
    go_wp2
    go_ret2
    exact HP.out _ _ _ HX.out
  have g4 : ((n : Int) == (s.size : Int)) = false := by rw [beq_eq_false_iff_ne]; omega
  have hlt : n < s.size := by omega
  rw [if_neg (by omega), HBY.out n hlt] at hq
  cases c5 : dlB s[n]
  · have HX : Hid (((0 : Int), (-1 : Int)) = qkd s.data.toList) := by
      show _ = _
      rw [hq, if_pos c5]
    clear c4 hq hsl hwl hex
    go_enter Tryz.func169, Tryz.ntmps169
    go_wp2_with (first
      | (go_at_call 37; refine (HW.out _).mono ?_; rintro e w' ⟨rfl, rfl⟩)
      | (go_at_call 198; refine (HDL.out _ _).mono ?_; rintro e w' ⟨rfl, rfl⟩))
    go_ret2
    exact HP.out _ _ _ HX.out
  · rw [c5, if_neg (by simp), ← hex] at hq
    unfold qkW at hq
    clear c4 hsl hwl hex
    have hto : ∀ t : List UInt8, (s.extract 0 n).data.toList ≠ t → ((s.extract 0 n).toList == t) = false := fun t h => by
      rw [Lib.toList_data, beq_eq_false_iff_ne]
      exact h
    have hyes : ∀ t : List UInt8, (s.extract 0 n).data.toList = t → s.extract 0 n = ⟨t.toArray⟩ := fun t h => by
      rw [← bs_of (s.extract 0 n), h]
      rfl
    by_cases k1 : (s.extract 0 n).data.toList = [113]
    · have HX : Hid (((4 : Int), (1 : Int)) = qkd s.data.toList) := by show _ = _; rw [hq, if_pos k1]
      have he := hyes _ k1
      have hn1 : n = 1 := by
        have := congrArg List.length k1
        rw [take_list, List.length_take] at this
        have h2 : s.size = s.data.toList.length := Lib.size_eq s
        simp at this
        omega
      clear hq hto hyes k1
      subst hn1
      have he2 : s.extract 0 1 = ⟨#[113]⟩ := he
      have HW2 : Hid (∀ w, Calls Tryz.prog 37 #[.string s] w (InS 1 w)) := HW.out
      have g5 : ((1 : Int) == (s.size : Int)) = false := g4
      clear he g4 HW
      go_enter Tryz.func169, Tryz.ntmps169
      go_wp2_with (first
        | (go_at_call 37; refine (HW2.out _).mono ?_; rintro e w' ⟨rfl, rfl⟩)
        | (go_at_call 198; refine (HDL.out _ _).mono ?_; rintro e w' ⟨rfl, rfl⟩))
      go_ret2
      exact HP.out _ _ _ HX.out
    by_cases k2 : (s.extract 0 n).data.toList = [113, 113]
    · have HX : Hid (((5 : Int), (2 : Int)) = qkd s.data.toList) := by show _ = _; rw [hq, if_neg k1, if_pos k2]
      have he := hyes _ k2
      have hn1 : n = 2 := by
        have := congrArg List.length k2
        rw [take_list, List.length_take] at this
        have h2 : s.size = s.data.toList.length := Lib.size_eq s
        simp at this
        omega
      clear hq hto hyes k1 k2
      subst hn1
      have he2 : s.extract 0 2 = ⟨#[113, 113]⟩ := he
      have HW2 : Hid (∀ w, Calls Tryz.prog 37 #[.string s] w (InS 2 w)) := HW.out
      have g5 : ((2 : Int) == (s.size : Int)) = false := g4
      clear he g4 HW
      go_enter Tryz.func169, Tryz.ntmps169
      go_wp2_with (first
        | (go_at_call 37; refine (HW2.out _).mono ?_; rintro e w' ⟨rfl, rfl⟩)
        | (go_at_call 198; refine (HDL.out _ _).mono ?_; rintro e w' ⟨rfl, rfl⟩))
      go_ret2
      exact HP.out _ _ _ HX.out
    by_cases k3 : (s.extract 0 n).data.toList = [113, 119]
    · have HX : Hid (((6 : Int), (2 : Int)) = qkd s.data.toList) := by show _ = _; rw [hq, if_neg k1, if_neg k2, if_pos k3]
      have he := hyes _ k3
      have hn1 : n = 2 := by
        have := congrArg List.length k3
        rw [take_list, List.length_take] at this
        have h2 : s.size = s.data.toList.length := Lib.size_eq s
        simp at this
        omega
      clear hq hto hyes k1 k2 k3
      subst hn1
      have he2 : s.extract 0 2 = ⟨#[113, 119]⟩ := he
      have HW2 : Hid (∀ w, Calls Tryz.prog 37 #[.string s] w (InS 2 w)) := HW.out
      have g5 : ((2 : Int) == (s.size : Int)) = false := g4
      clear he g4 HW
      go_enter Tryz.func169, Tryz.ntmps169
      go_wp2_with (first
        | (go_at_call 37; refine (HW2.out _).mono ?_; rintro e w' ⟨rfl, rfl⟩)
        | (go_at_call 198; refine (HDL.out _ _).mono ?_; rintro e w' ⟨rfl, rfl⟩))
      go_ret2
      exact HP.out _ _ _ HX.out
    by_cases k4 : (s.extract 0 n).data.toList = [109]
    · have HX : Hid (((7 : Int), (1 : Int)) = qkd s.data.toList) := by show _ = _; rw [hq, if_neg k1, if_neg k2, if_neg k3, if_pos k4]
      have he := hyes _ k4
      have hn1 : n = 1 := by
        have := congrArg List.length k4
        rw [take_list, List.length_take] at this
        have h2 : s.size = s.data.toList.length := Lib.size_eq s
        simp at this
        omega
      clear hq hto hyes k1 k2 k3 k4
      subst hn1
      have he2 : s.extract 0 1 = ⟨#[109]⟩ := he
      have HW2 : Hid (∀ w, Calls Tryz.prog 37 #[.string s] w (InS 1 w)) := HW.out
      have g5 : ((1 : Int) == (s.size : Int)) = false := g4
      clear he g4 HW
      go_enter Tryz.func169, Tryz.ntmps169
      go_wp2_with (first
        | (go_at_call 37; refine (HW2.out _).mono ?_; rintro e w' ⟨rfl, rfl⟩)
        | (go_at_call 198; refine (HDL.out _ _).mono ?_; rintro e w' ⟨rfl, rfl⟩))
      go_ret2
      exact HP.out _ _ _ HX.out
    by_cases k5 : (s.extract 0 n).data.toList = [115]
    · have HX : Hid (((8 : Int), (1 : Int)) = qkd s.data.toList) := by show _ = _; rw [hq, if_neg k1, if_neg k2, if_neg k3, if_neg k4, if_pos k5]
      have he := hyes _ k5
      have hn1 : n = 1 := by
        have := congrArg List.length k5
        rw [take_list, List.length_take] at this
        have h2 : s.size = s.data.toList.length := Lib.size_eq s
        simp at this
        omega
      clear hq hto hyes k1 k2 k3 k4 k5
      subst hn1
      have he2 : s.extract 0 1 = ⟨#[115]⟩ := he
      have HW2 : Hid (∀ w, Calls Tryz.prog 37 #[.string s] w (InS 1 w)) := HW.out
      have g5 : ((1 : Int) == (s.size : Int)) = false := g4
      clear he g4 HW
      go_enter Tryz.func169, Tryz.ntmps169
      go_wp2_with (first
        | (go_at_call 37; refine (HW2.out _).mono ?_; rintro e w' ⟨rfl, rfl⟩)
        | (go_at_call 198; refine (HDL.out _ _).mono ?_; rintro e w' ⟨rfl, rfl⟩))
      go_ret2
      exact HP.out _ _ _ HX.out
    by_cases k6 : (s.extract 0 n).data.toList = [116, 114]
    · have HX : Hid (((9 : Int), (2 : Int)) = qkd s.data.toList) := by show _ = _; rw [hq, if_neg k1, if_neg k2, if_neg k3, if_neg k4, if_neg k5, if_pos k6]
      have he := hyes _ k6
      have hn1 : n = 2 := by
        have := congrArg List.length k6
        rw [take_list, List.length_take] at this
        have h2 : s.size = s.data.toList.length := Lib.size_eq s
        simp at this
        omega
      clear hq hto hyes k1 k2 k3 k4 k5 k6
      subst hn1
      have he2 : s.extract 0 2 = ⟨#[116, 114]⟩ := he
      have HW2 : Hid (∀ w, Calls Tryz.prog 37 #[.string s] w (InS 2 w)) := HW.out
      have g5 : ((2 : Int) == (s.size : Int)) = false := g4
      clear he g4 HW
      go_enter Tryz.func169, Tryz.ntmps169
      go_wp2_with (first
        | (go_at_call 37; refine (HW2.out _).mono ?_; rintro e w' ⟨rfl, rfl⟩)
        | (go_at_call 198; refine (HDL.out _ _).mono ?_; rintro e w' ⟨rfl, rfl⟩))
      go_ret2
      exact HP.out _ _ _ HX.out
    have HX : Hid (((0 : Int), (-1 : Int)) = qkd s.data.toList) := by show _ = _; rw [hq, if_neg k1, if_neg k2, if_neg k3, if_neg k4, if_neg k5, if_neg k6]
    have m1 := hto _ k1
    have m2 := hto _ k2
    have m3 := hto _ k3
    have m4 := hto _ k4
    have m5 := hto _ k5
    have m6 := hto _ k6
    clear hq hto hyes k1 k2 k3 k4 k5 k6
    go_enter Tryz.func169, Tryz.ntmps169
    go_wp2_with (first
      | (go_at_call 37; refine (HW.out _).mono ?_; rintro e w' ⟨rfl, rfl⟩)
      | (go_at_call 198; refine (HDL.out _ _).mono ?_; rintro e w' ⟨rfl, rfl⟩))
    go_ret2
    exact HP.out _ _ _ HX.out

end Go.Proofs.YtaocbhfehncdcaaGreatDoor

namespace Go.Proofs.YtaocbhfehncdcaaGreatDoor
open Go.RowKit

set_option maxRecDepth 100000 in
theorem word_ok (B : Nat) (s : ByteArray) (w : World) (hs : s.size ≤ 100000) (h12 : wsz s.data.toList ≤ 12) :
    Calls Tryz.prog 152 #[.pointer (some ⟨B, 0, none⟩), .string s] w (InS (wsz s.data.toList) w) := by
  have HW := Lib.hid (fun w => wordSize_any s w (by omega))
  have HP : Hid (∀ w, InS (wsz s.data.toList) w (.returned (.int .i64 (wsz s.data.toList : Nat))) w) := fun w => ⟨rfl, rfl⟩
  have h12i : ((wsz s.data.toList : Nat) : Int) ≤ 12 := by omega
  clear h12
  generalize ((wsz s.data.toList : Nat) : Int) = n at *
  go_enter Tryz.func152, Tryz.ntmps152
  go_wp2_with fail
  refine (HW.out _).mono ?_
  rintro e w' ⟨rfl, rfl⟩
  go_wp2
  go_ret
  exact HP.out _
set_option maxRecDepth 100000 in
theorem word_no (W0 B : Nat) (σ : Sf) (ρ : Sr) (s : ByteArray) (w : World) (h : IsSc W0 B σ ρ w) (hs : s.size ≤ 100000) (h12 : 12 < wsz s.data.toList) :
    Calls Tryz.prog 152 #[.pointer (some ⟨B, 0, none⟩), .string s] w (Wrong B σ.b w) := by
  obtain ⟨s', a, b, e, t, tk, tm, op, M⟩ := σ
  have HW := Lib.hid (fun w => wordSize_any s w (by omega))
  obtain ⟨c0, c1, c2, c3, c4, c5, c6, c7, c8⟩ := h.sc.fields
  dsimp only at c0 c1 c2 c3 c4 c5 c6 c7 c8
  clear c0 c1 c3 c4 c5 c6 c7 c8 h
  have HP : Hid (∀ w, Wrong B b w (.panicked [{ v := .iface 130 (.int .i64 (b : Int)), recovered := false }]) w) := fun w => ⟨rfl, But.refl _ _⟩
  have h12i : 12 < ((wsz s.data.toList : Nat) : Int) := by omega
  clear h12
  generalize ((wsz s.data.toList : Nat) : Int) = n at *
  go_enter Tryz.func152, Tryz.ntmps152
  go_wp2_with fail
  refine (HW.out _).mono ?_
  rintro e w' ⟨rfl, rfl⟩
  go_wp2
  exact ⟨rfl, HP.out _⟩

/-- A token of a kind with a text. -/
def tokV (k : Int) (x : ByteArray) : Value := .agg #[.int .i64 k, .int .i64 0, .string x, .string ⟨#[]⟩, .string ⟨#[]⟩, .int .i64 0]

set_option maxRecDepth 100000 in
set_option maxHeartbeats 4000000 in
theorem cut_any (W0 B : Nat) (σ : Sf) (ρ : Sr) (k : Int) (n : Nat) (w : World) (h : IsSc W0 B σ ρ w) (hs : σ.s.size ≤ 100000) (hn : σ.a + n ≤ σ.s.size) (_hk0 : 0 ≤ k) (_hk1 : k ≤ 9) :
    Calls Tryz.prog 153 #[.pointer (some ⟨B, 0, none⟩), .int .i64 k, .int .i64 n] w (ScP W0 B (tokV k (σ.s.extract σ.a (σ.a + n))) { σ with a := σ.a + n } ρ w) := by
  obtain ⟨s, a, b, e, t, tk, tm, op, M⟩ := σ
  dsimp only at hs hn
  have hlt := h.sc.lt
  have h1 := h.later ((Below.refl _ _).alloc (Nat.le_refl _) (.cells #[.int .i64 0, .int .i64 0, .string ⟨#[]⟩, .string ⟨#[]⟩, .string ⟨#[]⟩, .int .i64 0] 101))
  obtain ⟨c0, c1, c2, c3, c4, c5, c6, c7, c8⟩ := h1.sc.fields
  dsimp only at c0 c1 c2 c3 c4 c5 c6 c7 c8
  have fz := h1.sc.frozen 1
  have HP : Hid (∀ w', IsSc W0 B ⟨s, a + n, b, e, t, tk, tm, op, M⟩ ρ w' → But B w w' → ScP W0 B (tokV k (s.extract a (a + n))) ⟨s, a + n, b, e, t, tk, tm, op, M⟩ ρ w (.returned (tokV k (s.extract a (a + n)))) w') := fun w' h1 h2 => ⟨rfl, h1, h2⟩
  have h2 := (h.setA (a + n)).later ((Below.refl _ _).alloc (Nat.le_refl _) (.cells #[.int .i64 0, .int .i64 0, .string ⟨#[]⟩, .string ⟨#[]⟩, .string ⟨#[]⟩, .int .i64 0] 101))
  obtain ⟨d0, d1, d2, d3, d4, d5, d6, d7, d8⟩ := h2.sc.fields
  have hb2 := ((But.refl B w).set 1 (.int .i64 ((a + n : Nat) : Int))).trans (But.of ((Below.refl _ _).alloc (Nat.le_refl _) (.cells #[.int .i64 0, .int .i64 0, .string ⟨#[]⟩, .string ⟨#[]⟩, .string ⟨#[]⟩, .int .i64 0] 101)))
  dsimp only at d0 d1 d2 d3 d4 d5 d6 d7 d8
  rw [show ((a + n : Nat) : Int) = (a : Int) + (n : Int) from rfl] at *
  have H2 := Lib.hid h2
  have HB2 := Lib.hid hb2
  have hl0 := h.ltSize
  have HLT : Hid (ScLt w.heap.size B ⟨s, a + n, b, e, t, tk, tm, op, M⟩) := ⟨hl0.b, hl0.tk, hl0.tm, hl0.op, hl0.m⟩
  have hT : ((w.setCell ⟨B, 1, none⟩ (.int .i64 ((a : Int) + (n : Int)))).alloc (.cells #[.int .i64 0, .int .i64 0, .string ⟨#[]⟩, .string ⟨#[]⟩, .string ⟨#[]⟩, .int .i64 0] 101)).heap[w.heap.size]? = some (.cells #[.int .i64 0, .int .i64 0, .string ⟨#[]⟩, .string ⟨#[]⟩, .string ⟨#[]⟩, .int .i64 0] 101 (0, 0)) := by
    have := (Go.MapKept.heap_alloc (w.setCell ⟨B, 1, none⟩ (.int .i64 ((a : Int) + (n : Int)))) (.cells #[.int .i64 0, .int .i64 0, .string ⟨#[]⟩, .string ⟨#[]⟩, .string ⟨#[]⟩, .int .i64 0] 101)).1
    rwa [World.size_setCell] at this
  clear c0 c2 c3 c4 c5 c6 c7 c8 d2 d3 d4 d5 d6 d7 d8 h h1 h2 hb2 hl0
  have HT := Lib.hid hT
  clear hT
  go_enter Tryz.func153, Tryz.ntmps153
  go_wp2
  generalize (w.setCell ⟨B, 1, none⟩ (.int .i64 ((a : Int) + (n : Int)))).alloc (.cells #[.int .i64 0, .int .i64 0, .string ⟨#[]⟩, .string ⟨#[]⟩, .string ⟨#[]⟩, .int .i64 0] 101) = W2 at *
  generalize hTT : w.heap.size = T at *
  have HTT := Lib.hid hTT
  clear hTT
  have x2 : IntKind.i64.wrap (a : Int) = (a : Int) := IntWalk.i64_in _ (by omega)
  have x3 : (a : Int) + (n : Int) ≤ (s.size : Int) := by omega
  have x4 : ((a : Int) + (n : Int)).toNat = a + n := by omega
  have x5 : (a : Int) ≤ (a : Int) + (n : Int) := by omega
  go_still_tail 17, (by kernel_rfl)
  clear x2 x3 x4 x5
  change wpList _ _ _ _ _ W2.drew
  have H3 : Hid (IsSc W0 B ⟨s, a + n, b, e, t, tk, tm, op, M⟩ ρ W2.drew) := H2.out.later (Below.refl _ _).drew
  have HB3 : Hid (But B w W2.drew) := HB2.out.trans (But.of (Below.refl _ _).drew)
  have HT3 : Hid (W2.drew.heap[T]? = some (.cells #[.int .i64 0, .int .i64 0, .string ⟨#[]⟩, .string ⟨#[]⟩, .string ⟨#[]⟩, .int .i64 0] 101 (0, 0))) := HT.out
  clear H2 HB2 HT d0 d1
  generalize W2.drew = W3 at *
  have t0 : W3.cell? ⟨T, 0, none⟩ = some (.int .i64 0) := by rw [Lib.cell_of_heap HT3.out]; rfl
  have t1 : W3.cell? ⟨T, 1, none⟩ = some (.int .i64 0) := by rw [Lib.cell_of_heap HT3.out]; rfl
  have t2 : W3.cell? ⟨T, 2, none⟩ = some (.string ⟨#[]⟩) := by rw [Lib.cell_of_heap HT3.out]; rfl
  have t3 : W3.cell? ⟨T, 3, none⟩ = some (.string ⟨#[]⟩) := by rw [Lib.cell_of_heap HT3.out]; rfl
  have t4 : W3.cell? ⟨T, 4, none⟩ = some (.string ⟨#[]⟩) := by rw [Lib.cell_of_heap HT3.out]; rfl
  have t5 : W3.cell? ⟨T, 5, none⟩ = some (.int .i64 0) := by rw [Lib.cell_of_heap HT3.out]; rfl
  have z0 := Lib.frozen_of_heap HT3.out 0
  have z1 := Lib.frozen_of_heap HT3.out 1
  have z2 := Lib.frozen_of_heap HT3.out 2
  have z3 := Lib.frozen_of_heap HT3.out 3
  have z4 := Lib.frozen_of_heap HT3.out 4
  have z5 := Lib.frozen_of_heap HT3.out 5
  have hbt : ∀ x0 x1 x2 x3 x4 x5, Below T W3 ((((((W3.setCell ⟨T, 0, none⟩ x0).setCell ⟨T, 1, none⟩ x1).setCell ⟨T, 2, none⟩ x2).setCell ⟨T, 3, none⟩ x3).setCell ⟨T, 4, none⟩ x4).setCell ⟨T, 5, none⟩ x5) := fun x0 x1 x2 x3 x4 x5 =>
    ((((((Below.refl T W3).setCell (p := ⟨T, 0, none⟩) (Nat.le_refl _) x0).setCell (p := ⟨T, 1, none⟩) (Nat.le_refl _) x1).setCell (p := ⟨T, 2, none⟩) (Nat.le_refl _) x2).setCell (p := ⟨T, 3, none⟩) (Nat.le_refl _) x3).setCell (p := ⟨T, 4, none⟩) (Nat.le_refl _) x4).setCell (p := ⟨T, 5, none⟩) (Nat.le_refl _) x5
  have HBT := Lib.hid hbt
  clear hbt
  go_wp2
  have q0 := heap_setCell_same W3 T 0 _ _ (.int .i64 k) HT3.out
  have q1 := heap_setCell_same _ T 1 _ _ (.int .i64 0) q0
  have q2 := heap_setCell_same _ T 2 _ _ (.string (s.extract a (a + n))) q1
  have q3 := heap_setCell_same _ T 3 _ _ (.string ⟨#[]⟩) q2
  have q4 := heap_setCell_same _ T 4 _ _ (.string ⟨#[]⟩) q3
  have q5 := heap_setCell_same _ T 5 _ _ (.int .i64 0) q4
  have r0 := Lib.cell_of_heap q5 0
  have r1 := Lib.cell_of_heap q5 1
  have r2 := Lib.cell_of_heap q5 2
  have r3 := Lib.cell_of_heap q5 3
  have r4 := Lib.cell_of_heap q5 4
  have r5 := Lib.cell_of_heap q5 5
  clear q0 q1 q2 q3 q4 q5 t0 t1 t2 t3 t4 t5 z0 z1 z2 z3 z4 z5
  refine bodyPost_ret (v := tokV k (s.extract a (a + n))) ?_ rfl (HP.out _ (H3.out.below HLT.out (HBT.out _ _ _ _ _ _)) (HB3.out.more (by rw [HTT.out]; exact HBT.out _ _ _ _ _ _)))
  generalize (((((W3.setCell ⟨T, 0, none⟩ (.int .i64 k)).setCell ⟨T, 1, none⟩ (.int .i64 0)).setCell ⟨T, 2, none⟩ (.string (s.extract a (a + n)))).setCell ⟨T, 3, none⟩ (.string ⟨#[]⟩)).setCell ⟨T, 4, none⟩ (.string ⟨#[]⟩)).setCell ⟨T, 5, none⟩ (.int .i64 0) = W4 at *
  simp at r0 r1 r2 r3 r4 r5
  simp [results, Tryz.results153, go_sem, tokV, r0, r1, r2, r3, r4, r5]

end Go.Proofs.YtaocbhfehncdcaaGreatDoor
