/-
  part: what stands between the delimiters of a quote, or a panic where it does not end. Conditions: a text of at most 100000 bytes; what is left out lies ahead.
-/
import Derived.Test.YtnfoafcpcabpmaaDoorPa
namespace Go.Proofs.YtnfoafcpcabpmaaDoor
open Go.RowKit

/-- What part leaves. -/
def PtP (W0 B : Nat) (σ : Sf) (ρ : Sr) (r : Option (Nat × List UInt8)) (w : World) (e : Ending) (w' : World) : Prop :=
  match r with
  | some (a, out) => ScP W0 B (.string (bs out)) { σ with a := a } ρ w e w'
  | none => Wrong B σ.b w e w'
theorem u8_eq {a b : UInt8} (h : a = b) : ((a.toNat : Int) == (b.toNat : Int)) = true := by rw [h]; simp
theorem u8_ne {a b : UInt8} (h : a ≠ b) : ((a.toNat : Int) == (b.toNat : Int)) = false := by
  rw [beq_eq_false_iff_ne]
  intro e
  exact h (UInt8.toNat_inj.1 (by omega))

set_option maxRecDepth 100000 in
set_option maxHeartbeats 8000000 in
theorem part_any (W0 B : Nat) (σ : Sf) (ρ : Sr) (o : UInt8) (w : World) (h : IsSc W0 B σ ρ w) (hs : σ.s.size ≤ 100000) (hg : Gd σ.s.size ρ.ml) :
    Calls Tryd.prog 63 #[.pointer (some ⟨B, 0, none⟩), .int .u8 o.toNat] w (PtP W0 B σ ρ (pt σ.s ρ.ml o σ.a 1 []) w) := by
  obtain ⟨s, a0, b, e, t, tk, tm, op, M⟩ := σ
  dsimp only at hs hg
  have HPY : Hid (∀ a out w', pt s ρ.ml o a0 1 [] = some (a, out) → IsSc W0 B ⟨s, a, b, e, t, tk, tm, op, M⟩ ρ w' → But B w w' → PtP W0 B ⟨s, a0, b, e, t, tk, tm, op, M⟩ ρ (pt s ρ.ml o a0 1 []) w (.returned (.string (bs out))) w') := fun a out w' h1 h2 h3 => by
    rw [h1]
    exact ⟨rfl, h2, h3⟩
  have HPN : Hid (∀ w', pt s ρ.ml o a0 1 [] = none → But B w w' → PtP W0 B ⟨s, a0, b, e, t, tk, tm, op, M⟩ ρ (pt s ρ.ml o a0 1 []) w (.panicked [{ v := .iface 64 (.int .i64 (b : Int)), recovered := false }]) w') := fun w' h1 h2 => by
    rw [h1]
    exact ⟨rfl, h2⟩
  have HTK := Lib.hid (fun a w' (h : IsSc W0 B ⟨s, a, b, e, t, tk, tm, op, M⟩ ρ w') (ha : a < s.size) => take_any W0 B ⟨s, a, b, e, t, tk, tm, op, M⟩ ρ w' h hs ha)
  have HTN := Lib.hid (fun a w' (h : IsSc W0 B ⟨s, a, b, e, t, tk, tm, op, M⟩ ρ w') (ha : s.size ≤ a) => take_no W0 B ⟨s, a, b, e, t, tk, tm, op, M⟩ ρ w' h hs ha)
  have HSTP := Lib.hid (fun a d out (ha : a < s.size) => pt_step (o := o) hg d out ha)
  have HEND := Lib.hid (fun a d out (ha : s.size ≤ a) => pt_end (s := s) (ml := ρ.ml) (o := o) (d := d) (out := out) ha)
  have HGT : Hid (∀ a, a < stp ρ.ml a ∧ (a < s.size → stp ρ.ml a ≤ s.size)) := fun a => stp_gt hg a
  have HPR := Lib.hid (fun w => partner_any o w)
  have HWB := Lib.hid (fun l c w' (h1 : Bld w.heap.size w.heap.size l w') (h2 : l.length + 1 ≤ 140737488355328) (h3 : w.heap.size ≤ w'.heap.size) => WriteByte_any w.heap.size w.heap.size l c w' h1 h2 h3)
  have HLT : Hid (∀ a, ScLt w.heap.size B ⟨s, a, b, e, t, tk, tm, op, M⟩) := fun a => h.ltSize.withA a
  have HBlt : B < w.heap.size := h.sc.lt
  have HBL := Lib.hid HBlt
  have H0 : Hid (IsSc W0 B ⟨s, a0, b, e, t, tk, tm, op, M⟩ ρ (w.alloc (.cells #[.pointer none, .slice none 0 0] 53))) := h.later ((Below.refl _ _).alloc (Nat.le_refl _) _)
  have HF0 : Hid (Bld w.heap.size w.heap.size [] (w.alloc (.cells #[.pointer none, .slice none 0 0] 53))) := Bld.fresh _ w (Nat.le_refl _)
  have HB0 : Hid (But B w (w.alloc (.cells #[.pointer none, .slice none 0 0] 53))) := But.of ((Below.refl _ _).alloc (Nat.le_refl _) _)
  have HS0 : Hid (w.heap.size ≤ (w.alloc (.cells #[.pointer none, .slice none 0 0] 53)).heap.size) := by
    show _ ≤ _
    simp
  have HAT : Hid (∀ a (h : a < s.size), by0 s.data.toList a = s[a]) := fun a h => by0_at s a h
  clear h hg HBlt
  go_enter Tryd.func63, Tryd.ntmps63
  go_wp2_with fail
  refine (HPR.out _).mono ?_
  rintro e1 w' ⟨rfl, rfl⟩
  go_wp2_with fail
  generalize w.alloc (.cells #[.pointer none, .slice none 0 0] 53) = w1 at *
  generalize prB o = pe at *
  go_loopw [6] (fun dv wr => ∃ (a d : Nat) (out : List UInt8), 1 ≤ d ∧ d ≤ a + 1 ∧ (a ≤ s.size ∨ a = a0) ∧ out.length ≤ 2 * a ∧ dv = .int .i64 d ∧ Hid (pt s ρ.ml o a0 1 [] = pt s ρ.ml o a d out) ∧ Hid (IsSc W0 B ⟨s, a, b, e, t, tk, tm, op, M⟩ ρ wr) ∧ Hid (But B w wr) ∧ Hid (Bld w.heap.size w.heap.size out wr) ∧ Hid (w.heap.size ≤ wr.heap.size)) (fun _ wr => s.size - atOf B wr)
  case atStart => exact ⟨a0, 1, [], by omega, by omega, .inr rfl, by simp, rfl, rfl, H0, HB0, HF0, HS0⟩
  case round =>
    obtain ⟨a, d, out, hd1, hd2, hal, hol, rfl, hpt, hsc, hbu, hbd, hsz⟩ := hrel
    have HA : Hid (atOf B wr = a) := hsc.out.at
    by_cases hlt : a < s.size
    · have HT := Lib.hid (HTK.out a _ hsc.out hlt)
      have HE := Lib.hid (hpt.out.trans (HSTP.out a d out hlt))
      have hgt := HGT.out a
      generalize s[a] = x at *
      by_cases h1 : x = pe
      · have f1 := u8_eq h1
        by_cases h2 : d = 1
        · subst h2
          have HN : Hid (pt s ρ.ml o a0 1 [] = some (stp ρ.ml a, out)) := by
            show _ = _
            rw [HE.out, if_pos h1, if_pos rfl]
          clear h1
          rw [show ((1 : Nat) : Int) = 1 from rfl]
          go_wp2_with fail
          refine (HT.out).mono ?_
          rintro e1 w2 ⟨rfl, hsx, hbx⟩
          have HS2 := Lib.hid hsx
          have HB2 : Hid (But B w w2) := hbu.out.trans hbx
          have HD2 : Hid (Bld w.heap.size w.heap.size (out) w2) := hbd.out.but HBL.out hbx
          have HZ2 : Hid (w.heap.size ≤ w2.heap.size) := Nat.le_trans hsz.out hbx.size
          clear hsx hbx
          have HST := Lib.hid (String_any _ _ out w2 HD2.out HZ2.out)
          go_wp2_with fail
          refine (HST.out).mono ?_
          rintro e1 w3 ⟨rfl, hk3⟩
          have HB3 : Hid (But B w w3) := HB2.out.more hk3.2.1
          have HS3 : Hid (IsSc W0 B ⟨s, stp ρ.ml a, b, e, t, tk, tm, op, M⟩ ρ w3) := HS2.out.below (HLT.out _) hk3.2.1
          clear hk3
          go_wp2
          go_ret
          exact HPY.out _ _ _ HN.out HS3.out HB3.out
        · have HN : Hid (pt s ρ.ml o a0 1 [] = pt s ρ.ml o (stp ρ.ml a) (d - 1) (out ++ [x])) := by
            show _ = _
            rw [HE.out, if_pos h1, if_neg h2]
          have f2 : ((d : Int) - 1 == 0) = false := by rw [beq_eq_false_iff_ne]; omega
          clear h1
          go_wp2_with fail
          refine (HT.out).mono ?_
          rintro e1 w2 ⟨rfl, hsx, hbx⟩
          have HS2 := Lib.hid hsx
          have HB2 : Hid (But B w w2) := hbu.out.trans hbx
          have HD2 : Hid (Bld w.heap.size w.heap.size (out) w2) := hbd.out.but HBL.out hbx
          have HZ2 : Hid (w.heap.size ≤ w2.heap.size) := Nat.le_trans hsz.out hbx.size
          clear hsx hbx
          have HWX := Lib.hid (HWB.out (out) x _ HD2.out (by simp; omega) HZ2.out)
          go_wp2_with fail
          refine (HWX.out).mono ?_
          rintro e1 w3 ⟨rfl, hkx⟩
          have HD3 : Hid (Bld w.heap.size w.heap.size (out ++ [x]) w3) := hkx.1
          have HB3 : Hid (But B w w3) := HB2.out.more hkx.2.1
          have HS3 : Hid (IsSc W0 B ⟨s, stp ρ.ml a, b, e, t, tk, tm, op, M⟩ ρ w3) := HS2.out.below (HLT.out _) hkx.2.1
          have HZ3 : Hid (w.heap.size ≤ w3.heap.size) := Nat.le_trans HZ2.out hkx.2.1.size
          have HA3 : Hid (atOf B w3 = stp ρ.ml a) := HS3.out.at
          clear hkx HWX
          go_wp2
          go_roundw
          case rel => exact ⟨stp ρ.ml a, d - 1, out ++ [x], by omega, by omega, .inl (by omega), by simp; omega, by rw [show ((d - 1 : Nat) : Int) = (d : Int) - 1 by omega], HN, HS3, HB3, HD3, HZ3⟩
          case measure =>
            have h1 := HA.out
            have h2 := HA3.out
            omega
      · have f1 := u8_ne h1
        have f0 : ((d : Int) == 0) = false := by rw [beq_eq_false_iff_ne]; omega
        by_cases h2 : x = o
        · have f2 := u8_eq h2
          have HN : Hid (pt s ρ.ml o a0 1 [] = pt s ρ.ml o (stp ρ.ml a) (d + 1) (out ++ [x])) := by
            show _ = _
            rw [HE.out, if_neg h1, if_pos h2]
          have f3 : ((d : Int) + 1 == 0) = false := by rw [beq_eq_false_iff_ne]; omega
          clear h1 h2
          go_wp2_with fail
          refine (HT.out).mono ?_
          rintro e1 w2 ⟨rfl, hsx, hbx⟩
          have HS2 := Lib.hid hsx
          have HB2 : Hid (But B w w2) := hbu.out.trans hbx
          have HD2 : Hid (Bld w.heap.size w.heap.size (out) w2) := hbd.out.but HBL.out hbx
          have HZ2 : Hid (w.heap.size ≤ w2.heap.size) := Nat.le_trans hsz.out hbx.size
          clear hsx hbx
          have HWX := Lib.hid (HWB.out (out) x _ HD2.out (by simp; omega) HZ2.out)
          go_wp2_with fail
          refine (HWX.out).mono ?_
          rintro e1 w3 ⟨rfl, hkx⟩
          have HD3 : Hid (Bld w.heap.size w.heap.size (out ++ [x]) w3) := hkx.1
          have HB3 : Hid (But B w w3) := HB2.out.more hkx.2.1
          have HS3 : Hid (IsSc W0 B ⟨s, stp ρ.ml a, b, e, t, tk, tm, op, M⟩ ρ w3) := HS2.out.below (HLT.out _) hkx.2.1
          have HZ3 : Hid (w.heap.size ≤ w3.heap.size) := Nat.le_trans HZ2.out hkx.2.1.size
          have HA3 : Hid (atOf B w3 = stp ρ.ml a) := HS3.out.at
          clear hkx HWX
          go_wp2
          go_roundw
          case rel => exact ⟨stp ρ.ml a, d + 1, out ++ [x], by omega, by omega, .inl (by omega), by simp; omega, by go_num, HN, HS3, HB3, HD3, HZ3⟩
          case measure =>
            have h1 := HA.out
            have h2 := HA3.out
            omega
        · have f2 := u8_ne h2
          by_cases h3 : x = 92
          · have f3 : ((x.toNat : Int) == 92) = true := by rw [h3]; rfl
            by_cases h4 : stp ρ.ml a < s.size
            · have HN : Hid (pt s ρ.ml o a0 1 [] = pt s ρ.ml o (stp ρ.ml (stp ρ.ml a)) d (out ++ [x] ++ [s[stp ρ.ml a]])) := by
                show _ = _
                rw [HE.out, if_neg h1, if_neg h2, if_pos h3, if_pos h4, HAT.out _ h4, h3]
              have hgt2 := HGT.out (stp ρ.ml a)
              clear h1 h2 h3
              go_wp2_with fail
              refine (HT.out).mono ?_
              rintro e1 w2 ⟨rfl, hsx, hbx⟩
              have HS2 := Lib.hid hsx
              have HB2 : Hid (But B w w2) := hbu.out.trans hbx
              have HD2 : Hid (Bld w.heap.size w.heap.size (out) w2) := hbd.out.but HBL.out hbx
              have HZ2 : Hid (w.heap.size ≤ w2.heap.size) := Nat.le_trans hsz.out hbx.size
              clear hsx hbx
              have HWX := Lib.hid (HWB.out (out) x _ HD2.out (by simp; omega) HZ2.out)
              go_wp2_with fail
              refine (HWX.out).mono ?_
              rintro e1 w3 ⟨rfl, hkx⟩
              have HD3 : Hid (Bld w.heap.size w.heap.size (out ++ [x]) w3) := hkx.1
              have HB3 : Hid (But B w w3) := HB2.out.more hkx.2.1
              have HS3 : Hid (IsSc W0 B ⟨s, stp ρ.ml a, b, e, t, tk, tm, op, M⟩ ρ w3) := HS2.out.below (HLT.out _) hkx.2.1
              have HZ3 : Hid (w.heap.size ≤ w3.heap.size) := Nat.le_trans HZ2.out hkx.2.1.size
              have HA3 : Hid (atOf B w3 = stp ρ.ml a) := HS3.out.at
              clear hkx HWX
              have HT2 := Lib.hid (HTK.out _ _ HS3.out h4)
              generalize s[stp ρ.ml a] = y at *
              go_wp2_with fail
              refine (HT2.out).mono ?_
              rintro e1 w4 ⟨rfl, hsx, hbx⟩
              have HS4 := Lib.hid hsx
              have HB4 : Hid (But B w w4) := HB3.out.trans hbx
              have HD4 : Hid (Bld w.heap.size w.heap.size (out ++ [x]) w4) := HD3.out.but HBL.out hbx
              have HZ4 : Hid (w.heap.size ≤ w4.heap.size) := Nat.le_trans HZ3.out hbx.size
              clear hsx hbx
              have HWX := Lib.hid (HWB.out (out ++ [x]) y _ HD4.out (by simp; omega) HZ4.out)
              go_wp2_with fail
              refine (HWX.out).mono ?_
              rintro e1 w5 ⟨rfl, hkx⟩
              have HD5 : Hid (Bld w.heap.size w.heap.size (out ++ [x] ++ [y]) w5) := hkx.1
              have HB5 : Hid (But B w w5) := HB4.out.more hkx.2.1
              have HS5 : Hid (IsSc W0 B ⟨s, stp ρ.ml (stp ρ.ml a), b, e, t, tk, tm, op, M⟩ ρ w5) := HS4.out.below (HLT.out _) hkx.2.1
              have HZ5 : Hid (w.heap.size ≤ w5.heap.size) := Nat.le_trans HZ4.out hkx.2.1.size
              have HA5 : Hid (atOf B w5 = stp ρ.ml (stp ρ.ml a)) := HS5.out.at
              clear hkx HWX
              go_wp2
              go_roundw
              case rel => exact ⟨stp ρ.ml (stp ρ.ml a), d, out ++ [x] ++ [y], by omega, by omega, .inl (by omega), by simp; omega, rfl, HN, HS5, HB5, HD5, HZ5⟩
              case measure =>
                have h1 := HA.out
                have h2 := HA5.out
                omega
            · have HN : Hid (pt s ρ.ml o a0 1 [] = none) := by
                show _ = _
                rw [HE.out, if_neg h1, if_neg h2, if_pos h3, if_neg h4]
              clear h1 h2 h3
              go_wp2_with fail
              refine (HT.out).mono ?_
              rintro e1 w2 ⟨rfl, hsx, hbx⟩
              have HS2 := Lib.hid hsx
              have HB2 : Hid (But B w w2) := hbu.out.trans hbx
              have HD2 : Hid (Bld w.heap.size w.heap.size (out) w2) := hbd.out.but HBL.out hbx
              have HZ2 : Hid (w.heap.size ≤ w2.heap.size) := Nat.le_trans hsz.out hbx.size
              clear hsx hbx
              have HWX := Lib.hid (HWB.out (out) x _ HD2.out (by simp; omega) HZ2.out)
              go_wp2_with fail
              refine (HWX.out).mono ?_
              rintro e1 w3 ⟨rfl, hkx⟩
              have HD3 : Hid (Bld w.heap.size w.heap.size (out ++ [x]) w3) := hkx.1
              have HB3 : Hid (But B w w3) := HB2.out.more hkx.2.1
              have HS3 : Hid (IsSc W0 B ⟨s, stp ρ.ml a, b, e, t, tk, tm, op, M⟩ ρ w3) := HS2.out.below (HLT.out _) hkx.2.1
              have HZ3 : Hid (w.heap.size ≤ w3.heap.size) := Nat.le_trans HZ2.out hkx.2.1.size
              have HA3 : Hid (atOf B w3 = stp ρ.ml a) := HS3.out.at
              clear hkx HWX
              have HT2 := Lib.hid (HTN.out _ _ HS3.out (by omega))
              go_wp2_with fail
              refine (HT2.out).mono ?_
              rintro e1 w4 ⟨rfl, hb4⟩
              have HB4 : Hid (But B w w4) := HB3.out.trans hb4
              clear hb4
              go_wp2
              exact ⟨rfl, HPN.out _ HN.out HB4.out⟩
          · have f3 : ((x.toNat : Int) == 92) = false := u8_ne (b := 92) h3
            have HN : Hid (pt s ρ.ml o a0 1 [] = pt s ρ.ml o (stp ρ.ml a) d (out ++ [x])) := by
              show _ = _
              rw [HE.out, if_neg h1, if_neg h2, if_neg h3]
            clear h1 h2 h3
            go_wp2_with fail
            refine (HT.out).mono ?_
            rintro e1 w2 ⟨rfl, hsx, hbx⟩
            have HS2 := Lib.hid hsx
            have HB2 : Hid (But B w w2) := hbu.out.trans hbx
            have HD2 : Hid (Bld w.heap.size w.heap.size (out) w2) := hbd.out.but HBL.out hbx
            have HZ2 : Hid (w.heap.size ≤ w2.heap.size) := Nat.le_trans hsz.out hbx.size
            clear hsx hbx
            have HWX := Lib.hid (HWB.out (out) x _ HD2.out (by simp; omega) HZ2.out)
            go_wp2_with fail
            refine (HWX.out).mono ?_
            rintro e1 w3 ⟨rfl, hkx⟩
            have HD3 : Hid (Bld w.heap.size w.heap.size (out ++ [x]) w3) := hkx.1
            have HB3 : Hid (But B w w3) := HB2.out.more hkx.2.1
            have HS3 : Hid (IsSc W0 B ⟨s, stp ρ.ml a, b, e, t, tk, tm, op, M⟩ ρ w3) := HS2.out.below (HLT.out _) hkx.2.1
            have HZ3 : Hid (w.heap.size ≤ w3.heap.size) := Nat.le_trans HZ2.out hkx.2.1.size
            have HA3 : Hid (atOf B w3 = stp ρ.ml a) := HS3.out.at
            clear hkx HWX
            go_wp2
            go_roundw
            case rel => exact ⟨stp ρ.ml a, d, out ++ [x], by omega, by omega, .inl (by omega), by simp; omega, rfl, HN, HS3, HB3, HD3, HZ3⟩
            case measure =>
              have h1 := HA.out
              have h2 := HA3.out
              omega
    · have HT := Lib.hid (HTN.out a _ hsc.out (by omega))
      have HE : Hid (pt s ρ.ml o a0 1 [] = none) := hpt.out.trans (HEND.out a d out (by omega))
      go_wp2_with fail
      refine (HT.out).mono ?_
      rintro e1 w2 ⟨rfl, hb2⟩
      have HB2 : Hid (But B w w2) := hbu.out.trans hb2
      clear hb2
      go_wp2
      exact ⟨rfl, HPN.out _ HE.out HB2.out⟩

end Go.Proofs.YtnfoafcpcabpmaaDoor
