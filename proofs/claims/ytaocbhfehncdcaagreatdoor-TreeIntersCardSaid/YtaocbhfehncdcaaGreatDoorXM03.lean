/-
  A scanner goes on: take, blanks, gap. Conditions: a place within a text of at most 1000000 bytes; what is left out lies ahead. A scanner goes on: gap, take. Conditions: a place within a text of at most 100000 bytes; what is left out lies ahead. A scanner at its end: take panics. Conditions: a text of at most 100000 bytes.
-/
import Derived.Test.YtaocbhfehncdcaaGreatDoorXM02
namespace Go.Proofs.YtaocbhfehncdcaaGreatDoor
open Go.RowKit

/-- How far one goes while p holds. -/
def itF (p : Nat → Bool) (f : Nat → Nat) : Nat → Nat → Nat
  | 0, a => a
  | k + 1, a => if p a = true then itF p f k (f a) else a
def it (p : Nat → Bool) (f : Nat → Nat) (n a : Nat) : Nat := itF p f (n - a) a
def ItOk (p : Nat → Bool) (f : Nat → Nat) (n : Nat) : Prop := ∀ a, p a = true → a < n ∧ a < f a
theorem itF_more {p : Nat → Bool} {f : Nat → Nat} {n : Nat} (h : ItOk p f n) : ∀ (k m a : Nat), n - a ≤ k → n - a ≤ m → itF p f k a = itF p f m a
  | 0, 0, a, _, _ => rfl
  | 0, m + 1, a, h1, _ => by
    show a = if p a = true then itF p f m (f a) else a
    rw [if_neg]
    intro hp
    have := (h a hp).1
    omega
  | k + 1, 0, a, _, h2 => by
    show (if p a = true then itF p f k (f a) else a) = a
    rw [if_neg]
    intro hp
    have := (h a hp).1
    omega
  | k + 1, m + 1, a, h1, h2 => by
    show (if p a = true then itF p f k (f a) else a) = if p a = true then itF p f m (f a) else a
    by_cases hp : p a = true
    · rw [if_pos hp, if_pos hp]
      have := h a hp
      exact itF_more h k m (f a) (by omega) (by omega)
    · rw [if_neg hp, if_neg hp]
theorem it_on {p : Nat → Bool} {f : Nat → Nat} {n : Nat} (h : ItOk p f n) {a : Nat} (hp : p a = true) : it p f n a = it p f n (f a) := by
  have h1 := h a hp
  unfold it
  obtain ⟨k, hk⟩ : ∃ k, n - a = k + 1 := ⟨n - a - 1, by omega⟩
  rw [hk]
  show (if p a = true then itF p f k (f a) else a) = _
  rw [if_pos hp]
  exact itF_more h k (n - f a) (f a) (by omega) (Nat.le_refl _)
theorem it_off {p : Nat → Bool} {f : Nat → Nat} {n : Nat} {a : Nat} (hp : p a = false) : it p f n a = a := by
  unfold it
  cases n - a with
  | zero => rfl
  | succ k =>
    show (if p a = true then itF p f k (f a) else a) = _
    rw [hp]
    rfl
theorem itF_ge {p : Nat → Bool} {f : Nat → Nat} {n : Nat} (h : ItOk p f n) : ∀ (k a : Nat), a ≤ itF p f k a
  | 0, a => Nat.le_refl a
  | k + 1, a => by
    show a ≤ if p a = true then itF p f k (f a) else a
    split
    · rename_i hp
      have h1 := (h a hp).2
      have h2 := itF_ge h k (f a)
      omega
    · exact Nat.le_refl a
theorem itF_le {p : Nat → Bool} {f : Nat → Nat} {n : Nat} (h : ∀ a, p a = true → f a ≤ n) : ∀ (k a : Nat), a ≤ n → itF p f k a ≤ n
  | 0, a, ha => ha
  | k + 1, a, ha => by
    show (if p a = true then itF p f k (f a) else a) ≤ n
    split
    · rename_i hp
      exact itF_le h k (f a) (h a hp)
    · exact ha

/-- The byte at a place, 0 where there is none. -/
def by0 (l : List UInt8) (a : Nat) : UInt8 := l.getD a 0
theorem by0_at (s : ByteArray) (a : Nat) (h : a < s.size) : by0 s.data.toList a = s[a] := by
  unfold by0
  rw [List.getD_eq_getElem?_getD, getElem_list2 s a h]
  rfl
/-- Behind blanks. -/
def blkP (s : ByteArray) (a : Nat) : Bool := decide (a < s.size) && blB (by0 s.data.toList a)
def blk (s : ByteArray) (ml : List (Nat × Nat)) (a : Nat) : Nat := it (blkP s) (stp ml) s.size a
/-- At the end of a line. -/
def cmtP (s : ByteArray) (a : Nat) : Bool := decide (a < s.size) && (by0 s.data.toList a != 10)
def cmt (s : ByteArray) (ml : List (Nat × Nat)) (a : Nat) : Nat := it (cmtP s) (stp ml) s.size a
/-- Behind blanks and comments. -/
def gapP (s : ByteArray) (a : Nat) : Bool := decide (a < s.size) && (by0 s.data.toList a == 35)
def gapF (s : ByteArray) (ml : List (Nat × Nat)) (a : Nat) : Nat := blk s ml (cmt s ml a)
def gap (s : ByteArray) (ml : List (Nat × Nat)) (a : Nat) : Nat := it (gapP s) (gapF s ml) s.size (blk s ml a)
theorem blkOk {s : ByteArray} {ml : List (Nat × Nat)} (h : Gd s.size ml) : ItOk (blkP s) (stp ml) s.size := fun a ha => by
  unfold blkP at ha
  simp only [Bool.and_eq_true, decide_eq_true_eq] at ha
  exact ⟨ha.1, (stp_gt h a).1⟩
theorem cmtOk {s : ByteArray} {ml : List (Nat × Nat)} (h : Gd s.size ml) : ItOk (cmtP s) (stp ml) s.size := fun a ha => by
  unfold cmtP at ha
  simp only [Bool.and_eq_true, decide_eq_true_eq] at ha
  exact ⟨ha.1, (stp_gt h a).1⟩
theorem blk_ge {s : ByteArray} {ml : List (Nat × Nat)} (h : Gd s.size ml) (a : Nat) : a ≤ blk s ml a := itF_ge (blkOk h) _ _
theorem cmt_ge {s : ByteArray} {ml : List (Nat × Nat)} (h : Gd s.size ml) (a : Nat) : a ≤ cmt s ml a := itF_ge (cmtOk h) _ _
theorem blk_le {s : ByteArray} {ml : List (Nat × Nat)} (h : Gd s.size ml) (a : Nat) (ha : a ≤ s.size) : blk s ml a ≤ s.size :=
  itF_le (fun a hp => (stp_gt h a).2 (blkOk h a hp).1) _ _ ha
theorem cmt_le {s : ByteArray} {ml : List (Nat × Nat)} (h : Gd s.size ml) (a : Nat) (ha : a ≤ s.size) : cmt s ml a ≤ s.size :=
  itF_le (fun a hp => (stp_gt h a).2 (cmtOk h a hp).1) _ _ ha
theorem gapOk {s : ByteArray} {ml : List (Nat × Nat)} (h : Gd s.size ml) : ItOk (gapP s) (gapF s ml) s.size := fun a ha => by
  unfold gapP at ha
  simp only [Bool.and_eq_true, decide_eq_true_eq, beq_iff_eq] at ha
  refine ⟨ha.1, ?_⟩
  have hp : cmtP s a = true := by
    unfold cmtP
    simp [ha.1, ha.2]
  have h1 : cmt s ml a = cmt s ml (stp ml a) := it_on (cmtOk h) hp
  have h2 := cmt_ge h (stp ml a)
  have h3 := (stp_gt h a).1
  have h4 := blk_ge h (cmt s ml a)
  unfold gapF
  omega
theorem gapF_le {s : ByteArray} {ml : List (Nat × Nat)} (h : Gd s.size ml) (a : Nat) (ha : a ≤ s.size) : gapF s ml a ≤ s.size := blk_le h _ (cmt_le h a ha)
theorem gap_le {s : ByteArray} {ml : List (Nat × Nat)} (h : Gd s.size ml) (a : Nat) (ha : a ≤ s.size) : gap s ml a ≤ s.size :=
  itF_le (fun a hp => gapF_le h a (Nat.le_of_lt (gapOk h a hp).1)) _ _ (blk_le h a ha)

/-- The place that a scanner's block holds. -/
def atOf (B : Nat) (w : World) : Nat := match w.cell? ⟨B, 1, none⟩ with | some (.int _ x) => x.toNat | _ => 0
theorem IsSc.at {W0 B : Nat} {σ : Sf} {ρ : Sr} {w : World} (h : IsSc W0 B σ ρ w) : atOf B w = σ.a := by
  unfold atOf
  rw [h.sc.fields.2.1]
  simp
theorem isBlank_q (b : UInt8) (w : World) : Calls Tryz.prog 134 #[.int .u8 b.toNat] w fun e w' => e = .returned (.bool (blB b)) ∧ w' = w :=
  (isBlank_any b w).mono fun _ _ h => ⟨h.1, h.2.symm⟩

set_option maxRecDepth 100000 in
set_option maxHeartbeats 4000000 in
theorem blanks_any (W0 B : Nat) (σ : Sf) (ρ : Sr) (w : World) (h : IsSc W0 B σ ρ w) (hs : σ.s.size ≤ 100000) (hg : Gd σ.s.size ρ.ml) (ha : σ.a ≤ σ.s.size) :
    Calls Tryz.prog 145 #[.pointer (some ⟨B, 0, none⟩)] w (ScP W0 B (.tuple #[]) { σ with a := blk σ.s ρ.ml σ.a } ρ w) := by
  obtain ⟨s, a0, b, e, t, tk, tm, op, M⟩ := σ
  dsimp only at hs hg ha
  have HP : Hid (∀ w', IsSc W0 B ⟨s, blk s ρ.ml a0, b, e, t, tk, tm, op, M⟩ ρ w' → But B w w' → ScP W0 B (.tuple #[]) ⟨s, blk s ρ.ml a0, b, e, t, tk, tm, op, M⟩ ρ w (.returned (.tuple #[])) w') := fun w' h1 h2 => ⟨rfl, h1, h2⟩
  have HST := Lib.hid (fun a w' (h : IsSc W0 B ⟨s, a, b, e, t, tk, tm, op, M⟩ ρ w') (ha : a ≤ 1000000) => step_any W0 B ⟨s, a, b, e, t, tk, tm, op, M⟩ ρ w' h ha)
  have HON : Hid (∀ a, blkP s a = true → blk s ρ.ml a = blk s ρ.ml (stp ρ.ml a)) := fun a hp => it_on (blkOk hg) hp
  have HOF : Hid (∀ a, blkP s a = false → blk s ρ.ml a = a) := fun a hp => it_off hp
  have HGT : Hid (∀ a, a < stp ρ.ml a ∧ (a < s.size → stp ρ.ml a ≤ s.size)) := fun a => stp_gt hg a
  have HBL := Lib.hid isBlank_q
  have H0 := Lib.hid h
  have HB0 := Lib.hid (But.refl B w)
  have HAT : Hid (∀ a (h : a < s.size), by0 s.data.toList a = s[a]) := fun a h => by0_at s a h
  clear h hg
  go_enter Tryz.func145, Tryz.ntmps145
  go_wp2
  go_loopw [12] (fun _ wr => ∃ a : Nat, a ≤ s.size ∧ Hid (blk s ρ.ml a0 = blk s ρ.ml a) ∧ Hid (IsSc W0 B ⟨s, a, b, e, t, tk, tm, op, M⟩ ρ wr) ∧ Hid (But B w wr)) (fun _ wr => s.size - atOf B wr)
  case atStart => exact ⟨a0, ha, rfl, H0, HB0⟩
  case round =>
    obtain ⟨a, hal, hbk, hsc, hbl⟩ := hrel
    obtain ⟨c0, c1, c2, c3, c4, c5, c6, c7, c8⟩ := hsc.out.sc.fields
    dsimp only at c0 c1 c2 c3 c4 c5 c6 c7 c8
    have HA : Hid (atOf B wr = a) := hsc.out.at
    clear c2 c3 c4 c5 c6 c7 c8
    by_cases hlt : a < s.size
    · have hai := HAT.out a hlt
      cases hb : blB s[a]
      · have hpf : blkP s a = false := by
          unfold blkP
          rw [hai, hb]
          simp
        have HN : Hid (IsSc W0 B ⟨s, blk s ρ.ml a0, b, e, t, tk, tm, op, M⟩ ρ wr) := by
          show IsSc _ _ _ _ _
          rw [hbk.out, HOF.out a hpf]
          exact hsc.out
        clear hpf hai
        have hlti : (a : Int) < (s.size : Int) := by omega
        go_wp2
        go_quiet ((go_at_call 134; exact Calls.quiet_of_same (HBL.out _ _)))
        go_wp2
        go_end0
        exact HP.out _ (HN.out.drew _) (hbl.out.drewN _)
      · have hpt : blkP s a = true := by
          unfold blkP
          rw [hai, hb]
          simp [hlt]
        have HN : Hid (blk s ρ.ml a0 = blk s ρ.ml (stp ρ.ml a)) := hbk.out.trans (HON.out a hpt)
        have hgt := HGT.out a
        clear hpt hai
        have hlti : (a : Int) < (s.size : Int) := by omega
        go_wp2
        go_quiet ((go_at_call 134; exact Calls.quiet_of_same (HBL.out _ _)))
        go_wp2_with fail
        refine (HST.out a _ (hsc.out.drew _) (by omega)).mono ?_
        rintro e1 w2 ⟨rfl, hs2, hb2⟩
        have HS2 := Lib.hid hs2
        have HB2 : Hid (But B w w2) := (hbl.out.drewN _).trans hb2
        have HA2 : Hid (atOf B w2 = stp ρ.ml a) := hs2.at
        clear hs2 hb2
        go_wp2
        go_roundw
        case rel => exact ⟨stp ρ.ml a, hgt.2 hlt, HN, HS2, HB2⟩
        case measure =>
          have h1 := HA.out
          have h2 := HA2.out
          omega
    · have hpf : blkP s a = false := by
        unfold blkP
        simp [hlt]
      have HN : Hid (IsSc W0 B ⟨s, blk s ρ.ml a0, b, e, t, tk, tm, op, M⟩ ρ wr) := by
        show IsSc _ _ _ _ _
        rw [hbk.out, HOF.out a hpf]
        exact hsc.out
      clear hpf
      have hlti : (s.size : Int) ≤ (a : Int) := by omega
      go_wp2
      go_quiet ((go_at_call 134; exact Calls.quiet_of_same (HBL.out _ _)))
      go_wp2
      go_end0
      exact HP.out _ (HN.out.drew _) (hbl.out.drewN _)

end Go.Proofs.YtaocbhfehncdcaaGreatDoor

namespace Go.Proofs.YtaocbhfehncdcaaGreatDoor
open Go.RowKit

set_option maxRecDepth 100000 in
set_option maxHeartbeats 4000000 in
theorem gap_any (W0 B : Nat) (σ : Sf) (ρ : Sr) (w : World) (h : IsSc W0 B σ ρ w) (hs : σ.s.size ≤ 100000) (hg : Gd σ.s.size ρ.ml) (ha : σ.a ≤ σ.s.size) :
    Calls Tryz.prog 131 #[.pointer (some ⟨B, 0, none⟩)] w (ScP W0 B (.tuple #[]) { σ with a := gap σ.s ρ.ml σ.a } ρ w) := by
  obtain ⟨s, a0, b, e, t, tk, tm, op, M⟩ := σ
  dsimp only at hs hg ha
  have HP : Hid (∀ w', IsSc W0 B ⟨s, gap s ρ.ml a0, b, e, t, tk, tm, op, M⟩ ρ w' → But B w w' → ScP W0 B (.tuple #[]) ⟨s, gap s ρ.ml a0, b, e, t, tk, tm, op, M⟩ ρ w (.returned (.tuple #[])) w') := fun w' h1 h2 => ⟨rfl, h1, h2⟩
  have HST := Lib.hid (fun a w' (h : IsSc W0 B ⟨s, a, b, e, t, tk, tm, op, M⟩ ρ w') (ha : a ≤ 1000000) => step_any W0 B ⟨s, a, b, e, t, tk, tm, op, M⟩ ρ w' h ha)
  have HBK := Lib.hid (fun a w' (h : IsSc W0 B ⟨s, a, b, e, t, tk, tm, op, M⟩ ρ w') (ha : a ≤ s.size) => blanks_any W0 B ⟨s, a, b, e, t, tk, tm, op, M⟩ ρ w' h hs hg ha)
  have HON : Hid (∀ a, cmtP s a = true → cmt s ρ.ml a = cmt s ρ.ml (stp ρ.ml a)) := fun a hp => it_on (cmtOk hg) hp
  have HOF : Hid (∀ a, cmtP s a = false → cmt s ρ.ml a = a) := fun a hp => it_off hp
  have HGON : Hid (∀ a, gapP s a = true → it (gapP s) (gapF s ρ.ml) s.size a = it (gapP s) (gapF s ρ.ml) s.size (gapF s ρ.ml a) ∧ a < gapF s ρ.ml a) := fun a hp => ⟨it_on (gapOk hg) hp, (gapOk hg a hp).2⟩
  have HGOF : Hid (∀ a, gapP s a = false → it (gapP s) (gapF s ρ.ml) s.size a = a) := fun a hp => it_off hp
  have HGT : Hid (∀ a, a < stp ρ.ml a ∧ (a < s.size → stp ρ.ml a ≤ s.size)) := fun a => stp_gt hg a
  have HBL : Hid (∀ a, a ≤ s.size → blk s ρ.ml a ≤ s.size) := fun a h => blk_le hg a h
  have H0 := Lib.hid h
  have HB0 := Lib.hid (But.refl B w)
  have HAT : Hid (∀ a (h : a < s.size), by0 s.data.toList a = s[a]) := fun a h => by0_at s a h
  clear h hg
  go_enter Tryz.func131, Tryz.ntmps131
  go_wp2_with fail
  refine (HBK.out a0 _ H0.out ha).mono ?_
  rintro e1 w1 ⟨rfl, hs1, hb1⟩
  have HS1 := Lib.hid hs1
  have HB1 := Lib.hid hb1
  have hal1 := HBL.out a0 ha
  clear hs1 hb1
  go_wp2
  go_loopw [14] (fun _ wr => ∃ a : Nat, a ≤ s.size ∧ Hid (gap s ρ.ml a0 = it (gapP s) (gapF s ρ.ml) s.size a) ∧ Hid (IsSc W0 B ⟨s, a, b, e, t, tk, tm, op, M⟩ ρ wr) ∧ Hid (But B w wr)) (fun _ wr => s.size - atOf B wr)
  case atStart => exact ⟨blk s ρ.ml a0, hal1, rfl, HS1, HB1⟩
  case round =>
    obtain ⟨a, hal, hbk, hsc, hbl⟩ := hrel
    obtain ⟨c0, c1, c2, c3, c4, c5, c6, c7, c8⟩ := hsc.out.sc.fields
    dsimp only at c0 c1 c2 c3 c4 c5 c6 c7 c8
    have HA : Hid (atOf B wr = a) := hsc.out.at
    clear c2 c3 c4 c5 c6 c7 c8
    by_cases hlt : a < s.size
    · have hai := HAT.out a hlt
      have hlti : (a : Int) < (s.size : Int) := by omega
      by_cases hb : s[a] = 35
      · have hpt : gapP s a = true := by
          unfold gapP
          rw [hai, hb]
          simp [hlt]
        have f1 : ((s[a].toNat : Int) == 35) = true := by rw [hb]; rfl
        obtain ⟨hg1, hg2⟩ := HGON.out a hpt
        have HN : Hid (gap s ρ.ml a0 = it (gapP s) (gapF s ρ.ml) s.size (blk s ρ.ml (cmt s ρ.ml a))) := hbk.out.trans hg1
        have HLT2 : Hid (a < blk s ρ.ml (cmt s ρ.ml a)) := hg2
        clear hpt hai hb hg1 hg2
        go_wp2
        go_quiet (fail)
        go_wp2
        have HSq : Hid (IsSc W0 B ⟨s, a, b, e, t, tk, tm, op, M⟩ ρ (wr.drewN nq)) := hsc.out.drew _
        have HBq : Hid (But B w (wr.drewN nq)) := hbl.out.drewN _
        clear c0 c1
        generalize wr.drewN nq = wq at *
        go_loopw [38] (fun _ wr2 => ∃ a2 : Nat, a2 ≤ s.size ∧ Hid (cmt s ρ.ml a = cmt s ρ.ml a2) ∧ Hid (IsSc W0 B ⟨s, a2, b, e, t, tk, tm, op, M⟩ ρ wr2) ∧ Hid (But B w wr2)) (fun _ wr2 => s.size - atOf B wr2)
        case atStart => exact ⟨a, hal, rfl, HSq, HBq⟩
        case round =>
          obtain ⟨a2, hal2, hcm, hsc2, hbl2⟩ := hrel
          obtain ⟨c0, c1, c2, c3, c4, c5, c6, c7, c8⟩ := hsc2.out.sc.fields
          dsimp only at c0 c1 c2 c3 c4 c5 c6 c7 c8
          have HA2 : Hid (atOf B wr = a2) := hsc2.out.at
          clear c2 c3 c4 c5 c6 c7 c8
          have hout : cmtP s a2 = false → Hid (IsSc W0 B ⟨s, cmt s ρ.ml a, b, e, t, tk, tm, op, M⟩ ρ wr) := fun hpf => by
            show IsSc _ _ _ _ _
            rw [hcm.out, HOF.out a2 hpf]
            exact hsc2.out
          have HOUT := Lib.hid hout
          clear hout
          by_cases hlt2 : a2 < s.size
          · have hai2 := HAT.out a2 hlt2
            have hlti2 : (a2 : Int) < (s.size : Int) := by omega
            by_cases hb2 : s[a2] = 10
            · have hpf : cmtP s a2 = false := by
                unfold cmtP
                rw [hai2, hb2]
                simp
              have f2 : ((s[a2].toNat : Int) != 10) = false := by rw [hb2]; rfl
              have HC := HOUT.out hpf
              have hcl : cmt s ρ.ml a ≤ s.size := by
                have := hcm.out
                rw [HOF.out a2 hpf] at this
                omega
              clear hpf hai2 hb2
              go_wp2
              go_quiet (fail)
              go_wp2_with fail
              refine (HBK.out (cmt s ρ.ml a) _ (HC.out.drew _) hcl).mono ?_
              rintro e2 w3 ⟨rfl, hs3, hb3⟩
              have HS3 := Lib.hid hs3
              have HB3 : Hid (But B w w3) := (hbl2.out.drewN _).trans hb3
              have HA3 : Hid (atOf B w3 = blk s ρ.ml (cmt s ρ.ml a)) := hs3.at
              have hle3 := HBL.out _ hcl
              clear hs3 hb3
              go_wp2
              go_roundw
              case rel => exact ⟨blk s ρ.ml (cmt s ρ.ml a), hle3, HN, HS3, HB3⟩
              case measure =>
                have h1 := HA.out
                have h2 := HA3.out
                have h3 := HLT2.out
                omega
            · have hpt : cmtP s a2 = true := by
                unfold cmtP
                rw [hai2]
                simp [hlt2, hb2]
              have f2 : ((s[a2].toNat : Int) != 10) = true := by
                rw [bne_iff_ne]
                intro h
                exact hb2 (UInt8.toNat_inj.1 (by show _ = 10; omega))
              have HN2 : Hid (cmt s ρ.ml a = cmt s ρ.ml (stp ρ.ml a2)) := hcm.out.trans (HON.out a2 hpt)
              have hgt := HGT.out a2
              clear hpt hai2 hb2
              go_wp2
              go_quiet (fail)
              go_wp2_with fail
              refine (HST.out a2 _ (hsc2.out.drew _) (by omega)).mono ?_
              rintro e2 w3 ⟨rfl, hs3, hb3⟩
              have HS3 := Lib.hid hs3
              have HB3 : Hid (But B w w3) := (hbl2.out.drewN _).trans hb3
              have HA3 : Hid (atOf B w3 = stp ρ.ml a2) := hs3.at
              clear hs3 hb3
              go_wp2
              go_roundw
              case rel => exact ⟨stp ρ.ml a2, hgt.2 hlt2, HN2, HS3, HB3⟩
              case measure =>
                have h1 := HA2.out
                have h2 := HA3.out
                omega
          · have hpf : cmtP s a2 = false := by
              unfold cmtP
              simp [hlt2]
            have HC := HOUT.out hpf
            have hcl : cmt s ρ.ml a ≤ s.size := by
              have := hcm.out
              rw [HOF.out a2 hpf] at this
              omega
            have hlti2 : (s.size : Int) ≤ (a2 : Int) := by omega
            clear hpf
            go_wp2
            go_quiet (fail)
            go_wp2_with fail
            refine (HBK.out (cmt s ρ.ml a) _ (HC.out.drew _) hcl).mono ?_
            rintro e2 w3 ⟨rfl, hs3, hb3⟩
            have HS3 := Lib.hid hs3
            have HB3 : Hid (But B w w3) := (hbl2.out.drewN _).trans hb3
            have HA3 : Hid (atOf B w3 = blk s ρ.ml (cmt s ρ.ml a)) := hs3.at
            have hle3 := HBL.out _ hcl
            clear hs3 hb3
            go_wp2
            go_roundw
            case rel => exact ⟨blk s ρ.ml (cmt s ρ.ml a), hle3, HN, HS3, HB3⟩
            case measure =>
              have h1 := HA.out
              have h2 := HA3.out
              have h3 := HLT2.out
              omega
      · have hpf : gapP s a = false := by
          unfold gapP
          rw [hai]
          simp [hb]
        have f1 : ((s[a].toNat : Int) == 35) = false := by
          rw [beq_eq_false_iff_ne]
          intro h
          exact hb (UInt8.toNat_inj.1 (by show _ = 35; omega))
        have HN : Hid (IsSc W0 B ⟨s, gap s ρ.ml a0, b, e, t, tk, tm, op, M⟩ ρ wr) := by
          show IsSc _ _ _ _ _
          rw [hbk.out, HGOF.out a hpf]
          exact hsc.out
        clear hpf hai hb
        go_wp2
        go_quiet (fail)
        go_wp2
        go_end0
        exact HP.out _ (HN.out.drew _) (hbl.out.drewN _)
    · have hpf : gapP s a = false := by
        unfold gapP
        simp [hlt]
      have HN : Hid (IsSc W0 B ⟨s, gap s ρ.ml a0, b, e, t, tk, tm, op, M⟩ ρ wr) := by
        show IsSc _ _ _ _ _
        rw [hbk.out, HGOF.out a hpf]
        exact hsc.out
      clear hpf
      have hlti : (s.size : Int) ≤ (a : Int) := by omega
      go_wp2
      go_quiet (fail)
      go_wp2
      go_end0
      exact HP.out _ (HN.out.drew _) (hbl.out.drewN _)

set_option maxRecDepth 100000 in
set_option maxHeartbeats 2000000 in
/-- A byte is taken where there is one. -/
theorem take_any (W0 B : Nat) (σ : Sf) (ρ : Sr) (w : World) (h : IsSc W0 B σ ρ w) (hs : σ.s.size ≤ 100000) (ha : σ.a < σ.s.size) :
    Calls Tryz.prog 170 #[.pointer (some ⟨B, 0, none⟩)] w (ScP W0 B (.int .u8 (σ.s[σ.a].toNat : Int)) { σ with a := stp ρ.ml σ.a } ρ w) := by
  obtain ⟨s, a, b, e, t, tk, tm, op, M⟩ := σ
  dsimp only at hs ha
  obtain ⟨c0, c1, c2, c3, c4, c5, c6, c7, c8⟩ := h.sc.fields
  dsimp only at c0 c1 c2 c3 c4 c5 c6 c7 c8
  clear c2 c3 c4 c5 c6 c7 c8
  have H0 := Lib.hid h
  have HP : Hid (∀ w', IsSc W0 B ⟨s, stp ρ.ml a, b, e, t, tk, tm, op, M⟩ ρ w' → But B w w' → ScP W0 B (.int .u8 (s[a].toNat : Int)) ⟨s, stp ρ.ml a, b, e, t, tk, tm, op, M⟩ ρ w (.returned (.int .u8 (s[a].toNat : Int))) w') := fun w' h1 h2 => ⟨rfl, h1, h2⟩
  have HST := Lib.hid (fun w' (h : IsSc W0 B ⟨s, a, b, e, t, tk, tm, op, M⟩ ρ w') => step_any W0 B ⟨s, a, b, e, t, tk, tm, op, M⟩ ρ w' h (by dsimp only; omega))
  have hlti : (a : Int) < (s.size : Int) := by omega
  have HB0 := Lib.hid (But.refl B w)
  clear h
  go_enter Tryz.func170, Tryz.ntmps170
  go_wp2
  go_quiet (fail)
  have HSq : Hid (IsSc W0 B ⟨s, a, b, e, t, tk, tm, op, M⟩ ρ (w.drewN nq)) := H0.out.drew _
  have HBq : Hid (But B w (w.drewN nq)) := HB0.out.drewN _
  have d0 : (w.drewN nq).cell? ⟨B, 0, none⟩ = some (.string s) := HSq.out.sc.fields.1
  have d1 : (w.drewN nq).cell? ⟨B, 1, none⟩ = some (.int .i64 (a : Int)) := HSq.out.sc.fields.2.1
  clear c0 c1
  generalize w.drewN nq = wq at *
  go_wp2
  go_quiet (fail)
  go_wp2_with fail
  refine (HST.out _ (HSq.out.drew _)).mono ?_
  rintro e2 w3 ⟨rfl, hs3, hb3⟩
  have HS3 := Lib.hid hs3
  have HB3 : Hid (But B w w3) := (HBq.out.drewN _).trans hb3
  clear hs3 hb3
  go_wp2
  go_ret
  exact HP.out _ HS3.out HB3.out

end Go.Proofs.YtaocbhfehncdcaaGreatDoor

namespace Go.Proofs.YtaocbhfehncdcaaGreatDoor
open Go.RowKit

/-- What a method leaves that gives up: the place at which a token was looked for; the scanner is left as it is. -/
def Wrong (B : Nat) (b : Nat) (w : World) (e : Ending) (w' : World) : Prop := e = .panicked [{ v := .iface 130 (.int .i64 (b : Int)), recovered := false }] ∧ But B w w'

set_option maxRecDepth 100000 in
set_option maxHeartbeats 2000000 in
theorem take_no (W0 B : Nat) (σ : Sf) (ρ : Sr) (w : World) (h : IsSc W0 B σ ρ w) (hs : σ.s.size ≤ 100000) (ha : σ.s.size ≤ σ.a) :
    Calls Tryz.prog 170 #[.pointer (some ⟨B, 0, none⟩)] w (Wrong B σ.b w) := by
  obtain ⟨s, a, b, e, t, tk, tm, op, M⟩ := σ
  dsimp only at hs ha
  obtain ⟨c0, c1, c2, c3, c4, c5, c6, c7, c8⟩ := h.sc.fields
  dsimp only at c0 c1 c2 c3 c4 c5 c6 c7 c8
  clear c3 c4 c5 c6 c7 c8
  have HB0 := Lib.hid (But.refl B w)
  have hlti : (s.size : Int) ≤ (a : Int) := by omega
  have HP : Hid (∀ w', But B w w' → Wrong B b w (.panicked [{ v := .iface 130 (.int .i64 (b : Int)), recovered := false }]) w') := fun w' h => ⟨rfl, h⟩
  clear h
  go_enter Tryz.func170, Tryz.ntmps170
  go_wp2
  go_quiet (fail)
  go_wp2
  exact ⟨rfl, HP.out _ (HB0.out.drewN _)⟩

end Go.Proofs.YtaocbhfehncdcaaGreatDoor
