/-
  A scanner goes on: take, blanks, gap. Conditions: a place within a text of at most 1000000 bytes; what is left out lies ahead.
-/
import Derived.Test.YtnfoafcpcabpmaaDoorSm
namespace Go.Proofs.YtnfoafcpcabpmaaDoor
open Go.RowKit

/-- How far one goes while p holds. -/
def itF (p : Nat → Bool) (f : Nat → Nat) : Nat → Nat → Nat
  | 0, a => a
  | k + 1, a => if p a = true then itF p f k (f a) else a
def it (p : Nat → Bool) (f : Nat → Nat) (n a : Nat) : Nat := itF p f (n - a) a
def ItOk (p : Nat → Bool) (f : Nat → Nat) (n : Nat) : Prop := ∀ a, p a = true → a < n ∧ a < f a
theorem itF_more {p : Nat → Bool} {f : Nat → Nat} {n : Nat} (h : ItOk p f n) : ∀ (k m a : Nat), n - a ≤ k → n - a ≤ m → itF p f k a = itF p f m a
  | 0, 0, a, _, _ => rfl
  | 0, m + 1, a, h1, _ => by
    show a = if p a = true then itF p f m (f a) else a
    rw [if_neg]
    intro hp
    have := (h a hp).1
    omega
  | k + 1, 0, a, _, h2 => by
    show (if p a = true then itF p f k (f a) else a) = a
    rw [if_neg]
    intro hp
    have := (h a hp).1
    omega
  | k + 1, m + 1, a, h1, h2 => by
    show (if p a = true then itF p f k (f a) else a) = if p a = true then itF p f m (f a) else a
    by_cases hp : p a = true
    · rw [if_pos hp, if_pos hp]
      have := h a hp
      exact itF_more h k m (f a) (by omega) (by omega)
    · rw [if_neg hp, if_neg hp]
theorem it_on {p : Nat → Bool} {f : Nat → Nat} {n : Nat} (h : ItOk p f n) {a : Nat} (hp : p a = true) : it p f n a = it p f n (f a) := by
  have h1 := h a hp
  unfold it
  obtain ⟨k, hk⟩ : ∃ k, n - a = k + 1 := ⟨n - a - 1, by omega⟩
  rw [hk]
  show (if p a = true then itF p f k (f a) else a) = _
  rw [if_pos hp]
  exact itF_more h k (n - f a) (f a) (by omega) (Nat.le_refl _)
theorem it_off {p : Nat → Bool} {f : Nat → Nat} {n : Nat} {a : Nat} (hp : p a = false) : it p f n a = a := by
  unfold it
  cases n - a with
  | zero => rfl
  | succ k =>
    show (if p a = true then itF p f k (f a) else a) = _
    rw [hp]
    rfl
theorem itF_ge {p : Nat → Bool} {f : Nat → Nat} {n : Nat} (h : ItOk p f n) : ∀ (k a : Nat), a ≤ itF p f k a
  | 0, a => Nat.le_refl a
  | k + 1, a => by
    show a ≤ if p a = true then itF p f k (f a) else a
    split
    · rename_i hp
      have h1 := (h a hp).2
      have h2 := itF_ge h k (f a)
      omega
    · exact Nat.le_refl a
theorem itF_le {p : Nat → Bool} {f : Nat → Nat} {n : Nat} (h : ∀ a, p a = true → f a ≤ n) : ∀ (k a : Nat), a ≤ n → itF p f k a ≤ n
  | 0, a, ha => ha
  | k + 1, a, ha => by
    show (if p a = true then itF p f k (f a) else a) ≤ n
    split
    · rename_i hp
      exact itF_le h k (f a) (h a hp)
    · exact ha

/-- The byte at a place, 0 where there is none. -/
def by0 (l : List UInt8) (a : Nat) : UInt8 := l.getD a 0
theorem by0_at (s : ByteArray) (a : Nat) (h : a < s.size) : by0 s.data.toList a = s[a] := by
  unfold by0
  rw [List.getD_eq_getElem?_getD, getElem_list2 s a h]
  rfl
/-- Behind blanks. -/
def blkP (s : ByteArray) (a : Nat) : Bool := decide (a < s.size) && blB (by0 s.data.toList a)
def blk (s : ByteArray) (ml : List (Nat × Nat)) (a : Nat) : Nat := it (blkP s) (stp ml) s.size a
/-- At the end of a line. -/
def cmtP (s : ByteArray) (a : Nat) : Bool := decide (a < s.size) && (by0 s.data.toList a != 10)
def cmt (s : ByteArray) (ml : List (Nat × Nat)) (a : Nat) : Nat := it (cmtP s) (stp ml) s.size a
/-- Behind blanks and comments. -/
def gapP (s : ByteArray) (a : Nat) : Bool := decide (a < s.size) && (by0 s.data.toList a == 35)
def gapF (s : ByteArray) (ml : List (Nat × Nat)) (a : Nat) : Nat := blk s ml (cmt s ml a)
def gap (s : ByteArray) (ml : List (Nat × Nat)) (a : Nat) : Nat := it (gapP s) (gapF s ml) s.size (blk s ml a)
theorem blkOk {s : ByteArray} {ml : List (Nat × Nat)} (h : Gd s.size ml) : ItOk (blkP s) (stp ml) s.size := fun a ha => by
  unfold blkP at ha
  simp only [Bool.and_eq_true, decide_eq_true_eq] at ha
  exact ⟨ha.1, (stp_gt h a).1⟩
theorem cmtOk {s : ByteArray} {ml : List (Nat × Nat)} (h : Gd s.size ml) : ItOk (cmtP s) (stp ml) s.size := fun a ha => by
  unfold cmtP at ha
  simp only [Bool.and_eq_true, decide_eq_true_eq] at ha
  exact ⟨ha.1, (stp_gt h a).1⟩
theorem blk_ge {s : ByteArray} {ml : List (Nat × Nat)} (h : Gd s.size ml) (a : Nat) : a ≤ blk s ml a := itF_ge (blkOk h) _ _
theorem cmt_ge {s : ByteArray} {ml : List (Nat × Nat)} (h : Gd s.size ml) (a : Nat) : a ≤ cmt s ml a := itF_ge (cmtOk h) _ _
theorem blk_le {s : ByteArray} {ml : List (Nat × Nat)} (h : Gd s.size ml) (a : Nat) (ha : a ≤ s.size) : blk s ml a ≤ s.size :=
  itF_le (fun a hp => (stp_gt h a).2 (blkOk h a hp).1) _ _ ha
theorem cmt_le {s : ByteArray} {ml : List (Nat × Nat)} (h : Gd s.size ml) (a : Nat) (ha : a ≤ s.size) : cmt s ml a ≤ s.size :=
  itF_le (fun a hp => (stp_gt h a).2 (cmtOk h a hp).1) _ _ ha
theorem gapOk {s : ByteArray} {ml : List (Nat × Nat)} (h : Gd s.size ml) : ItOk (gapP s) (gapF s ml) s.size := fun a ha => by
  unfold gapP at ha
  simp only [Bool.and_eq_true, decide_eq_true_eq, beq_iff_eq] at ha
  refine ⟨ha.1, ?_⟩
  have hp : cmtP s a = true := by
    unfold cmtP
    simp [ha.1, ha.2]
  have h1 : cmt s ml a = cmt s ml (stp ml a) := it_on (cmtOk h) hp
  have h2 := cmt_ge h (stp ml a)
  have h3 := (stp_gt h a).1
  have h4 := blk_ge h (cmt s ml a)
  unfold gapF
  omega
theorem gapF_le {s : ByteArray} {ml : List (Nat × Nat)} (h : Gd s.size ml) (a : Nat) (ha : a ≤ s.size) : gapF s ml a ≤ s.size := blk_le h _ (cmt_le h a ha)
theorem gap_le {s : ByteArray} {ml : List (Nat × Nat)} (h : Gd s.size ml) (a : Nat) (ha : a ≤ s.size) : gap s ml a ≤ s.size :=
  itF_le (fun a hp => gapF_le h a (Nat.le_of_lt (gapOk h a hp).1)) _ _ (blk_le h a ha)

/-- The place that a scanner's block holds. -/
def atOf (B : Nat) (w : World) : Nat := match w.cell? ⟨B, 1, none⟩ with | some (.int _ x) => x.toNat | _ => 0
theorem IsSc.at {W0 B : Nat} {σ : Sf} {ρ : Sr} {w : World} (h : IsSc W0 B σ ρ w) : atOf B w = σ.a := by
  unfold atOf
  rw [h.sc.fields.2.1]
  simp
theorem isBlank_q (b : UInt8) (w : World) : Calls Tryd.prog 34 #[.int .u8 b.toNat] w fun e w' => e = .returned (.bool (blB b)) ∧ w' = w :=
  (isBlank_any b w).mono fun _ _ h => ⟨h.1, h.2.symm⟩

set_option maxRecDepth 100000 in
set_option maxHeartbeats 4000000 in
theorem blanks_any (W0 B : Nat) (σ : Sf) (ρ : Sr) (w : World) (h : IsSc W0 B σ ρ w) (hs : σ.s.size ≤ 100000) (hg : Gd σ.s.size ρ.ml) (ha : σ.a ≤ σ.s.size) :
    Calls Tryd.prog 49 #[.pointer (some ⟨B, 0, none⟩)] w (ScP W0 B (.tuple #[]) { σ with a := blk σ.s ρ.ml σ.a } ρ w) := by
  obtain ⟨s, a0, b, e, t, tk, tm, op, M⟩ := σ
  dsimp only at hs hg ha
  have HP : Hid (∀ w', IsSc W0 B ⟨s, blk s ρ.ml a0, b, e, t, tk, tm, op, M⟩ ρ w' → But B w w' → ScP W0 B (.tuple #[]) ⟨s, blk s ρ.ml a0, b, e, t, tk, tm, op, M⟩ ρ w (.returned (.tuple #[])) w') := fun w' h1 h2 => ⟨rfl, h1, h2⟩
  have HST := Lib.hid (fun a w' (h : IsSc W0 B ⟨s, a, b, e, t, tk, tm, op, M⟩ ρ w') (ha : a ≤ 1000000) => step_any W0 B ⟨s, a, b, e, t, tk, tm, op, M⟩ ρ w' h ha)
  have HON : Hid (∀ a, blkP s a = true → blk s ρ.ml a = blk s ρ.ml (stp ρ.ml a)) := fun a hp => it_on (blkOk hg) hp
  have HOF : Hid (∀ a, blkP s a = false → blk s ρ.ml a = a) := fun a hp => it_off hp
  have HGT : Hid (∀ a, a < stp ρ.ml a ∧ (a < s.size → stp ρ.ml a ≤ s.size)) := fun a => stp_gt hg a
  have HBL := Lib.hid isBlank_q
  have H0 := Lib.hid h
  have HB0 := Lib.hid (But.refl B w)
  have HAT : Hid (∀ a (h : a < s.size), by0 s.data.toList a = s[a]) := fun a h => by0_at s a h
  clear h hg
  go_enter Tryd.func49, Tryd.ntmps49
  go_wp2
  go_loopw [12] (fun _ wr => ∃ a : Nat, a ≤ s.size ∧ Hid (blk s ρ.ml a0 = blk s ρ.ml a) ∧ Hid (IsSc W0 B ⟨s, a, b, e, t, tk, tm, op, M⟩ ρ wr) ∧ Hid (But B w wr)) (fun _ wr => s.size - atOf B wr)
  case atStart => exact ⟨a0, ha, rfl, H0, HB0⟩
  case round =>
    obtain ⟨a, hal, hbk, hsc, hbl⟩ := hrel
    obtain ⟨c0, c1, c2, c3, c4, c5, c6, c7, c8⟩ := hsc.out.sc.fields
    dsimp only at c0 c1 c2 c3 c4 c5 c6 c7 c8
    have HA : Hid (atOf B wr = a) := hsc.out.at
    clear c2 c3 c4 c5 c6 c7 c8
    by_cases hlt : a < s.size
    · have hai := HAT.out a hlt
      cases hb : blB s[a]
      · have hpf : blkP s a = false := by
          unfold blkP
          rw [hai, hb]
          simp
        have HN : Hid (IsSc W0 B ⟨s, blk s ρ.ml a0, b, e, t, tk, tm, op, M⟩ ρ wr) := by
          show IsSc _ _ _ _ _
          rw [hbk.out, HOF.out a hpf]
          exact hsc.out
        clear hpf hai
        have hlti : (a : Int) < (s.size : Int) := by omega
        go_wp2
        go_quiet ((go_at_call 34; exact Calls.quiet_of_same (HBL.out _ _)))
        go_wp2
        go_end0
        exact HP.out _ (HN.out.drew _) (hbl.out.drewN _)
      · have hpt : blkP s a = true := by
          unfold blkP
          rw [hai, hb]
          simp [hlt]
        have HN : Hid (blk s ρ.ml a0 = blk s ρ.ml (stp ρ.ml a)) := hbk.out.trans (HON.out a hpt)
        have hgt := HGT.out a
        clear hpt hai
        have hlti : (a : Int) < (s.size : Int) := by omega
        go_wp2
        go_quiet ((go_at_call 34; exact Calls.quiet_of_same (HBL.out _ _)))
        go_wp2_with fail
        refine (HST.out a _ (hsc.out.drew _) (by omega)).mono ?_
        rintro e1 w2 ⟨rfl, hs2, hb2⟩
        have HS2 := Lib.hid hs2
        have HB2 : Hid (But B w w2) := (hbl.out.drewN _).trans hb2
        have HA2 : Hid (atOf B w2 = stp ρ.ml a) := hs2.at
        clear hs2 hb2
        go_wp2
        go_roundw
        case rel => exact ⟨stp ρ.ml a, hgt.2 hlt, HN, HS2, HB2⟩
        case measure =>
          have h1 := HA.out
          have h2 := HA2.out
          omega
    · have hpf : blkP s a = false := by
        unfold blkP
        simp [hlt]
      have HN : Hid (IsSc W0 B ⟨s, blk s ρ.ml a0, b, e, t, tk, tm, op, M⟩ ρ wr) := by
        show IsSc _ _ _ _ _
        rw [hbk.out, HOF.out a hpf]
        exact hsc.out
      clear hpf
      have hlti : (s.size : Int) ≤ (a : Int) := by omega
      go_wp2
      go_quiet ((go_at_call 34; exact Calls.quiet_of_same (HBL.out _ _)))
      go_wp2
      go_end0
      exact HP.out _ (HN.out.drew _) (hbl.out.drewN _)

end Go.Proofs.YtnfoafcpcabpmaaDoor
