/-
  A scanner's flags; a text whose pieces are replaced; unslashed. Conditions: texts of at most 100000 bytes.
-/
import Derived.Test.YtnfoafcpcabpmaaDoorTs
namespace Go.Proofs.YtnfoafcpcabpmaaDoor
open Go.RowKit

/-- Behind the flags, each once at most, in their order. -/
def flg (s : ByteArray) : List UInt8 → Nat → Nat
  | [], a => a
  | c :: r, a => flg s r (if a < s.size ∧ by0 s.data.toList a = c then a + 1 else a)
theorem flg_le (s : ByteArray) : ∀ (l : List UInt8) (a : Nat), a ≤ s.size → a ≤ flg s l a ∧ flg s l a ≤ s.size
  | [], a, h => ⟨Nat.le_refl _, h⟩
  | c :: r, a, h => by
    unfold flg
    split
    · rename_i hc
      have := flg_le s r (a + 1) (by omega)
      exact ⟨by omega, this.2⟩
    · exact flg_le s r a h
set_option maxRecDepth 100000 in
set_option maxHeartbeats 4000000 in
theorem flags_any (W0 B : Nat) (σ : Sf) (ρ : Sr) (al : ByteArray) (w : World) (h : IsSc W0 B σ ρ w) (hs : σ.s.size ≤ 100000) (ha : σ.a ≤ σ.s.size) (hal : al.size ≤ 100) :
    Calls Tryd.prog 69 #[.pointer (some ⟨B, 0, none⟩), .string al] w (ScP W0 B (.string (σ.s.extract σ.a (flg σ.s al.data.toList σ.a))) { σ with a := flg σ.s al.data.toList σ.a } ρ w) := by
  obtain ⟨s, a0, b, e, t, tk, tm, op, M⟩ := σ
  dsimp only at hs ha
  obtain ⟨L, hL⟩ : ∃ L, al.data.toList = L := ⟨_, rfl⟩
  have hLs : al.size = L.length := by rw [← hL, ← Lib.size_eq]
  rw [hL]
  have HP : Hid (∀ w', IsSc W0 B ⟨s, flg s L a0, b, e, t, tk, tm, op, M⟩ ρ w' → But B w w' → ScP W0 B (.string (s.extract a0 (flg s L a0))) ⟨s, flg s L a0, b, e, t, tk, tm, op, M⟩ ρ w (.returned (.string (s.extract a0 (flg s L a0)))) w') := fun w' h1 h2 => ⟨rfl, h1, h2⟩
  have HLE : Hid (a0 ≤ flg s L a0 ∧ flg s L a0 ≤ s.size) := flg_le s L a0 ha
  have HAT : Hid (∀ a (h : a < s.size), by0 s.data.toList a = s[a]) := fun a h => by0_at s a h
  have HST : Hid (∀ k (h : k < al.size) a, flg s (L.drop k) a = flg s (L.drop (k + 1)) (if a < s.size ∧ by0 s.data.toList a = al[k] then a + 1 else a)) := fun k h a => by
    rw [drop_at al L hL k h]
    rfl
  have HEN : Hid (∀ k a, al.size ≤ k → flg s (L.drop k) a = a) := fun k a h => by
    rw [List.drop_eq_nil_of_le (by omega)]
    rfl
  have H00 : Hid (flg s L a0 = flg s (L.drop 0) a0) := rfl
  have H0 := Lib.hid h
  have HB0 := Lib.hid (But.refl B w)
  obtain ⟨c0, c1, c2, c3, c4, c5, c6, c7, c8⟩ := h.sc.fields
  dsimp only at c0 c1 c2 c3 c4 c5 c6 c7 c8
  clear c0 c2 c3 c4 c5 c6 c7 c8 h hL hLs
  generalize flg s L a0 = aE at *
  go_enter Tryd.func69, Tryd.ntmps69
  go_wp2
  clear c1
  go_loopw [13] (fun iv wr => ∃ (k a : Nat), k ≤ al.size ∧ a ≤ s.size ∧ iv = .int .i64 k ∧ Hid (aE = flg s (L.drop k) a) ∧ Hid (IsSc W0 B ⟨s, a, b, e, t, tk, tm, op, M⟩ ρ wr) ∧ Hid (But B w wr)) (fun iv _ => al.size - (intOf iv).toNat)
  case atStart => exact ⟨0, a0, by omega, ha, rfl, H00, H0, HB0⟩
  case round =>
    obtain ⟨k, a, hk, hal2, rfl, hfl, hsc, hbu⟩ := hrel
    obtain ⟨c0, c1, c2, c3, c4, c5, c6, c7, c8⟩ := hsc.out.sc.fields
    dsimp only at c0 c1 c2 c3 c4 c5 c6 c7 c8
    have fz := hsc.out.sc.frozen 1
    clear c2 c3 c4 c5 c6 c7 c8
    by_cases hlt : k < al.size
    · have hki : (k : Int) < (al.size : Int) := by omega
      have HSk := Lib.hid (HST.out k hlt a)
      by_cases hla : a < s.size
      · have hlai : (a : Int) < (s.size : Int) := by omega
        have hat := HAT.out a hla
        by_cases heq : s[a] = al[k]
        · have f1 := u8_eq heq
          have HN : Hid (aE = flg s (L.drop (k + 1)) (a + 1)) := by
            show _ = _
            rw [hfl.out, HSk.out, if_pos ⟨hla, by rw [hat, heq]⟩]
          clear hat heq
          go_wp2
          go_quiet (fail)
          have HSq : Hid (IsSc W0 B ⟨s, a + 1, b, e, t, tk, tm, op, M⟩ ρ ((wr.drewN nq).setCell ⟨B, 1, none⟩ (.int .i64 ((a : Int) + 1)))) := (hsc.out.drew nq).setA (a + 1)
          have HBq : Hid (But B w ((wr.drewN nq).setCell ⟨B, 1, none⟩ (.int .i64 ((a : Int) + 1)))) := (hbu.out.drewN nq).set 1 _
          go_wp2
          go_roundw
          case rel => exact ⟨k + 1, a + 1, by omega, by omega, by go_num, HN, HSq, HBq⟩
          case measure => simp [intOf]; omega
        · have f1 := u8_ne heq
          have HN : Hid (aE = flg s (L.drop (k + 1)) a) := by
            show _ = _
            rw [hfl.out, HSk.out, if_neg (by rw [hat]; exact fun h => heq h.2)]
          clear hat heq
          go_wp2
          go_quiet (fail)
          go_wp2
          go_roundw
          case rel => exact ⟨k + 1, a, by omega, hal2, by go_num, HN, hsc.out.drew _, hbu.out.drewN _⟩
          case measure => simp [intOf]; omega
      · have hlai : (s.size : Int) ≤ (a : Int) := by omega
        have HN : Hid (aE = flg s (L.drop (k + 1)) a) := by
          show _ = _
          rw [hfl.out, HSk.out, if_neg (fun h => hla h.1)]
        have hdf : decide ((a : Int) < (s.size : Int)) = false := decide_eq_false (by omega)
        go_wp2
        go_quiet (fail)
        go_wp2
        go_roundw
        case rel => exact ⟨k + 1, a, by omega, hal2, by go_num, HN, hsc.out.drew _, hbu.out.drewN _⟩
        case measure => simp [intOf]; omega
    · have hki : (al.size : Int) ≤ (k : Int) := by omega
      have he : aE = a := by rw [hfl.out, HEN.out k a (by omega)]
      have hle := HLE.out
      subst he
      have hai1 : (a0 : Int) ≤ (aE : Int) := by omega
      have hai2 : (aE : Int) ≤ (s.size : Int) := by omega
      go_wp2
      go_quiet (fail)
      go_wp2
      go_ret
      exact HP.out _ (hsc.out.drew _) (hbu.out.drewN _)

end Go.Proofs.YtnfoafcpcabpmaaDoor
