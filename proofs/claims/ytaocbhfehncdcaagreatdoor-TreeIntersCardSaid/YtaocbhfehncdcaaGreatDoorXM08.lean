/-
  A scanner's read where an operator is expected: a word. Conditions: a text of at most 100000 bytes. A text without its digits in front. Conditions: none. A scanner's read where an operator is expected: a number. Conditions: a text of at most 100000 bytes.
-/
import Derived.Test.YtaocbhfehncdcaaGreatDoorXM06
import Derived.Shelf.Strings.SlTrimAscii
namespace Go.Proofs.YtaocbhfehncdcaaGreatDoor
open Go.RowKit

set_option maxRecDepth 100000 in
set_option maxHeartbeats 4000000 in
theorem read_word (W0 B : Nat) (σ : Sf) (ρ : Sr) (w : World) (h : IsSc W0 B σ ρ w) (hs : σ.s.size ≤ 100000) (ha : σ.a ≤ σ.s.size) (ht : σ.t = false) (n : Nat) (hn : wsz (σ.s.data.toList.drop σ.a) = n) (hn0 : 0 < n) (hn1 : n ≤ 12) :
    Calls Tryz.prog 133 #[.pointer (some ⟨B, 0, none⟩)] w (ScP W0 B (tokV 0 (σ.s.extract σ.a (σ.a + n))) { σ with a := σ.a + n } ρ w) := by
  have hl0 := h.ltSize
  have hBT := h.sc.lt
  have h1 := h.later ((Below.refl _ _).alloc (Nat.le_refl _) (.cells #[.int .i64 0, .int .i64 0, .string ⟨#[]⟩, .string ⟨#[]⟩, .string ⟨#[]⟩, .int .i64 0] 101))
  have hb1 : But B w (w.alloc (.cells #[.int .i64 0, .int .i64 0, .string ⟨#[]⟩, .string ⟨#[]⟩, .string ⟨#[]⟩, .int .i64 0] 101)) := But.of ((Below.refl _ _).alloc (Nat.le_refl _) _)
  have HT0 := Lib.hid (TkAt.fresh w)
  obtain ⟨s, a, b, e, t, tk, tm, op, M⟩ := σ
  dsimp only at hs ha hn ht
  subst ht
  have hnl : n ≤ s.size - a := by
    have := wsz_le (s.data.toList.drop a)
    rw [hn, List.length_drop, ← Lib.size_eq] at this
    exact this
  have HWD : Hid (∀ w, Calls Tryz.prog 152 #[.pointer (some ⟨B, 0, none⟩), .string (s.extract a s.size)] w (InS n w)) := fun w => by
    have h2 : (s.extract a s.size).size ≤ 100000 := by rw [Lib.size_eq, drop_list, List.length_drop, ← Lib.size_eq]; omega
    have := word_ok B (s.extract a s.size) w h2 (by rw [drop_list, hn]; exact hn1)
    rwa [drop_list, hn] at this
  have HCU := Lib.hid (fun w' (h : IsSc W0 B ⟨s, a, b, e, false, tk, tm, op, M⟩ ρ w') => cut_any W0 B ⟨s, a, b, e, false, tk, tm, op, M⟩ ρ 0 n w' h hs (by dsimp only; omega) (by decide) (by decide))
  dsimp only at HCU
  have HP : Hid (∀ w', IsSc W0 B ⟨s, a + n, b, e, false, tk, tm, op, M⟩ ρ w' → But B w w' → ScP W0 B (tokV 0 (s.extract a (a + n))) ⟨s, a + n, b, e, false, tk, tm, op, M⟩ ρ w (.returned (tokV 0 (s.extract a (a + n)))) w') := fun w' h1 h2 => ⟨rfl, h1, h2⟩
  have HLT : Hid (ScLt w.heap.size B ⟨s, a + n, b, e, false, tk, tm, op, M⟩) := ⟨hl0.b, hl0.tk, hl0.tm, hl0.op, hl0.m⟩
  obtain ⟨c0, c1, c2, c3, c4, c5, c6, c7, c8⟩ := h1.sc.fields
  dsimp only at c0 c1 c2 c3 c4 c5 c6 c7 c8
  have H1 := Lib.hid h1
  have HB1 := Lib.hid hb1
  have HBT := Lib.hid hBT
  have hai : (a : Int) ≤ (s.size : Int) := by omega
  have x6 : (0 : Int) < (n : Int) := by omega
  clear c2 c3 c5 c6 c7 c8 h h1 hb1 hl0 hn hBT
  go_enter Tryz.func133, Tryz.ntmps133
  go_wp2
  generalize w.alloc (.cells #[.int .i64 0, .int .i64 0, .string ⟨#[]⟩, .string ⟨#[]⟩, .string ⟨#[]⟩, .int .i64 0] 101) = W1 at *
  generalize hTT : w.heap.size = T at *
  have HTT := Lib.hid hTT
  clear hTT
  go_quiet (fail)
  have H2 : Hid (IsSc W0 B ⟨s, a, b, e, false, tk, tm, op, M⟩ ρ (W1.drewN nq)) := H1.out.drew _
  have HB2 : Hid (But B w (W1.drewN nq)) := HB1.out.drewN _
  have HT2 : Hid (TkAt T (.int .i64 0) (.int .i64 0) (.string ⟨#[]⟩) (.string ⟨#[]⟩) (.string ⟨#[]⟩) (.int .i64 0) (W1.drewN nq)) := HT0.out.later rfl
  clear c0 c1 c4 H1 HB1 HT0
  generalize W1.drewN nq = W2 at *
  generalize s.extract a s.size = rest at *
  go_wp2_with fail
  refine (HWD.out _).mono ?_
  rintro e1 w' ⟨rfl, rfl⟩
  go_wp2_with fail
  refine (HCU.out _ H2.out).mono ?_
  rintro e1 W3 ⟨rfl, hs3, hb3⟩
  have H3 := Lib.hid hs3
  have HB3 : Hid (But B w W3) := HB2.out.trans hb3
  have HT3 : Hid (TkAt T (.int .i64 0) (.int .i64 0) (.string ⟨#[]⟩) (.string ⟨#[]⟩) (.string ⟨#[]⟩) (.int .i64 0) W3) := But.tok HT2.out hb3 HBT.out
  clear hs3 hb3
  obtain ⟨t0, t1, t2, t3, t4, t5⟩ := HT3.out.cells
  have z0 := HT3.out.frozen 0
  have z1 := HT3.out.frozen 1
  have z2 := HT3.out.frozen 2
  have z3 := HT3.out.frozen 3
  have z4 := HT3.out.frozen 4
  have z5 := HT3.out.frozen 5
  generalize s.extract a (a + n) = X at *
  unfold tokV at *
  go_wp2
  have HT4 := HT3.out.put (.int .i64 0) (.int .i64 0) (.string X) (.string ⟨#[]⟩) (.string ⟨#[]⟩) (.int .i64 0)
  obtain ⟨r0, r1, r2, r3, r4, r5⟩ := HT4.cells
  have hbe := tkW_below W3 T (.int .i64 0) (.int .i64 0) (.string X) (.string ⟨#[]⟩) (.string ⟨#[]⟩) (.int .i64 0)
  change bodyPost _ _ _ _ _ (tkW W3 T (.int .i64 0) (.int .i64 0) (.string X) (.string ⟨#[]⟩) (.string ⟨#[]⟩) (.int .i64 0))
  clear t0 t1 t2 t3 t4 t5 z0 z1 z2 z3 z4 z5
  refine bodyPost_ret (v := .agg #[.int .i64 0, .int .i64 0, .string X, .string ⟨#[]⟩, .string ⟨#[]⟩, .int .i64 0]) ?_ rfl (HP.out _ (H3.out.below HLT.out hbe) (HB3.out.more (by rw [HTT.out]; exact hbe)))
  generalize tkW W3 T (.int .i64 0) (.int .i64 0) (.string X) (.string ⟨#[]⟩) (.string ⟨#[]⟩) (.int .i64 0) = W4 at *
  simp [results, Tryz.results133, go_sem, r0, r1, r2, r3, r4, r5]

end Go.Proofs.YtaocbhfehncdcaaGreatDoor

namespace Go.Proofs.YtaocbhfehncdcaaGreatDoor
open Go.RowKit

def dgL : List UInt8 := [48, 49, 50, 51, 52, 53, 54, 55, 56, 57]
set_option maxRecDepth 100000 in
theorem dgL_all : ∀ n : Nat, n < 256 → dgL.contains (UInt8.ofNat n) = dgB (UInt8.ofNat n) := by decide
theorem dgL_has (b : UInt8) : dgL.contains b = dgB b := by
  have := dgL_all b.toNat b.toNat_lt
  rwa [UInt8.ofNat_toNat] at this
theorem trimDigits (s : ByteArray) (w : World) : Calls Tryz.prog 154 #[.string s, .string ⟨#[48, 49, 50, 51, 52, 53, 54, 55, 56, 57]⟩] w fun e w' => e = .returned (.string ⟨(s.data.toList.dropWhile dgB).toArray⟩) ∧ Below w.heap.size w w' := by
  refine (Any.strings_TrimLeft_ascii Tryz.lays161 (fun w => by kernel_rfl) (by kernel_rfl) s ⟨#[48, 49, 50, 51, 52, 53, 54, 55, 56, 57]⟩ w (by decide) (fun j b hb => ?_)).mono ?_
  · have : b ∈ dgL := List.mem_of_getElem? hb
    have h2 : ∀ c ∈ dgL, c.toNat < 128 := by decide
    exact h2 b this
  · rintro e w' ⟨rfl, h2⟩
    refine ⟨?_, h2⟩
    congr 3
    unfold Lib.trimLeftS
    show (List.dropWhile (fun x => dgL.contains x) s.data.toList).toArray = _
    rw [show (fun x => dgL.contains x) = dgB from funext dgL_has]
/-- How many digits a text begins with. -/
def dgC (l : List UInt8) : Nat := (l.takeWhile dgB).length
theorem dgC_drop (l : List UInt8) : (l.dropWhile dgB).length + dgC l = l.length := by
  have := congrArg List.length (List.takeWhile_append_dropWhile (p := dgB) (l := l))
  rw [List.length_append] at this
  unfold dgC
  omega

end Go.Proofs.YtaocbhfehncdcaaGreatDoor

namespace Go.Proofs.YtaocbhfehncdcaaGreatDoor
open Go.RowKit

set_option maxRecDepth 100000 in
set_option maxHeartbeats 4000000 in
theorem read_num (W0 B : Nat) (σ : Sf) (ρ : Sr) (w : World) (h : IsSc W0 B σ ρ w) (hs : σ.s.size ≤ 100000) (ha : σ.a ≤ σ.s.size) (ht : σ.t = false) (n : Nat) (hn : wsz (σ.s.data.toList.drop σ.a) = 0) (hn0 : 0 < n) (hn1 : dgC (σ.s.data.toList.drop σ.a) = n) :
    Calls Tryz.prog 133 #[.pointer (some ⟨B, 0, none⟩)] w (ScP W0 B (tokV 1 (σ.s.extract σ.a (σ.a + n))) { σ with a := σ.a + n } ρ w) := by
  have hl0 := h.ltSize
  have hBT := h.sc.lt
  have h1 := h.later ((Below.refl _ _).alloc (Nat.le_refl _) (.cells #[.int .i64 0, .int .i64 0, .string ⟨#[]⟩, .string ⟨#[]⟩, .string ⟨#[]⟩, .int .i64 0] 101))
  have hb1 : But B w (w.alloc (.cells #[.int .i64 0, .int .i64 0, .string ⟨#[]⟩, .string ⟨#[]⟩, .string ⟨#[]⟩, .int .i64 0] 101)) := But.of ((Below.refl _ _).alloc (Nat.le_refl _) _)
  have HT0 := Lib.hid (TkAt.fresh w)
  obtain ⟨s, a, b, e, t, tk, tm, op, M⟩ := σ
  dsimp only at hs ha hn ht
  subst ht
  have hrs : (s.extract a s.size).size = s.size - a := by rw [Lib.size_eq, drop_list, List.length_drop, ← Lib.size_eq]
  have hq := dgC_drop (s.data.toList.drop a)
  rw [hn1, List.length_drop, ← Lib.size_eq] at hq
  have hnl : n ≤ s.size - a := by omega
  have HTR : Hid (∀ w, Calls Tryz.prog 154 #[.string (s.extract a s.size), .string ⟨#[48, 49, 50, 51, 52, 53, 54, 55, 56, 57]⟩] w fun e w' => e = .returned (.string ⟨((s.data.toList.drop a).dropWhile dgB).toArray⟩) ∧ Below w.heap.size w w') := fun w => by
    have := trimDigits (s.extract a s.size) w
    rwa [drop_list] at this
  have hts : (⟨((s.data.toList.drop a).dropWhile dgB).toArray⟩ : ByteArray).size = ((s.data.toList.drop a).dropWhile dgB).length := by rw [Lib.size_eq]
  have hsub : ((s.extract a s.size).size : Int) - ((⟨((s.data.toList.drop a).dropWhile dgB).toArray⟩ : ByteArray).size : Int) = (n : Int) := by rw [hrs, hts]; omega
  have hwr : IntKind.i64.wrap (n : Int) = (n : Int) := IntWalk.i64_in _ (by omega)
  clear hq hts hrs
  generalize (⟨((s.data.toList.drop a).dropWhile dgB).toArray⟩ : ByteArray) = tr at *
  have HWD : Hid (∀ w, Calls Tryz.prog 152 #[.pointer (some ⟨B, 0, none⟩), .string (s.extract a s.size)] w (InS 0 w)) := fun w => by
    have h2 : (s.extract a s.size).size ≤ 100000 := by rw [Lib.size_eq, drop_list, List.length_drop, ← Lib.size_eq]; omega
    have := word_ok B (s.extract a s.size) w h2 (by rw [drop_list, hn]; omega)
    rwa [drop_list, hn] at this
  have HCU := Lib.hid (fun w' (h : IsSc W0 B ⟨s, a, b, e, false, tk, tm, op, M⟩ ρ w') => cut_any W0 B ⟨s, a, b, e, false, tk, tm, op, M⟩ ρ 1 n w' h hs (by dsimp only; omega) (by decide) (by decide))
  dsimp only at HCU
  have HP : Hid (∀ w', IsSc W0 B ⟨s, a + n, b, e, false, tk, tm, op, M⟩ ρ w' → But B w w' → ScP W0 B (tokV 1 (s.extract a (a + n))) ⟨s, a + n, b, e, false, tk, tm, op, M⟩ ρ w (.returned (tokV 1 (s.extract a (a + n)))) w') := fun w' h1 h2 => ⟨rfl, h1, h2⟩
  have HLT : Hid (ScLt w.heap.size B ⟨s, a + n, b, e, false, tk, tm, op, M⟩) := ⟨hl0.b, hl0.tk, hl0.tm, hl0.op, hl0.m⟩
  obtain ⟨c0, c1, c2, c3, c4, c5, c6, c7, c8⟩ := h1.sc.fields
  dsimp only at c0 c1 c2 c3 c4 c5 c6 c7 c8
  have H1 := Lib.hid h1
  have HB1 := Lib.hid hb1
  have HBT := Lib.hid hBT
  have hai : (a : Int) ≤ (s.size : Int) := by omega
  have x6 : (0 : Int) < (n : Int) := by omega
  clear c2 c3 c5 c6 c7 c8 h h1 hb1 hl0 hn hBT
  go_enter Tryz.func133, Tryz.ntmps133
  go_wp2
  generalize w.alloc (.cells #[.int .i64 0, .int .i64 0, .string ⟨#[]⟩, .string ⟨#[]⟩, .string ⟨#[]⟩, .int .i64 0] 101) = W1 at *
  generalize hTT : w.heap.size = T at *
  have HTT := Lib.hid hTT
  clear hTT
  go_quiet (fail)
  have H2 : Hid (IsSc W0 B ⟨s, a, b, e, false, tk, tm, op, M⟩ ρ (W1.drewN nq)) := H1.out.drew _
  have HB2 : Hid (But B w (W1.drewN nq)) := HB1.out.drewN _
  have HT2 : Hid (TkAt T (.int .i64 0) (.int .i64 0) (.string ⟨#[]⟩) (.string ⟨#[]⟩) (.string ⟨#[]⟩) (.int .i64 0) (W1.drewN nq)) := HT0.out.later rfl
  clear c0 c1 c4 H1 HB1 HT0
  generalize W1.drewN nq = W2 at *
  generalize s.extract a s.size = rest at *
  go_wp2_with fail
  refine (HWD.out _).mono ?_
  rintro e1 w' ⟨rfl, rfl⟩
  go_wp2_with fail
  refine (HTR.out _).mono ?_
  rintro e1 w2 ⟨rfl, hb2⟩
  replace HB2 : Hid (But B w w2) := HB2.out.trans (But.of hb2)
  replace HT2 := Lib.hid (HT2.out.later (hb2.block T HT2.out.lt))
  replace H2 := Lib.hid (H2.out.later hb2)
  clear hb2
  go_wp2_with fail
  refine (HCU.out _ H2.out).mono ?_
  rintro e1 W3 ⟨rfl, hs3, hb3⟩
  have H3 := Lib.hid hs3
  have HB3 : Hid (But B w W3) := HB2.out.trans hb3
  have HT3 : Hid (TkAt T (.int .i64 0) (.int .i64 0) (.string ⟨#[]⟩) (.string ⟨#[]⟩) (.string ⟨#[]⟩) (.int .i64 0) W3) := But.tok HT2.out hb3 HBT.out
  clear hs3 hb3
  obtain ⟨t0, t1, t2, t3, t4, t5⟩ := HT3.out.cells
  have z0 := HT3.out.frozen 0
  have z1 := HT3.out.frozen 1
  have z2 := HT3.out.frozen 2
  have z3 := HT3.out.frozen 3
  have z4 := HT3.out.frozen 4
  have z5 := HT3.out.frozen 5
  generalize s.extract a (a + n) = X at *
  unfold tokV at *
  go_wp2
  have HT4 := HT3.out.put (.int .i64 1) (.int .i64 0) (.string X) (.string ⟨#[]⟩) (.string ⟨#[]⟩) (.int .i64 0)
  obtain ⟨r0, r1, r2, r3, r4, r5⟩ := HT4.cells
  have hbe := tkW_below W3 T (.int .i64 1) (.int .i64 0) (.string X) (.string ⟨#[]⟩) (.string ⟨#[]⟩) (.int .i64 0)
  change bodyPost _ _ _ _ _ (tkW W3 T (.int .i64 1) (.int .i64 0) (.string X) (.string ⟨#[]⟩) (.string ⟨#[]⟩) (.int .i64 0))
  clear t0 t1 t2 t3 t4 t5 z0 z1 z2 z3 z4 z5
  refine bodyPost_ret (v := .agg #[.int .i64 1, .int .i64 0, .string X, .string ⟨#[]⟩, .string ⟨#[]⟩, .int .i64 0]) ?_ rfl (HP.out _ (H3.out.below HLT.out hbe) (HB3.out.more (by rw [HTT.out]; exact hbe)))
  generalize tkW W3 T (.int .i64 1) (.int .i64 0) (.string X) (.string ⟨#[]⟩) (.string ⟨#[]⟩) (.int .i64 0) = W4 at *
  simp [results, Tryz.results133, go_sem, r0, r1, r2, r3, r4, r5]

end Go.Proofs.YtaocbhfehncdcaaGreatDoor
