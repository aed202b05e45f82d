/-
  No quote begins. Conditions: a text of at most 100000 bytes. A scanner's read where a term is expected: a quote. Conditions: none beside those stated. A pattern that is read. Conditions: a text of at most 100000 bytes; the pattern ends.
-/
import Derived.Test.YtaocbhfehncdcaaGreatDoorXM06
import Derived.Test.YtaocbhfehncdcaaGreatDoorXM11
import Derived.Test.YtaocbhfehncdcaaGreatDoorXM07
namespace Go.Proofs.YtaocbhfehncdcaaGreatDoor
open Go.RowKit

set_option maxRecDepth 100000 in
set_option maxHeartbeats 4000000 in
theorem quote_none (W0 B : Nat) (σ : Sf) (ρ : Sr) (w : World) (h : IsSc W0 B σ ρ w) (hs : σ.s.size ≤ 100000) (ha : σ.a < σ.s.size) (k : Int) (hno : qkd (σ.s.data.toList.drop σ.a) = (k, -1)) :
    Calls Tryz.prog 149 #[.pointer (some ⟨B, 0, none⟩)] w (ScP W0 B noTok σ ρ w) := by
  have hl0 := h.ltSize
  have h1 := h.later ((Below.refl _ _).alloc (Nat.le_refl _) (.cells #[.int .i64 0, .int .i64 0, .string ⟨#[]⟩, .string ⟨#[]⟩, .string ⟨#[]⟩, .int .i64 0] 101))
  have hb1 : But B w (w.alloc (.cells #[.int .i64 0, .int .i64 0, .string ⟨#[]⟩, .string ⟨#[]⟩, .string ⟨#[]⟩, .int .i64 0] 101)) := But.of ((Below.refl _ _).alloc (Nat.le_refl _) _)
  have HT0 := Lib.hid (TkAt.fresh w)
  have HCP : Hid (∀ w, Calls Tryz.prog 169 #[.string (σ.s.extract σ.a σ.s.size)] w fun e w' => e = .returned (.tuple #[.int .i64 k, .int .i64 (-1)]) ∧ w' = w) := fun w => by
    have hsz : (σ.s.extract σ.a σ.s.size).size = σ.s.size - σ.a := by rw [Lib.size_eq, drop_list, List.length_drop, ← Lib.size_eq]
    have := quoteKind_any (σ.s.extract σ.a σ.s.size) w (by omega) (by omega)
    rw [drop_list, hno] at this
    exact this.mono fun _ _ h => ⟨h.1, h.2.symm⟩
  have HP : Hid (∀ w', IsSc W0 B σ ρ w' → But B w w' → ScP W0 B noTok σ ρ w (.returned noTok) w') := fun w' h1 h2 => ⟨rfl, h1, h2⟩
  obtain ⟨s, a, b, e, t, tk, tm, op, M⟩ := σ
  dsimp only at hs ha HCP
  have HLT := Lib.hid hl0
  obtain ⟨c0, c1, c2, c3, c4, c5, c6, c7, c8⟩ := h1.sc.fields
  dsimp only at c0 c1 c2 c3 c4 c5 c6 c7 c8
  have H1 := Lib.hid h1
  have HB1 := Lib.hid hb1
  have hai : (a : Int) ≤ (s.size : Int) := by omega
  clear c2 c3 c4 c5 c6 c7 c8 h h1 hb1 hl0 hno
  go_enter Tryz.func149, Tryz.ntmps149
  go_wp2
  generalize w.alloc (.cells #[.int .i64 0, .int .i64 0, .string ⟨#[]⟩, .string ⟨#[]⟩, .string ⟨#[]⟩, .int .i64 0] 101) = W1 at *
  generalize hTT : w.heap.size = T at *
  have HTT := Lib.hid hTT
  clear hTT
  go_quiet ((go_at_call 169; exact Calls.quiet_of_same (HCP.out _)))
  have H2 : Hid (IsSc W0 B ⟨s, a, b, e, t, tk, tm, op, M⟩ ρ (W1.drewN nq)) := H1.out.drew _
  have HB2 : Hid (But B w (W1.drewN nq)) := HB1.out.drewN _
  have HT2 : Hid (TkAt T (.int .i64 0) (.int .i64 0) (.string ⟨#[]⟩) (.string ⟨#[]⟩) (.string ⟨#[]⟩) (.int .i64 0) (W1.drewN nq)) := HT0.out.later rfl
  clear c0 c1 H1 HB1 HT0
  generalize W1.drewN nq = W2 at *
  obtain ⟨t0, t1, t2, t3, t4, t5⟩ := HT2.out.cells
  have z0 := HT2.out.frozen 0
  have z1 := HT2.out.frozen 1
  have z2 := HT2.out.frozen 2
  have z3 := HT2.out.frozen 3
  have z4 := HT2.out.frozen 4
  have z5 := HT2.out.frozen 5
  go_wp2
  have HT4 := HT2.out.put (.int .i64 0) (.int .i64 0) (.string ⟨#[]⟩) (.string ⟨#[]⟩) (.string ⟨#[]⟩) (.int .i64 0)
  obtain ⟨r0, r1, r2, r3, r4, r5⟩ := HT4.cells
  have hbe := tkW_below W2 T (.int .i64 0) (.int .i64 0) (.string ⟨#[]⟩) (.string ⟨#[]⟩) (.string ⟨#[]⟩) (.int .i64 0)
  change bodyPost _ _ _ _ _ (tkW W2 T (.int .i64 0) (.int .i64 0) (.string ⟨#[]⟩) (.string ⟨#[]⟩) (.string ⟨#[]⟩) (.int .i64 0))
  clear t0 t1 t2 t3 t4 t5 z0 z1 z2 z3 z4 z5
  refine bodyPost_ret (v := noTok) ?_ rfl (HP.out _ (H2.out.below HLT.out hbe) (HB2.out.more (by rw [HTT.out]; exact hbe)))
  generalize tkW W2 T (.int .i64 0) (.int .i64 0) (.string ⟨#[]⟩) (.string ⟨#[]⟩) (.string ⟨#[]⟩) (.int .i64 0) = W4 at *
  simp [results, Tryz.results149, go_sem, noTok, tokV, r0, r1, r2, r3, r4, r5]

end Go.Proofs.YtaocbhfehncdcaaGreatDoor

namespace Go.Proofs.YtaocbhfehncdcaaGreatDoor
open Go.RowKit

set_option maxRecDepth 100000 in
set_option maxHeartbeats 4000000 in
theorem read_quote (W0 B : Nat) (σ σ' : Sf) (ρ : Sr) (w : World) (h : IsSc W0 B σ ρ w) (ht : σ.t = true) (k : Int) (x y z : ByteArray) (hl : ScLt w.heap.size B σ')
    (hq : ∀ w', IsSc W0 B σ ρ w' → Calls Tryz.prog 149 #[.pointer (some ⟨B, 0, none⟩)] w' (ScP W0 B (.tuple #[.agg #[.int .i64 k, .int .i64 0, .string x, .string y, .string z, .int .i64 0], .bool true]) σ' ρ w')) :
    Calls Tryz.prog 133 #[.pointer (some ⟨B, 0, none⟩)] w (ScP W0 B (.agg #[.int .i64 k, .int .i64 0, .string x, .string y, .string z, .int .i64 0]) σ' ρ w) := by
  have hl0 := h.ltSize
  have hBT := h.sc.lt
  have h1 := h.later ((Below.refl _ _).alloc (Nat.le_refl _) (.cells #[.int .i64 0, .int .i64 0, .string ⟨#[]⟩, .string ⟨#[]⟩, .string ⟨#[]⟩, .int .i64 0] 101))
  have hb1 : But B w (w.alloc (.cells #[.int .i64 0, .int .i64 0, .string ⟨#[]⟩, .string ⟨#[]⟩, .string ⟨#[]⟩, .int .i64 0] 101)) := But.of ((Below.refl _ _).alloc (Nat.le_refl _) _)
  have HT0 := Lib.hid (TkAt.fresh w)
  obtain ⟨s, a, b, e, t, tk, tm, op, M⟩ := σ
  dsimp only at ht
  subst ht
  have HQ : Hid (∀ w', IsSc W0 B ⟨s, a, b, e, true, tk, tm, op, M⟩ ρ w' → Calls Tryz.prog 149 #[.pointer (some ⟨B, 0, none⟩)] w' (ScP W0 B (.tuple #[.agg #[.int .i64 k, .int .i64 0, .string x, .string y, .string z, .int .i64 0], .bool true]) σ' ρ w')) := hq
  have HP : Hid (∀ w', IsSc W0 B σ' ρ w' → But B w w' → ScP W0 B (.agg #[.int .i64 k, .int .i64 0, .string x, .string y, .string z, .int .i64 0]) σ' ρ w (.returned (.agg #[.int .i64 k, .int .i64 0, .string x, .string y, .string z, .int .i64 0])) w') := fun w' h1 h2 => ⟨rfl, h1, h2⟩
  have HLT := Lib.hid hl
  obtain ⟨c0, c1, c2, c3, c4, c5, c6, c7, c8⟩ := h1.sc.fields
  dsimp only at c0 c1 c2 c3 c4 c5 c6 c7 c8
  have H1 := Lib.hid h1
  have HB1 := Lib.hid hb1
  have HBT := Lib.hid hBT
  clear c2 c3 c5 c6 c7 c8 h h1 hb1 hl0 hl hq hBT
  go_enter Tryz.func133, Tryz.ntmps133
  go_wp2_with fail
  generalize w.alloc (.cells #[.int .i64 0, .int .i64 0, .string ⟨#[]⟩, .string ⟨#[]⟩, .string ⟨#[]⟩, .int .i64 0] 101) = W1 at *
  generalize hTT : w.heap.size = T at *
  have HTT := Lib.hid hTT
  clear hTT
  go_wp2_with fail
  refine (HQ.out _ H1.out).mono ?_
  rintro e1 W2 ⟨rfl, hs2, hb2⟩
  have H2 := Lib.hid hs2
  have HB2 : Hid (But B w W2) := HB1.out.trans hb2
  have HT2 : Hid (TkAt T (.int .i64 0) (.int .i64 0) (.string ⟨#[]⟩) (.string ⟨#[]⟩) (.string ⟨#[]⟩) (.int .i64 0) W2) := But.tok HT0.out hb2 HBT.out
  clear hs2 hb2 c4 H1 HB1 HT0
  have H3 : Hid (IsSc W0 B σ' ρ (W2.alloc (.cells #[.int .i64 k, .int .i64 0, .string x, .string y, .string z, .int .i64 0] 101))) := H2.out.later ((Below.refl _ _).alloc (Nat.le_refl _) _)
  have HB3 : Hid (But B w (W2.alloc (.cells #[.int .i64 k, .int .i64 0, .string x, .string y, .string z, .int .i64 0] 101))) := HB2.out.trans (But.of ((Below.refl _ _).alloc (Nat.le_refl _) _))
  have HT3 : Hid (TkAt T (.int .i64 0) (.int .i64 0) (.string ⟨#[]⟩) (.string ⟨#[]⟩) (.string ⟨#[]⟩) (.int .i64 0) (W2.alloc (.cells #[.int .i64 k, .int .i64 0, .string x, .string y, .string z, .int .i64 0] 101))) := HT2.out.later (((Below.refl _ _).alloc (Nat.le_refl _) _).block T HT2.out.lt)
  obtain ⟨t0, t1, t2, t3, t4, t5⟩ := HT3.out.cells
  have z0 := HT3.out.frozen 0
  have z1 := HT3.out.frozen 1
  have z2 := HT3.out.frozen 2
  have z3 := HT3.out.frozen 3
  have z4 := HT3.out.frozen 4
  have z5 := HT3.out.frozen 5
  go_wp2_with fail
  generalize W2.alloc (.cells #[.int .i64 k, .int .i64 0, .string x, .string y, .string z, .int .i64 0] 101) = W3 at *
  have HT4 := HT3.out.put (.int .i64 k) (.int .i64 0) (.string x) (.string y) (.string z) (.int .i64 0)
  obtain ⟨r0, r1, r2, r3, r4, r5⟩ := HT4.cells
  have hbe := tkW_below W3 T (.int .i64 k) (.int .i64 0) (.string x) (.string y) (.string z) (.int .i64 0)
  change bodyPost _ _ _ _ _ (tkW W3 T (.int .i64 k) (.int .i64 0) (.string x) (.string y) (.string z) (.int .i64 0))
  clear t0 t1 t2 t3 t4 t5 z0 z1 z2 z3 z4 z5
  refine bodyPost_ret (v := .agg #[.int .i64 k, .int .i64 0, .string x, .string y, .string z, .int .i64 0]) ?_ rfl (HP.out _ (H3.out.below HLT.out hbe) (HB3.out.more (by rw [HTT.out]; exact hbe)))
  generalize tkW W3 T (.int .i64 k) (.int .i64 0) (.string x) (.string y) (.string z) (.int .i64 0) = W4 at *
  simp [results, Tryz.results133, go_sem, r0, r1, r2, r3, r4, r5]

end Go.Proofs.YtaocbhfehncdcaaGreatDoor

namespace Go.Proofs.YtaocbhfehncdcaaGreatDoor
open Go.RowKit

set_option maxRecDepth 100000 in
set_option maxHeartbeats 4000000 in
theorem quote_pat (W0 B : Nat) (σ : Sf) (ρ : Sr) (w : World) (h : IsSc W0 B σ ρ w) (hs : σ.s.size ≤ 100000) (ha : σ.a < σ.s.size) (hgd : Gd σ.s.size ρ.ml) (sz a1 a2 a3 : Nat) (o : UInt8) (out : List UInt8) (hno : qkd (σ.s.data.toList.drop σ.a) = (7, (sz : Int))) (hsz : σ.a + sz < σ.s.size) (ho : σ.s[σ.a + sz] = o) (h1' : stp ρ.ml (σ.a + sz) = a1)
    (hpt : pt σ.s ρ.ml o a1 1 [] = some (a2, out)) (h2' : a2 ≤ σ.s.size) (hol : out.length ≤ 100000) (h3' : flg σ.s [105, 109, 115, 120, 103] a2 = a3) :
    Calls Tryz.prog 149 #[.pointer (some ⟨B, 0, none⟩)] w (ScP W0 B (.tuple #[.agg #[.int .i64 7, .int .i64 0, .string (bs (rwL usG out)), .string ⟨#[]⟩, .string (σ.s.extract a2 a3), .int .i64 0], .bool true]) { σ with a := a3 } ρ w) := by
  have hl0 := h.ltSize
  have h1 := h.later ((Below.refl _ _).alloc (Nat.le_refl _) (.cells #[.int .i64 0, .int .i64 0, .string ⟨#[]⟩, .string ⟨#[]⟩, .string ⟨#[]⟩, .int .i64 0] 101))
  have hb1 : But B w (w.alloc (.cells #[.int .i64 0, .int .i64 0, .string ⟨#[]⟩, .string ⟨#[]⟩, .string ⟨#[]⟩, .int .i64 0] 101)) := But.of ((Below.refl _ _).alloc (Nat.le_refl _) _)
  have HT0 := Lib.hid (TkAt.fresh w)
  have HCP : Hid (∀ w, Calls Tryz.prog 169 #[.string (σ.s.extract σ.a σ.s.size)] w fun e w' => e = .returned (.tuple #[.int .i64 7, .int .i64 sz]) ∧ w' = w) := fun w => by
    have hsz : (σ.s.extract σ.a σ.s.size).size = σ.s.size - σ.a := by rw [Lib.size_eq, drop_list, List.length_drop, ← Lib.size_eq]
    have := quoteKind_any (σ.s.extract σ.a σ.s.size) w (by omega) (by omega)
    rw [drop_list, hno] at this
    exact this.mono fun _ _ h => ⟨h.1, h.2.symm⟩
  have HP : Hid (∀ w', IsSc W0 B { σ with a := a3 } ρ w' → But B w w' → ScP W0 B (.tuple #[.agg #[.int .i64 7, .int .i64 0, .string (bs (rwL usG out)), .string ⟨#[]⟩, .string (σ.s.extract a2 a3), .int .i64 0], .bool true]) { σ with a := a3 } ρ w (.returned (.tuple #[.agg #[.int .i64 7, .int .i64 0, .string (bs (rwL usG out)), .string ⟨#[]⟩, .string (σ.s.extract a2 a3), .int .i64 0], .bool true])) w') := fun w' h1 h2 => ⟨rfl, h1, h2⟩
  obtain ⟨s, a, b, e, t, tk, tm, op, M⟩ := σ
  dsimp only at hs ha HCP HP hgd hsz ho h1' hpt h2' h3'
  have HTA := Lib.hid (fun w' (h : IsSc W0 B ⟨s, a + sz, b, e, t, tk, tm, op, M⟩ ρ w') => take_any W0 B ⟨s, a + sz, b, e, t, tk, tm, op, M⟩ ρ w' h hs hsz)
  have HPA := Lib.hid (fun w' (h : IsSc W0 B ⟨s, a1, b, e, t, tk, tm, op, M⟩ ρ w') => part_any W0 B ⟨s, a1, b, e, t, tk, tm, op, M⟩ ρ o w' h hs hgd)
  have HFL := Lib.hid (fun w' (h : IsSc W0 B ⟨s, a2, b, e, t, tk, tm, op, M⟩ ρ w') => flags_any W0 B ⟨s, a2, b, e, t, tk, tm, op, M⟩ ρ ⟨#[105, 109, 115, 120, 103]⟩ w' h hs h2' (by decide))
  have HUN := Lib.hid (fun w' => unslashed_any out hol w')
  dsimp only at HTA HPA HFL
  rw [ho, h1'] at HTA
  rw [hpt] at HPA
  rw [h3'] at HFL
  have HLT := Lib.hid hl0
  obtain ⟨c0, c1, c2, c3, c4, c5, c6, c7, c8⟩ := h1.sc.fields
  dsimp only at c0 c1 c2 c3 c4 c5 c6 c7 c8
  have H1 := Lib.hid h1
  have HB1 := Lib.hid hb1
  have hai : (a : Int) ≤ (s.size : Int) := by omega
  clear c2 c3 c4 c5 c6 c7 c8 h h1 hb1 hl0 hno
  go_enter Tryz.func149, Tryz.ntmps149
  go_wp2
  generalize w.alloc (.cells #[.int .i64 0, .int .i64 0, .string ⟨#[]⟩, .string ⟨#[]⟩, .string ⟨#[]⟩, .int .i64 0] 101) = W1 at *
  generalize hTT : w.heap.size = T at *
  have HTT := Lib.hid hTT
  clear hTT
  go_quiet ((go_at_call 169; exact Calls.quiet_of_same (HCP.out _)))
  have H2 : Hid (IsSc W0 B ⟨s, a, b, e, t, tk, tm, op, M⟩ ρ (W1.drewN nq)) := H1.out.drew _
  have HB2 : Hid (But B w (W1.drewN nq)) := HB1.out.drewN _
  have HT2 : Hid (TkAt T (.int .i64 0) (.int .i64 0) (.string ⟨#[]⟩) (.string ⟨#[]⟩) (.string ⟨#[]⟩) (.int .i64 0) (W1.drewN nq)) := HT0.out.later rfl
  clear c0 c1 H1 HB1 HT0
  generalize W1.drewN nq = W2 at *
  obtain ⟨c0, c1, c2, c3, c4, c5, c6, c7, c8⟩ := H2.out.sc.fields
  dsimp only at c0 c1 c2 c3 c4 c5 c6 c7 c8
  have fz := H2.out.sc.frozen 1
  clear c0 c2 c3 c4 c5 c6 c7 c8
  have x1 : (0 : Int) ≤ (sz : Int) := by omega
  have hszi : (a : Int) + (sz : Int) < (s.size : Int) := by omega
  clear hsz ho h1' hpt h3'
  go_wp2_with fail
  have H3 : Hid (IsSc W0 B ⟨s, a + sz, b, e, t, tk, tm, op, M⟩ ρ (W2.setCell ⟨B, 1, none⟩ (.int .i64 ((a : Int) + (sz : Int))))) := by
    have := H2.out.setA (a + sz)
    rw [show ((a + sz : Nat) : Int) = (a : Int) + (sz : Int) from by omega] at this
    exact this
  have HB3 : Hid (But B w (W2.setCell ⟨B, 1, none⟩ (.int .i64 ((a : Int) + (sz : Int))))) := HB2.out.set 1 _
  have HT3 : Hid (TkAt T (.int .i64 0) (.int .i64 0) (.string ⟨#[]⟩) (.string ⟨#[]⟩) (.string ⟨#[]⟩) (.int .i64 0) (W2.setCell ⟨B, 1, none⟩ (.int .i64 ((a : Int) + (sz : Int))))) := HT2.out.later (Below.heap_setCell W2 ⟨B, 1, none⟩ _ T (HT2.out.ne H2.out.sc))
  clear c1 fz HT2 HB2 H2
  generalize W2.setCell ⟨B, 1, none⟩ (.int .i64 ((a : Int) + (sz : Int))) = W3 at *
  refine (HTA.out _ H3.out).mono ?_
  rintro e1 W4 ⟨rfl, hs2, hb2⟩
  have H4 := Lib.hid hs2
  have HB4 : Hid (But B w W4) := HB3.out.trans hb2
  have HT4 : Hid (TkAt T (.int .i64 0) (.int .i64 0) (.string ⟨#[]⟩) (.string ⟨#[]⟩) (.string ⟨#[]⟩) (.int .i64 0) W4) := HT3.out.later (hb2.block T HT3.out.lt (HT3.out.ne H3.out.sc))
  clear hs2 hb2 HT3 HB3 H3
  go_wp2_with fail
  refine (HPA.out _ H4.out).mono ?_
  rintro e1 W5 ⟨rfl, hs2, hb2⟩
  have H5 : Hid (IsSc W0 B ⟨s, a2, b, e, t, tk, tm, op, M⟩ ρ (W5.alloc (.cells #[.int .i64 7, .int .i64 0, .string ⟨#[]⟩, .string ⟨#[]⟩, .string ⟨#[]⟩, .int .i64 0] 101))) := hs2.later ((Below.refl _ _).alloc (Nat.le_refl _) _)
  have HB5 : Hid (But B w (W5.alloc (.cells #[.int .i64 7, .int .i64 0, .string ⟨#[]⟩, .string ⟨#[]⟩, .string ⟨#[]⟩, .int .i64 0] 101))) := (HB4.out.trans hb2).trans (But.of ((Below.refl _ _).alloc (Nat.le_refl _) _))
  have ht5 : TkAt T (.int .i64 0) (.int .i64 0) (.string ⟨#[]⟩) (.string ⟨#[]⟩) (.string ⟨#[]⟩) (.int .i64 0) W5 := HT4.out.later (hb2.block T HT4.out.lt (HT4.out.ne H4.out.sc))
  have HT5 : Hid (TkAt T (.int .i64 0) (.int .i64 0) (.string ⟨#[]⟩) (.string ⟨#[]⟩) (.string ⟨#[]⟩) (.int .i64 0) (W5.alloc (.cells #[.int .i64 7, .int .i64 0, .string ⟨#[]⟩, .string ⟨#[]⟩, .string ⟨#[]⟩, .int .i64 0] 101))) := ht5.later (((Below.refl _ _).alloc (Nat.le_refl _) _).block T ht5.lt)
  have HU5 : Hid (TkAt W5.heap.size (.int .i64 7) (.int .i64 0) (.string ⟨#[]⟩) (.string ⟨#[]⟩) (.string ⟨#[]⟩) (.int .i64 0) (W5.alloc (.cells #[.int .i64 7, .int .i64 0, .string ⟨#[]⟩, .string ⟨#[]⟩, .string ⟨#[]⟩, .int .i64 0] 101))) := (Go.MapKept.heap_alloc W5 _).1
  have hUT : T < W5.heap.size := ht5.lt
  clear hs2 hb2 ht5 HT4 HB4 H4
  go_wp2_with fail
  generalize W5.alloc (.cells #[.int .i64 7, .int .i64 0, .string ⟨#[]⟩, .string ⟨#[]⟩, .string ⟨#[]⟩, .int .i64 0] 101) = W6 at *
  generalize W5.heap.size = U at *
  refine (HUN.out _).mono ?_
  rintro e1 W7 ⟨rfl, hb2⟩
  have H7 : Hid (IsSc W0 B ⟨s, a2, b, e, t, tk, tm, op, M⟩ ρ (W7.setCell ⟨U, 2, none⟩ (.string (bs (rwL usG out))))) := (H5.out.later hb2).below (HLT.out.withA a2) ((Below.refl _ _).setCell (p := ⟨U, 2, none⟩) (Nat.le_of_lt hUT) _)
  have HB7 : Hid (But B w (W7.setCell ⟨U, 2, none⟩ (.string (bs (rwL usG out))))) := (HB5.out.trans (But.of hb2)).more (by rw [HTT.out]; exact (Below.refl _ _).setCell (p := ⟨U, 2, none⟩) (Nat.le_of_lt hUT) _)
  have ht7 : TkAt T (.int .i64 0) (.int .i64 0) (.string ⟨#[]⟩) (.string ⟨#[]⟩) (.string ⟨#[]⟩) (.int .i64 0) W7 := HT5.out.later (hb2.block T HT5.out.lt)
  have HT7 : Hid (TkAt T (.int .i64 0) (.int .i64 0) (.string ⟨#[]⟩) (.string ⟨#[]⟩) (.string ⟨#[]⟩) (.int .i64 0) (W7.setCell ⟨U, 2, none⟩ (.string (bs (rwL usG out))))) := ht7.later (Below.heap_setCell W7 ⟨U, 2, none⟩ _ T (Nat.ne_of_lt hUT))
  have hu7 : TkAt U (.int .i64 7) (.int .i64 0) (.string ⟨#[]⟩) (.string ⟨#[]⟩) (.string ⟨#[]⟩) (.int .i64 0) W7 := HU5.out.later (hb2.block U HU5.out.lt)
  have HU7 : Hid (TkAt U (.int .i64 7) (.int .i64 0) (.string (bs (rwL usG out))) (.string ⟨#[]⟩) (.string ⟨#[]⟩) (.int .i64 0) (W7.setCell ⟨U, 2, none⟩ (.string (bs (rwL usG out))))) := heap_setCell_same W7 U 2 _ _ _ hu7
  have u2 := hu7.cells.2.2.1
  have uz := hu7.frozen 2
  clear hb2 ht7 hu7 H5 HB5 HT5 HU5
  go_wp2_with fail
  clear u2 uz
  generalize (W7.setCell ⟨U, 2, none⟩ (.string (bs (rwL usG out)))) = W8 at *
  refine (HFL.out _ H7.out).mono ?_
  rintro e1 W9 ⟨rfl, hs2, hb2⟩
  have hu9 : TkAt U (.int .i64 7) (.int .i64 0) (.string (bs (rwL usG out))) (.string ⟨#[]⟩) (.string ⟨#[]⟩) (.int .i64 0) W9 := HU7.out.later (hb2.block U HU7.out.lt (HU7.out.ne H7.out.sc))
  have ht9 : TkAt T (.int .i64 0) (.int .i64 0) (.string ⟨#[]⟩) (.string ⟨#[]⟩) (.string ⟨#[]⟩) (.int .i64 0) W9 := HT7.out.later (hb2.block T HT7.out.lt (HT7.out.ne H7.out.sc))
  have H9 : Hid (IsSc W0 B ⟨s, a3, b, e, t, tk, tm, op, M⟩ ρ (W9.setCell ⟨U, 4, none⟩ (.string (s.extract a2 a3)))) := hs2.below (HLT.out.withA a3) ((Below.refl _ _).setCell (p := ⟨U, 4, none⟩) (Nat.le_of_lt hUT) _)
  have HB9 : Hid (But B w (W9.setCell ⟨U, 4, none⟩ (.string (s.extract a2 a3)))) := (HB7.out.trans hb2).more (by rw [HTT.out]; exact (Below.refl _ _).setCell (p := ⟨U, 4, none⟩) (Nat.le_of_lt hUT) _)
  have HT9 : Hid (TkAt T (.int .i64 0) (.int .i64 0) (.string ⟨#[]⟩) (.string ⟨#[]⟩) (.string ⟨#[]⟩) (.int .i64 0) (W9.setCell ⟨U, 4, none⟩ (.string (s.extract a2 a3)))) := ht9.later (Below.heap_setCell W9 ⟨U, 4, none⟩ _ T (Nat.ne_of_lt hUT))
  have HU9 : Hid (TkAt U (.int .i64 7) (.int .i64 0) (.string (bs (rwL usG out))) (.string ⟨#[]⟩) (.string (s.extract a2 a3)) (.int .i64 0) (W9.setCell ⟨U, 4, none⟩ (.string (s.extract a2 a3)))) := heap_setCell_same W9 U 4 _ _ _ hu9
  have u4 := hu9.cells.2.2.2.2.1
  have uz := hu9.frozen 4
  obtain ⟨t0, t1, t2, t3, t4, t5⟩ := HT9.out.cells
  have z0 := HT9.out.frozen 0
  have z1 := HT9.out.frozen 1
  have z2 := HT9.out.frozen 2
  have z3 := HT9.out.frozen 3
  have z4 := HT9.out.frozen 4
  have z5 := HT9.out.frozen 5
  obtain ⟨u0, u1, u2, u3, u4', u5⟩ := HU9.out.cells
  clear hu9 ht9 hs2 hb2 H7 HB7 HT7 HU7
  go_wp2_with fail
  clear u4 uz u0 u1 u2 u3 u4' u5 HU9
  generalize (W9.setCell ⟨U, 4, none⟩ (.string (s.extract a2 a3))) = W10 at *
  have HT4 := HT9.out.put (.int .i64 7) (.int .i64 0) (.string (bs (rwL usG out))) (.string ⟨#[]⟩) (.string (s.extract a2 a3)) (.int .i64 0)
  obtain ⟨r0, r1, r2, r3, r4, r5⟩ := HT4.cells
  have hbe := tkW_below W10 T (.int .i64 7) (.int .i64 0) (.string (bs (rwL usG out))) (.string ⟨#[]⟩) (.string (s.extract a2 a3)) (.int .i64 0)
  change bodyPost _ _ _ _ _ (tkW W10 T (.int .i64 7) (.int .i64 0) (.string (bs (rwL usG out))) (.string ⟨#[]⟩) (.string (s.extract a2 a3)) (.int .i64 0))
  clear t0 t1 t2 t3 t4 t5 z0 z1 z2 z3 z4 z5
  refine bodyPost_ret (v := .tuple #[.agg #[.int .i64 7, .int .i64 0, .string (bs (rwL usG out)), .string ⟨#[]⟩, .string (s.extract a2 a3), .int .i64 0], .bool true]) ?_ rfl (HP.out _ (H9.out.below (HLT.out.withA a3) hbe) (HB9.out.more (by rw [HTT.out]; exact hbe)))
  generalize tkW W10 T (.int .i64 7) (.int .i64 0) (.string (bs (rwL usG out))) (.string ⟨#[]⟩) (.string (s.extract a2 a3)) (.int .i64 0) = Wz at *
  simp [results, Tryz.results149, go_sem, r0, r1, r2, r3, r4, r5]

end Go.Proofs.YtaocbhfehncdcaaGreatDoor
