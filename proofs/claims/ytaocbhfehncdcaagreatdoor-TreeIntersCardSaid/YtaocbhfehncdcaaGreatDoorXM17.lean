/-
  The parser's methods that hand on what another one read. Conditions: none beside those stated. The parser's terms: numbers, variables. Conditions: none beside those stated. The parser's terms: variables. Conditions: none beside those stated.
-/
import Derived.Test.YtaocbhfehncdcaaGreatDoorXM16
namespace Go.Proofs.YtaocbhfehncdcaaGreatDoor
open Go.RowKit

/-- Behind an operand with this token there is nothing that an assignment goes on with. -/
def upL : List (List UInt8) := [[43, 61], [45, 61], [42, 61], [47, 61], [37, 61], [46, 61], [124, 124, 61], [38, 38, 61], [47, 47, 61]]
def PlainT (t : Tt) : Prop := (t.k != 3) = true ∨ (t.k = 3 ∧ (t.x.toList == [61]) = false ∧ ∀ u, u ∈ upL → (t.x.toList == u) = false)
set_option maxRecDepth 100000 in
set_option maxHeartbeats 4000000 in
theorem isUpdate_no (x : ByteArray) (hx : ∀ u, u ∈ upL → (x.toList == u) = false) (w : World) : Calls Tryz.prog 157 #[.string x] w (LkP (.bool false) w) := by
  have c0 : (x.toList == [43, 61]) = false := hx [43, 61] (by simp [upL])
  have c1 : (x.toList == [45, 61]) = false := hx [45, 61] (by simp [upL])
  have c2 : (x.toList == [42, 61]) = false := hx [42, 61] (by simp [upL])
  have c3 : (x.toList == [47, 61]) = false := hx [47, 61] (by simp [upL])
  have c4 : (x.toList == [37, 61]) = false := hx [37, 61] (by simp [upL])
  have c5 : (x.toList == [46, 61]) = false := hx [46, 61] (by simp [upL])
  have c6 : (x.toList == [124, 124, 61]) = false := hx [124, 124, 61] (by simp [upL])
  have c7 : (x.toList == [38, 38, 61]) = false := hx [38, 38, 61] (by simp [upL])
  have c8 : (x.toList == [47, 47, 61]) = false := hx [47, 47, 61] (by simp [upL])
  have HP : Hid (LkP (.bool false) w (.returned (.bool false)) w) := ⟨rfl, Below.refl _ _⟩
  go_enter Tryz.func157, Tryz.ntmps157
  go_wp2
  go_ret
  exact HP.out

set_option maxRecDepth 100000 in
set_option maxHeartbeats 8000000 in
theorem assign_any (κ : Pc) (ts : List Tt) (P k : Nat) (o : Oc) (hm : Mt κ ts P k 155 o) (hq : o.at fun j => j ≤ 1000 ∧ PlainT (tAt ts j)) : Mt κ ts P k 135 o := by
  intro w h
  have HL := Lib.hid h.all
  have HS0 : Hid (PsAt κ ts P k (w.alloc zN)) := h.later ((Below.refl _ _).alloc (Nat.le_refl _) _)
  have HB0 : Hid (But P w (w.alloc zN)) := But.alloc P w _
  have HT0 := Lib.hid (NkAt.zero w)
  unfold zN at HS0 HB0 HT0
  have HM := Lib.hid hm
  clear hm
  clear h
  go_enter Tryz.func135, Tryz.ntmps135
  go_wp2_with fail
  generalize w.alloc _ = W0 at *
  generalize hTT : w.heap.size = T at *
  have HTT : Hid (w.heap.size ≤ T) := Nat.le_of_eq hTT
  clear hTT
  refine (HM.out _ HS0.out).mono ?_
  intro e1 W1 h1
  cases o with
  | bad m =>
    obtain ⟨rfl, hb1⟩ := h1
    have HBZ : Hid (But P w W1) := HB0.out.trans hb1
    clear hb1
    go_wp2
    exact ⟨rfl, rfl, HBZ.out⟩
  | ok j t =>
    obtain ⟨v, rfl, hn, hs1, hb1⟩ := h1
    cases hn with
    | @mk op s t' n l L hn =>
      obtain ⟨la, ln, lc, rfl⟩ := hn.val
      have HN_1 : Hid (NdAt (fun g => T < g) W1 (.mk op s t' n l) (.agg #[.int .i64 op, .string s, .string t', .int .i64 n, .slice la ln lc])) := .mk (hn.move fun g h1 h2 => ⟨rfl, Nat.lt_of_lt_of_le HT0.out.lt h1⟩)
      have HS1 := Lib.hid hs1
      have HB1 : Hid (But P w W1) := HB0.out.trans hb1
      have HT1 := Lib.hid (HT0.out.but hb1 HL.out.p)
      clear HB0 HT0 HS0 hn hs1 hb1 HM
      obtain ⟨hj, q0⟩ := hq
      rcases q0 with q0 | ⟨q0, q1, q2⟩
      · skip
        have HX2 := Lib.hid (NkAt.new W1 (.int .i64 op) (.string s) (.string t') (.int .i64 n) (.slice la ln lc))
        have HGX : Hid (T < W1.heap.size) := HT1.out.lt
        have hb2 : Below W1.heap.size W1 (W1.alloc (.cells #[.int .i64 op, .string s, .string t', .int .i64 n, .slice la ln lc] 28)) := (Below.refl _ _).alloc (Nat.le_refl _) _
        have HS2 : Hid (PsAt κ ts P j (W1.alloc (.cells #[.int .i64 op, .string s, .string t', .int .i64 n, .slice la ln lc] 28))) := HS1.out.later hb2
        have HB2 : Hid (But P w (W1.alloc (.cells #[.int .i64 op, .string s, .string t', .int .i64 n, .slice la ln lc] 28))) := HB1.out.trans (But.of hb2)
        have HT2 := Lib.hid (HT1.out.below hb2)
        have HN_2 := Lib.hid (HN_1.out.move (S' := fun g => T < g) (w' := (W1.alloc (.cells #[.int .i64 op, .string s, .string t', .int .i64 n, .slice la ln lc] 28))) fun g h1 h2 => ⟨hb2.block g h2, h1⟩)
        clear HS1 HB1 HT1 HN_1 hb2
        go_wp2_with fail
        generalize W1.alloc _ = W2 at *
        generalize W1.heap.size = X at *
        refine (token_x κ ts P j _ HS2.out (by omega)).mono ?_
        rintro e1 W3 ⟨rfl, hb3⟩
        have HS3 : Hid (PsAt κ ts P j W3) := HS2.out.later hb3
        have HB3 : Hid (But P w W3) := HB2.out.trans (But.of hb3)
        have HT3 := Lib.hid (HT2.out.below hb3)
        have HX3 := Lib.hid (HX2.out.below hb3)
        have HN_3 := Lib.hid (HN_2.out.move (S' := fun g => T < g) (w' := W3) fun g h1 h2 => ⟨hb3.block g h2, h1⟩)
        clear HS2 HB2 HT2 HX2 HN_2 hb3
        have HY4 := Lib.hid (TkAt.new W3 (.int .i64 (tAt ts j).k) (.int .i64 (tAt ts j).a) (.string (tAt ts j).x) (.string ⟨#[]⟩) (.string ⟨#[]⟩) (.int .i64 (tAt ts j).o))
        have HGY : Hid (T < W3.heap.size) := HT3.out.lt
        have hb4 : Below W3.heap.size W3 (W3.alloc (.cells #[.int .i64 (tAt ts j).k, .int .i64 (tAt ts j).a, .string (tAt ts j).x, .string ⟨#[]⟩, .string ⟨#[]⟩, .int .i64 (tAt ts j).o] 101)) := (Below.refl _ _).alloc (Nat.le_refl _) _
        have HS4 : Hid (PsAt κ ts P j (W3.alloc (.cells #[.int .i64 (tAt ts j).k, .int .i64 (tAt ts j).a, .string (tAt ts j).x, .string ⟨#[]⟩, .string ⟨#[]⟩, .int .i64 (tAt ts j).o] 101))) := HS3.out.later hb4
        have HB4 : Hid (But P w (W3.alloc (.cells #[.int .i64 (tAt ts j).k, .int .i64 (tAt ts j).a, .string (tAt ts j).x, .string ⟨#[]⟩, .string ⟨#[]⟩, .int .i64 (tAt ts j).o] 101))) := HB3.out.trans (But.of hb4)
        have HT4 := Lib.hid (HT3.out.below hb4)
        have HX4 := Lib.hid (HX3.out.below hb4)
        have HN_4 := Lib.hid (HN_3.out.move (S' := fun g => T < g) (w' := (W3.alloc (.cells #[.int .i64 (tAt ts j).k, .int .i64 (tAt ts j).a, .string (tAt ts j).x, .string ⟨#[]⟩, .string ⟨#[]⟩, .int .i64 (tAt ts j).o] 101))) fun g h1 h2 => ⟨hb4.block g h2, h1⟩)
        clear HS3 HB3 HT3 HX3 HN_3 hb4
        obtain ⟨x0, x1, x2, x3, x4⟩ := HX4.out.cells
        obtain ⟨u0, u1, u2, u3, u4⟩ := HT4.out.cells
        have z0 := HT4.out.frozen 0
        have z1 := HT4.out.frozen 1
        have z2 := HT4.out.frozen 2
        have z3 := HT4.out.frozen 3
        have z4 := HT4.out.frozen 4
        go_wp2_with fail
        generalize W3.alloc _ = W4 at *
        generalize W3.heap.size = Y at *
        have HR := HT4.out.put (.int .i64 op) (.string s) (.string t') (.int .i64 n) (.slice la ln lc)
        obtain ⟨r0, r1, r2, r3, r4⟩ := HR.cells
        change bodyPost _ _ _ _ _ (ndW W4 T (.int .i64 op) (.string s) (.string t') (.int .i64 n) (.slice la ln lc))
        refine bodyPost_ret (v := .agg #[.int .i64 op, .string s, .string t', .int .i64 n, .slice la ln lc]) ?_ rfl (fn_ret HTT.out HL.out HS4.out HB4.out HN_4.out (fun g h => h))
        generalize ndW W4 T (.int .i64 op) (.string s) (.string t') (.int .i64 n) (.slice la ln lc) = WZ at *
        simp [results, Tryz.results135, go_sem, r0, r1, r2, r3, r4]
      · skip
        have q3 : ((tAt ts j).k != 3) = false := by rw [q0]; rfl
        clear q0
        have HX2 := Lib.hid (NkAt.new W1 (.int .i64 op) (.string s) (.string t') (.int .i64 n) (.slice la ln lc))
        have HGX : Hid (T < W1.heap.size) := HT1.out.lt
        have hb2 : Below W1.heap.size W1 (W1.alloc (.cells #[.int .i64 op, .string s, .string t', .int .i64 n, .slice la ln lc] 28)) := (Below.refl _ _).alloc (Nat.le_refl _) _
        have HS2 : Hid (PsAt κ ts P j (W1.alloc (.cells #[.int .i64 op, .string s, .string t', .int .i64 n, .slice la ln lc] 28))) := HS1.out.later hb2
        have HB2 : Hid (But P w (W1.alloc (.cells #[.int .i64 op, .string s, .string t', .int .i64 n, .slice la ln lc] 28))) := HB1.out.trans (But.of hb2)
        have HT2 := Lib.hid (HT1.out.below hb2)
        have HN_2 := Lib.hid (HN_1.out.move (S' := fun g => T < g) (w' := (W1.alloc (.cells #[.int .i64 op, .string s, .string t', .int .i64 n, .slice la ln lc] 28))) fun g h1 h2 => ⟨hb2.block g h2, h1⟩)
        clear HS1 HB1 HT1 HN_1 hb2
        go_wp2_with fail
        generalize W1.alloc _ = W2 at *
        generalize W1.heap.size = X at *
        refine (token_x κ ts P j _ HS2.out (by omega)).mono ?_
        rintro e1 W3 ⟨rfl, hb3⟩
        have HS3 : Hid (PsAt κ ts P j W3) := HS2.out.later hb3
        have HB3 : Hid (But P w W3) := HB2.out.trans (But.of hb3)
        have HT3 := Lib.hid (HT2.out.below hb3)
        have HX3 := Lib.hid (HX2.out.below hb3)
        have HN_3 := Lib.hid (HN_2.out.move (S' := fun g => T < g) (w' := W3) fun g h1 h2 => ⟨hb3.block g h2, h1⟩)
        clear HS2 HB2 HT2 HX2 HN_2 hb3
        have HY4 := Lib.hid (TkAt.new W3 (.int .i64 (tAt ts j).k) (.int .i64 (tAt ts j).a) (.string (tAt ts j).x) (.string ⟨#[]⟩) (.string ⟨#[]⟩) (.int .i64 (tAt ts j).o))
        have HGY : Hid (T < W3.heap.size) := HT3.out.lt
        have hb4 : Below W3.heap.size W3 (W3.alloc (.cells #[.int .i64 (tAt ts j).k, .int .i64 (tAt ts j).a, .string (tAt ts j).x, .string ⟨#[]⟩, .string ⟨#[]⟩, .int .i64 (tAt ts j).o] 101)) := (Below.refl _ _).alloc (Nat.le_refl _) _
        have HS4 : Hid (PsAt κ ts P j (W3.alloc (.cells #[.int .i64 (tAt ts j).k, .int .i64 (tAt ts j).a, .string (tAt ts j).x, .string ⟨#[]⟩, .string ⟨#[]⟩, .int .i64 (tAt ts j).o] 101))) := HS3.out.later hb4
        have HB4 : Hid (But P w (W3.alloc (.cells #[.int .i64 (tAt ts j).k, .int .i64 (tAt ts j).a, .string (tAt ts j).x, .string ⟨#[]⟩, .string ⟨#[]⟩, .int .i64 (tAt ts j).o] 101))) := HB3.out.trans (But.of hb4)
        have HT4 := Lib.hid (HT3.out.below hb4)
        have HX4 := Lib.hid (HX3.out.below hb4)
        have HN_4 := Lib.hid (HN_3.out.move (S' := fun g => T < g) (w' := (W3.alloc (.cells #[.int .i64 (tAt ts j).k, .int .i64 (tAt ts j).a, .string (tAt ts j).x, .string ⟨#[]⟩, .string ⟨#[]⟩, .int .i64 (tAt ts j).o] 101))) fun g h1 h2 => ⟨hb4.block g h2, h1⟩)
        clear HS3 HB3 HT3 HX3 HN_3 hb4
        go_wp2_with fail
        generalize W3.alloc _ = W4 at *
        generalize W3.heap.size = Y at *
        refine (isUpdate_no _ q2 _).mono ?_
        rintro e1 W5 ⟨rfl, hb5⟩
        have HS5 : Hid (PsAt κ ts P j W5) := HS4.out.later hb5
        have HB5 : Hid (But P w W5) := HB4.out.trans (But.of hb5)
        have HT5 := Lib.hid (HT4.out.below hb5)
        have HX5 := Lib.hid (HX4.out.below hb5)
        have HY5 := Lib.hid (HY4.out.later (hb5.block _ HY4.out.lt))
        have HN_5 := Lib.hid (HN_4.out.move (S' := fun g => T < g) (w' := W5) fun g h1 h2 => ⟨hb5.block g h2, h1⟩)
        clear HS4 HB4 HT4 HX4 HY4 HN_4 hb5
        obtain ⟨x0, x1, x2, x3, x4⟩ := HX5.out.cells
        obtain ⟨u0, u1, u2, u3, u4⟩ := HT5.out.cells
        have z0 := HT5.out.frozen 0
        have z1 := HT5.out.frozen 1
        have z2 := HT5.out.frozen 2
        have z3 := HT5.out.frozen 3
        have z4 := HT5.out.frozen 4
        go_wp2
        have HR := HT5.out.put (.int .i64 op) (.string s) (.string t') (.int .i64 n) (.slice la ln lc)
        obtain ⟨r0, r1, r2, r3, r4⟩ := HR.cells
        change bodyPost _ _ _ _ _ (ndW W5 T (.int .i64 op) (.string s) (.string t') (.int .i64 n) (.slice la ln lc))
        refine bodyPost_ret (v := .agg #[.int .i64 op, .string s, .string t', .int .i64 n, .slice la ln lc]) ?_ rfl (fn_ret HTT.out HL.out HS5.out HB5.out HN_5.out (fun g h => h))
        generalize ndW W5 T (.int .i64 op) (.string s) (.string t') (.int .i64 n) (.slice la ln lc) = WZ at *
        simp [results, Tryz.results135, go_sem, r0, r1, r2, r3, r4]
set_option maxRecDepth 100000 in
set_option maxHeartbeats 8000000 in
theorem negated_any (κ : Pc) (ts : List Tt) (P k : Nat) (o : Oc) (hm : Mt κ ts P k 135 o) (hk : k ≤ 1000) (hq : wdOf (tAt ts k) ⟨#[110, 111, 116]⟩ = false) : Mt κ ts P k 111 o := by
  intro w h
  have HL := Lib.hid h.all
  have HS0 : Hid (PsAt κ ts P k (w.alloc zN)) := h.later ((Below.refl _ _).alloc (Nat.le_refl _) _)
  have HB0 : Hid (But P w (w.alloc zN)) := But.alloc P w _
  have HT0 := Lib.hid (NkAt.zero w)
  unfold zN at HS0 HB0 HT0
  have HM := Lib.hid hm
  clear hm
  clear h
  go_enter Tryz.func111, Tryz.ntmps111
  go_wp2_with fail
  generalize w.alloc _ = W0 at *
  generalize hTT : w.heap.size = T at *
  have HTT : Hid (w.heap.size ≤ T) := Nat.le_of_eq hTT
  clear hTT
  refine (word_any κ ts P k _ HS0.out (by omega) _).mono ?_
  rintro e1 W1 ⟨rfl, hb1⟩
  have HS1 : Hid (PsAt κ ts P k W1) := HS0.out.later hb1
  have HB1 : Hid (But P w W1) := HB0.out.trans (But.of hb1)
  have HT1 := Lib.hid (HT0.out.below hb1)
  clear HS0 HB0 HT0 hb1
  rw [hq]
  go_wp2_with fail
  refine (HM.out _ HS1.out).mono ?_
  intro e1 W2 h1
  cases o with
  | bad m =>
    obtain ⟨rfl, hb1⟩ := h1
    have HBZ : Hid (But P w W2) := HB1.out.trans hb1
    clear hb1
    go_wp2
    exact ⟨rfl, rfl, HBZ.out⟩
  | ok j t =>
    obtain ⟨v, rfl, hn, hs2, hb2⟩ := h1
    cases hn with
    | @mk op s t' n l L hn =>
      obtain ⟨la, ln, lc, rfl⟩ := hn.val
      have HN_2 : Hid (NdAt (fun g => T < g) W2 (.mk op s t' n l) (.agg #[.int .i64 op, .string s, .string t', .int .i64 n, .slice la ln lc])) := .mk (hn.move fun g h1 h2 => ⟨rfl, Nat.lt_of_lt_of_le HT1.out.lt h1⟩)
      have HS2 := Lib.hid hs2
      have HB2 : Hid (But P w W2) := HB1.out.trans hb2
      have HT2 := Lib.hid (HT1.out.but hb2 HL.out.p)
      clear HB1 HT1 HS1 hn hs2 hb2 HM
      obtain ⟨u0, u1, u2, u3, u4⟩ := HT2.out.cells
      have z0 := HT2.out.frozen 0
      have z1 := HT2.out.frozen 1
      have z2 := HT2.out.frozen 2
      have z3 := HT2.out.frozen 3
      have z4 := HT2.out.frozen 4
      go_wp2
      have HR := HT2.out.put (.int .i64 op) (.string s) (.string t') (.int .i64 n) (.slice la ln lc)
      obtain ⟨r0, r1, r2, r3, r4⟩ := HR.cells
      change bodyPost _ _ _ _ _ (ndW W2 T (.int .i64 op) (.string s) (.string t') (.int .i64 n) (.slice la ln lc))
      refine bodyPost_ret (v := .agg #[.int .i64 op, .string s, .string t', .int .i64 n, .slice la ln lc]) ?_ rfl (fn_ret HTT.out HL.out HS2.out HB2.out HN_2.out (fun g h => h))
      generalize ndW W2 T (.int .i64 op) (.string s) (.string t') (.int .i64 n) (.slice la ln lc) = WZ at *
      simp [results, Tryz.results111, go_sem, r0, r1, r2, r3, r4]
set_option maxRecDepth 100000 in
set_option maxHeartbeats 8000000 in
theorem low_any (κ : Pc) (ts : List Tt) (P k : Nat) (o : Oc) (hm : Mt κ ts P k 111 o) (hq : o.at fun j => j ≤ 1000 ∧ wdOf (tAt ts j) ⟨#[97, 110, 100]⟩ = false) : Mt κ ts P k 79 o := by
  intro w h
  have HL := Lib.hid h.all
  have HS0 : Hid (PsAt κ ts P k (w.alloc zN)) := h.later ((Below.refl _ _).alloc (Nat.le_refl _) _)
  have HB0 : Hid (But P w (w.alloc zN)) := But.alloc P w _
  have HT0 := Lib.hid (NkAt.zero w)
  unfold zN at HS0 HB0 HT0
  have HM := Lib.hid hm
  clear hm
  clear h
  go_enter Tryz.func79, Tryz.ntmps79
  go_wp2_with fail
  generalize w.alloc _ = W0 at *
  generalize hTT : w.heap.size = T at *
  have HTT : Hid (w.heap.size ≤ T) := Nat.le_of_eq hTT
  clear hTT
  refine (HM.out _ HS0.out).mono ?_
  intro e1 W1 h1
  cases o with
  | bad m =>
    obtain ⟨rfl, hb1⟩ := h1
    have HBZ : Hid (But P w W1) := HB0.out.trans hb1
    clear hb1
    go_wp2
    exact ⟨rfl, rfl, HBZ.out⟩
  | ok j t =>
    obtain ⟨v, rfl, hn, hs1, hb1⟩ := h1
    cases hn with
    | @mk op s t' n l L hn =>
      obtain ⟨la, ln, lc, rfl⟩ := hn.val
      have HN_1 : Hid (NdAt (fun g => T < g) W1 (.mk op s t' n l) (.agg #[.int .i64 op, .string s, .string t', .int .i64 n, .slice la ln lc])) := .mk (hn.move fun g h1 h2 => ⟨rfl, Nat.lt_of_lt_of_le HT0.out.lt h1⟩)
      have HS1 := Lib.hid hs1
      have HB1 : Hid (But P w W1) := HB0.out.trans hb1
      have HT1 := Lib.hid (HT0.out.but hb1 HL.out.p)
      clear HB0 HT0 HS0 hn hs1 hb1 HM
      obtain ⟨hj, q0⟩ := hq
      have HX2 := Lib.hid (NkAt.new W1 (.int .i64 op) (.string s) (.string t') (.int .i64 n) (.slice la ln lc))
      have HGX : Hid (T < W1.heap.size) := HT1.out.lt
      have hb2 : Below W1.heap.size W1 (W1.alloc (.cells #[.int .i64 op, .string s, .string t', .int .i64 n, .slice la ln lc] 28)) := (Below.refl _ _).alloc (Nat.le_refl _) _
      have HS2 : Hid (PsAt κ ts P j (W1.alloc (.cells #[.int .i64 op, .string s, .string t', .int .i64 n, .slice la ln lc] 28))) := HS1.out.later hb2
      have HB2 : Hid (But P w (W1.alloc (.cells #[.int .i64 op, .string s, .string t', .int .i64 n, .slice la ln lc] 28))) := HB1.out.trans (But.of hb2)
      have HT2 := Lib.hid (HT1.out.below hb2)
      have HN_2 := Lib.hid (HN_1.out.move (S' := fun g => T < g) (w' := (W1.alloc (.cells #[.int .i64 op, .string s, .string t', .int .i64 n, .slice la ln lc] 28))) fun g h1 h2 => ⟨hb2.block g h2, h1⟩)
      clear HS1 HB1 HT1 HN_1 hb2
      go_wp2_with fail
      generalize W1.alloc _ = W2 at *
      generalize W1.heap.size = X at *
      go_loopw [7] (fun _ wr => wr = W2) (fun _ _ => 0)
      case atStart => rfl
      case round =>
        subst hrel
        go_wp2_with fail
        refine (word_any κ ts P j _ HS2.out (by omega) _).mono ?_
        rintro e1 W3 ⟨rfl, hb3⟩
        have HS3 : Hid (PsAt κ ts P j W3) := HS2.out.later hb3
        have HB3 : Hid (But P w W3) := HB2.out.trans (But.of hb3)
        have HT3 := Lib.hid (HT2.out.below hb3)
        have HX3 := Lib.hid (HX2.out.below hb3)
        have HN_3 := Lib.hid (HN_2.out.move (S' := fun g => T < g) (w' := W3) fun g h1 h2 => ⟨hb3.block g h2, h1⟩)
        clear HS2 HB2 HT2 HX2 HN_2 hb3
        rw [q0]
        obtain ⟨x0, x1, x2, x3, x4⟩ := HX3.out.cells
        obtain ⟨u0, u1, u2, u3, u4⟩ := HT3.out.cells
        have z0 := HT3.out.frozen 0
        have z1 := HT3.out.frozen 1
        have z2 := HT3.out.frozen 2
        have z3 := HT3.out.frozen 3
        have z4 := HT3.out.frozen 4
        go_wp2
        have HR := HT3.out.put (.int .i64 op) (.string s) (.string t') (.int .i64 n) (.slice la ln lc)
        obtain ⟨r0, r1, r2, r3, r4⟩ := HR.cells
        change bodyPost _ _ _ _ _ (ndW W3 T (.int .i64 op) (.string s) (.string t') (.int .i64 n) (.slice la ln lc))
        refine bodyPost_ret (v := .agg #[.int .i64 op, .string s, .string t', .int .i64 n, .slice la ln lc]) ?_ rfl (fn_ret HTT.out HL.out HS3.out HB3.out HN_3.out (fun g h => h))
        generalize ndW W3 T (.int .i64 op) (.string s) (.string t') (.int .i64 n) (.slice la ln lc) = WZ at *
        simp [results, Tryz.results79, go_sem, r0, r1, r2, r3, r4]
set_option maxRecDepth 100000 in
set_option maxHeartbeats 8000000 in
theorem expr_any (κ : Pc) (ts : List Tt) (P k : Nat) (o : Oc) (hm : Mt κ ts P k 79 o) (hq : o.at fun j => j ≤ 1000 ∧ wdOf (tAt ts j) ⟨#[111, 114]⟩ = false) : Mt κ ts P k 53 o := by
  intro w h
  have HL := Lib.hid h.all
  have HS0 : Hid (PsAt κ ts P k (w.alloc zN)) := h.later ((Below.refl _ _).alloc (Nat.le_refl _) _)
  have HB0 : Hid (But P w (w.alloc zN)) := But.alloc P w _
  have HT0 := Lib.hid (NkAt.zero w)
  unfold zN at HS0 HB0 HT0
  have HM := Lib.hid hm
  clear hm
  clear h
  go_enter Tryz.func53, Tryz.ntmps53
  go_wp2_with fail
  generalize w.alloc _ = W0 at *
  generalize hTT : w.heap.size = T at *
  have HTT : Hid (w.heap.size ≤ T) := Nat.le_of_eq hTT
  clear hTT
  refine (HM.out _ HS0.out).mono ?_
  intro e1 W1 h1
  cases o with
  | bad m =>
    obtain ⟨rfl, hb1⟩ := h1
    have HBZ : Hid (But P w W1) := HB0.out.trans hb1
    clear hb1
    go_wp2
    exact ⟨rfl, rfl, HBZ.out⟩
  | ok j t =>
    obtain ⟨v, rfl, hn, hs1, hb1⟩ := h1
    cases hn with
    | @mk op s t' n l L hn =>
      obtain ⟨la, ln, lc, rfl⟩ := hn.val
      have HN_1 : Hid (NdAt (fun g => T < g) W1 (.mk op s t' n l) (.agg #[.int .i64 op, .string s, .string t', .int .i64 n, .slice la ln lc])) := .mk (hn.move fun g h1 h2 => ⟨rfl, Nat.lt_of_lt_of_le HT0.out.lt h1⟩)
      have HS1 := Lib.hid hs1
      have HB1 : Hid (But P w W1) := HB0.out.trans hb1
      have HT1 := Lib.hid (HT0.out.but hb1 HL.out.p)
      clear HB0 HT0 HS0 hn hs1 hb1 HM
      obtain ⟨hj, q0⟩ := hq
      have HX2 := Lib.hid (NkAt.new W1 (.int .i64 op) (.string s) (.string t') (.int .i64 n) (.slice la ln lc))
      have HGX : Hid (T < W1.heap.size) := HT1.out.lt
      have hb2 : Below W1.heap.size W1 (W1.alloc (.cells #[.int .i64 op, .string s, .string t', .int .i64 n, .slice la ln lc] 28)) := (Below.refl _ _).alloc (Nat.le_refl _) _
      have HS2 : Hid (PsAt κ ts P j (W1.alloc (.cells #[.int .i64 op, .string s, .string t', .int .i64 n, .slice la ln lc] 28))) := HS1.out.later hb2
      have HB2 : Hid (But P w (W1.alloc (.cells #[.int .i64 op, .string s, .string t', .int .i64 n, .slice la ln lc] 28))) := HB1.out.trans (But.of hb2)
      have HT2 := Lib.hid (HT1.out.below hb2)
      have HN_2 := Lib.hid (HN_1.out.move (S' := fun g => T < g) (w' := (W1.alloc (.cells #[.int .i64 op, .string s, .string t', .int .i64 n, .slice la ln lc] 28))) fun g h1 h2 => ⟨hb2.block g h2, h1⟩)
      clear HS1 HB1 HT1 HN_1 hb2
      go_wp2_with fail
      generalize W1.alloc _ = W2 at *
      generalize W1.heap.size = X at *
      go_loopw [7] (fun _ wr => wr = W2) (fun _ _ => 0)
      case atStart => rfl
      case round =>
        subst hrel
        go_wp2_with fail
        refine (word_any κ ts P j _ HS2.out (by omega) _).mono ?_
        rintro e1 W3 ⟨rfl, hb3⟩
        have HS3 : Hid (PsAt κ ts P j W3) := HS2.out.later hb3
        have HB3 : Hid (But P w W3) := HB2.out.trans (But.of hb3)
        have HT3 := Lib.hid (HT2.out.below hb3)
        have HX3 := Lib.hid (HX2.out.below hb3)
        have HN_3 := Lib.hid (HN_2.out.move (S' := fun g => T < g) (w' := W3) fun g h1 h2 => ⟨hb3.block g h2, h1⟩)
        clear HS2 HB2 HT2 HX2 HN_2 hb3
        rw [q0]
        obtain ⟨x0, x1, x2, x3, x4⟩ := HX3.out.cells
        obtain ⟨u0, u1, u2, u3, u4⟩ := HT3.out.cells
        have z0 := HT3.out.frozen 0
        have z1 := HT3.out.frozen 1
        have z2 := HT3.out.frozen 2
        have z3 := HT3.out.frozen 3
        have z4 := HT3.out.frozen 4
        go_wp2
        have HR := HT3.out.put (.int .i64 op) (.string s) (.string t') (.int .i64 n) (.slice la ln lc)
        obtain ⟨r0, r1, r2, r3, r4⟩ := HR.cells
        change bodyPost _ _ _ _ _ (ndW W3 T (.int .i64 op) (.string s) (.string t') (.int .i64 n) (.slice la ln lc))
        refine bodyPost_ret (v := .agg #[.int .i64 op, .string s, .string t', .int .i64 n, .slice la ln lc]) ?_ rfl (fn_ret HTT.out HL.out HS3.out HB3.out HN_3.out (fun g h => h))
        generalize ndW W3 T (.int .i64 op) (.string s) (.string t') (.int .i64 n) (.slice la ln lc) = WZ at *
        simp [results, Tryz.results53, go_sem, r0, r1, r2, r3, r4]

end Go.Proofs.YtaocbhfehncdcaaGreatDoor

namespace Go.Proofs.YtaocbhfehncdcaaGreatDoor
open Go.RowKit

/-- What a method leaves that also tells what can stand behind. -/
def OcT (κ : Pc) (ts : List Tt) (P : Nat) (b : Int) : Oc → World → Ending → World → Prop
  | .ok j t, w, e, w' => ∃ v, e = .returned (.tuple #[v, .int .i64 b]) ∧ NdAt (fun g => w.heap.size ≤ g) w' t v ∧ PsAt κ ts P j w' ∧ But P w w'
  | .bad m, w, e, w' => BadP P m w e w'
def MtT (κ : Pc) (ts : List Tt) (P k : Nat) (f : Nat) (b : Int) (o : Oc) : Prop := ∀ w, PsAt κ ts P k w → Calls Tryz.prog f #[.pointer (some ⟨P, 0, none⟩)] w (OcT κ ts P b o w)
theorem OcT.of {κ : Pc} {ts : List Tt} {P j : Nat} {b : Int} {t : Nd} {w W : World} {v : Value} (h : OcP κ ts P (.ok j t) w (.returned v) W) : OcT κ ts P b (.ok j t) w (.returned (.tuple #[v, .int .i64 b])) W := by
  obtain ⟨u, h1, h2⟩ := h
  cases h1
  exact ⟨_, rfl, h2⟩
/-- A tree without others in it. -/
theorem NdAt.leaf (S : Nat → Prop) (w : World) (op : Int) (s t : ByteArray) (n : Int) : NdAt S w (.mk op s t n []) (.agg #[.int .i64 op, .string s, .string t, .int .i64 n, .slice none 0 0]) := .mk .none

set_option maxRecDepth 100000 in
set_option maxHeartbeats 8000000 in
theorem numberOf_49 (w : World) : Calls Tryz.prog 123 #[.string ⟨#[49]⟩] w (LkP (.tuple #[.int .i64 1, .bool true]) w) := by
  have HP : Hid (∀ w', Below w.heap.size w w' → LkP (.tuple #[.int .i64 1, .bool true]) w (.returned (.tuple #[.int .i64 1, .bool true])) w') := fun w' h => ⟨rfl, h⟩
  have HB := Lib.hid (Below.refl w.heap.size w)
  go_enter Tryz.func123, Tryz.ntmps123
  go_wp2
  go_loopw [4, 24] (fun m i wr => ((i = .int .i64 0 ∧ m = .int .i64 0) ∨ (i = .int .i64 1 ∧ m = .int .i64 1)) ∧ Hid (Below w.heap.size w wr)) (fun _ i _ => 1 - (intOf i).toNat)
  case atStart => exact ⟨.inl ⟨rfl, rfl⟩, HB⟩
  case round =>
    obtain ⟨hi | hi, hb⟩ := hrel
    · obtain ⟨rfl, rfl⟩ := hi
      go_wp2
      go_roundw
      case rel => exact ⟨.inr ⟨by first | rfl | go_num, by first | rfl | go_num⟩, hb⟩
      case measure => simp [intOf]
    · obtain ⟨rfl, rfl⟩ := hi
      go_wp2
      go_ret2
      exact HP.out _ hb.out

set_option maxRecDepth 100000 in
set_option maxHeartbeats 8000000 in
theorem numberOf_50 (w : World) : Calls Tryz.prog 123 #[.string ⟨#[50]⟩] w (LkP (.tuple #[.int .i64 2, .bool true]) w) := by
  have HP : Hid (∀ w', Below w.heap.size w w' → LkP (.tuple #[.int .i64 2, .bool true]) w (.returned (.tuple #[.int .i64 2, .bool true])) w') := fun w' h => ⟨rfl, h⟩
  have HB := Lib.hid (Below.refl w.heap.size w)
  go_enter Tryz.func123, Tryz.ntmps123
  go_wp2
  go_loopw [4, 24] (fun m i wr => ((i = .int .i64 0 ∧ m = .int .i64 0) ∨ (i = .int .i64 1 ∧ m = .int .i64 2)) ∧ Hid (Below w.heap.size w wr)) (fun _ i _ => 1 - (intOf i).toNat)
  case atStart => exact ⟨.inl ⟨rfl, rfl⟩, HB⟩
  case round =>
    obtain ⟨hi | hi, hb⟩ := hrel
    · obtain ⟨rfl, rfl⟩ := hi
      go_wp2
      go_roundw
      case rel => exact ⟨.inr ⟨by first | rfl | go_num, by first | rfl | go_num⟩, hb⟩
      case measure => simp [intOf]
    · obtain ⟨rfl, rfl⟩ := hi
      go_wp2
      go_ret2
      exact HP.out _ hb.out

set_option maxRecDepth 100000 in
set_option maxHeartbeats 8000000 in
theorem quoted_num (a o m : Int) (x : ByteArray) (hm : ∀ w, Calls Tryz.prog 123 #[.string x] w (LkP (.tuple #[.int .i64 m, .bool true]) w)) (w : World) :
    Calls Tryz.prog 247 #[.agg #[.int .i64 1, .int .i64 a, .string x, .string ⟨#[]⟩, .string ⟨#[]⟩, .int .i64 o]] w (LkP (.tuple #[.agg #[.int .i64 1, .string ⟨#[]⟩, .string ⟨#[]⟩, .int .i64 m, .slice none 0 0], .bool true]) w) := by
  have HM := Lib.hid hm
  have HP : Hid (∀ w', Below w.heap.size w w' → LkP (.tuple #[.agg #[.int .i64 1, .string ⟨#[]⟩, .string ⟨#[]⟩, .int .i64 m, .slice none 0 0], .bool true]) w (.returned (.tuple #[.agg #[.int .i64 1, .string ⟨#[]⟩, .string ⟨#[]⟩, .int .i64 m, .slice none 0 0], .bool true])) w') := fun w' h => ⟨rfl, h⟩
  have HB : Hid (∀ o, Below w.heap.size w ((w.alloc o).alloc zN)) := fun o => ((Below.refl _ _).alloc (Nat.le_refl _) _).alloc (by simp) _
  have HT : Hid (∀ o, NkAt (w.heap.size + 1) (.int .i64 0) (.string ⟨#[]⟩) (.string ⟨#[]⟩) (.int .i64 0) (.slice none 0 0) ((w.alloc o).alloc zN)) := fun o => by
    have := NkAt.zero (w.alloc o)
    rwa [show (w.alloc o).heap.size = w.heap.size + 1 by simp] at this
  unfold zN at HB HT
  clear hm
  go_enter Tryz.func247, Tryz.ntmps247
  go_wp2_with fail
  have HB1 := Lib.hid (HB.out (.cells #[.int .i64 1, .int .i64 a, .string x, .string ⟨#[]⟩, .string ⟨#[]⟩, .int .i64 o] 101))
  have HT1 := Lib.hid (HT.out (.cells #[.int .i64 1, .int .i64 a, .string x, .string ⟨#[]⟩, .string ⟨#[]⟩, .int .i64 o] 101))
  clear HB HT
  generalize (w.alloc _).alloc _ = W1 at *
  generalize hT : w.heap.size + 1 = T at *
  have HL : Hid (w.heap.size ≤ T) := by
    show _ ≤ _
    omega
  clear hT
  refine (HM.out _).mono ?_
  rintro e1 W2 ⟨rfl, hb2⟩
  have HT2 := Lib.hid (HT1.out.below hb2)
  have HB2 : Hid (Below w.heap.size w W2) := HB1.out.trans (hb2.mono HB1.out.size)
  clear hb2 HT1 HB1
  obtain ⟨u0, u1, u2, u3, u4⟩ := HT2.out.cells
  have z0 := HT2.out.frozen 0
  have z1 := HT2.out.frozen 1
  have z2 := HT2.out.frozen 2
  have z3 := HT2.out.frozen 3
  have z4 := HT2.out.frozen 4
  go_wp2
  have HR := HT2.out.put (.int .i64 1) (.string ⟨#[]⟩) (.string ⟨#[]⟩) (.int .i64 m) (.slice none 0 0)
  obtain ⟨r0, r1, r2, r3, r4⟩ := HR.cells
  change bodyPost _ _ _ _ _ (ndW W2 T (.int .i64 1) (.string ⟨#[]⟩) (.string ⟨#[]⟩) (.int .i64 m) (.slice none 0 0))
  refine bodyPost_ret (v := .tuple #[.agg #[.int .i64 1, .string ⟨#[]⟩, .string ⟨#[]⟩, .int .i64 m, .slice none 0 0], .bool true]) ?_ rfl (HP.out _ (HB2.out.trans ((ndW_below W2 T _ _ _ _ _).mono HL.out)))
  generalize ndW W2 T (.int .i64 1) (.string ⟨#[]⟩) (.string ⟨#[]⟩) (.int .i64 m) (.slice none 0 0) = WZ at *
  simp [results, Tryz.results247, go_sem, r0, r1, r2, r3, r4]

set_option maxRecDepth 100000 in
set_option maxHeartbeats 8000000 in
theorem term_num (κ : Pc) (ts : List Tt) (P k : Nat) (m : Int) (hk : k ≤ 1000) (ht : (tAt ts k).k = 1) (hm : ∀ w, Calls Tryz.prog 123 #[.string (tAt ts k).x] w (LkP (.tuple #[.int .i64 m, .bool true]) w)) : MtT κ ts P k 239 0 (.ok (k + 1) (.mk 1 ⟨#[]⟩ ⟨#[]⟩ m [])) := by
  intro w h
  have HL := Lib.hid h.all
  have HS0 : Hid (PsAt κ ts P k (w.alloc zN)) := h.later ((Below.refl _ _).alloc (Nat.le_refl _) _)
  have HB0 : Hid (But P w (w.alloc zN)) := But.alloc P w _
  have HT0 := Lib.hid (NkAt.zero w)
  unfold zN at HS0 HB0 HT0
  have HQ := Lib.hid (quoted_num (tAt ts k).a (tAt ts k).o m (tAt ts k).x hm)
  clear hm
  clear h
  go_enter Tryz.func239, Tryz.ntmps239
  go_wp2_with fail
  generalize w.alloc _ = W0 at *
  generalize hTT : w.heap.size = T at *
  have HTT : Hid (w.heap.size ≤ T) := Nat.le_of_eq hTT
  clear hTT
  refine (token_x κ ts P k _ HS0.out (by omega)).mono ?_
  rintro e1 W1 ⟨rfl, hb1⟩
  have HS1 : Hid (PsAt κ ts P k W1) := HS0.out.later hb1
  have HB1 : Hid (But P w W1) := HB0.out.trans (But.of hb1)
  have HT1 := Lib.hid (HT0.out.below hb1)
  clear HS0 HB0 HT0 hb1
  rw [ht]
  have HY2 := Lib.hid (TkAt.new W1 (.int .i64 1) (.int .i64 (tAt ts k).a) (.string (tAt ts k).x) (.string ⟨#[]⟩) (.string ⟨#[]⟩) (.int .i64 (tAt ts k).o))
  have HGY : Hid (T < W1.heap.size) := HT1.out.lt
  have hb2 : Below W1.heap.size W1 (W1.alloc (.cells #[.int .i64 1, .int .i64 (tAt ts k).a, .string (tAt ts k).x, .string ⟨#[]⟩, .string ⟨#[]⟩, .int .i64 (tAt ts k).o] 101)) := (Below.refl _ _).alloc (Nat.le_refl _) _
  have HS2 : Hid (PsAt κ ts P k (W1.alloc (.cells #[.int .i64 1, .int .i64 (tAt ts k).a, .string (tAt ts k).x, .string ⟨#[]⟩, .string ⟨#[]⟩, .int .i64 (tAt ts k).o] 101))) := HS1.out.later hb2
  have HB2 : Hid (But P w (W1.alloc (.cells #[.int .i64 1, .int .i64 (tAt ts k).a, .string (tAt ts k).x, .string ⟨#[]⟩, .string ⟨#[]⟩, .int .i64 (tAt ts k).o] 101))) := HB1.out.trans (But.of hb2)
  have HT2 := Lib.hid (HT1.out.below hb2)
  clear HS1 HB1 HT1 hb2
  go_wp2_with fail
  generalize W1.alloc _ = W2 at *
  generalize W1.heap.size = Y at *
  refine (HQ.out _).mono ?_
  rintro e1 W3 ⟨rfl, hb3⟩
  have HS3 : Hid (PsAt κ ts P k W3) := HS2.out.later hb3
  have HB3 : Hid (But P w W3) := HB2.out.trans (But.of hb3)
  have HT3 := Lib.hid (HT2.out.below hb3)
  have HY3 := Lib.hid (HY2.out.later (hb3.block _ HY2.out.lt))
  clear HS2 HB2 HT2 HY2 hb3
  have hb4 : Below W3.heap.size W3 (W3.alloc (.cells #[.int .i64 1, .string ⟨#[]⟩, .string ⟨#[]⟩, .int .i64 m, .slice none 0 0] 28)) := (Below.refl _ _).alloc (Nat.le_refl _) _
  have HX4 := Lib.hid (NkAt.new W3 (.int .i64 1) (.string ⟨#[]⟩) (.string ⟨#[]⟩) (.int .i64 m) (.slice none 0 0))
  have HGX : Hid (T < W3.heap.size) := HT3.out.lt
  have HS4 : Hid (PsAt κ ts P k (W3.alloc (.cells #[.int .i64 1, .string ⟨#[]⟩, .string ⟨#[]⟩, .int .i64 m, .slice none 0 0] 28))) := HS3.out.later hb4
  have HB4 : Hid (But P w (W3.alloc (.cells #[.int .i64 1, .string ⟨#[]⟩, .string ⟨#[]⟩, .int .i64 m, .slice none 0 0] 28))) := HB3.out.trans (But.of hb4)
  have HT4 := Lib.hid (HT3.out.below hb4)
  have HY4 := Lib.hid (HY3.out.later (hb4.block _ HY3.out.lt))
  clear HS3 HB3 HT3 HY3 hb4
  obtain ⟨c0, c1, cz⟩ := HS4.out.cells
  have x2 : IntKind.i64.wrap ((k : Nat) + 1 : Int) = (k : Nat) + 1 := IntWalk.i64_in _ (by omega)
  have hb5 : But P (W3.alloc (.cells #[.int .i64 1, .string ⟨#[]⟩, .string ⟨#[]⟩, .int .i64 m, .slice none 0 0] 28)) ((W3.alloc (.cells #[.int .i64 1, .string ⟨#[]⟩, .string ⟨#[]⟩, .int .i64 m, .slice none 0 0] 28)).setCell ⟨P, 1, none⟩ (.int .i64 ((k : Nat) + 1 : Int))) := (But.refl P (W3.alloc (.cells #[.int .i64 1, .string ⟨#[]⟩, .string ⟨#[]⟩, .int .i64 m, .slice none 0 0] 28))).set 1 _
  have HS5 : Hid (PsAt κ ts P (k + 1) ((W3.alloc (.cells #[.int .i64 1, .string ⟨#[]⟩, .string ⟨#[]⟩, .int .i64 m, .slice none 0 0] 28)).setCell ⟨P, 1, none⟩ (.int .i64 ((k : Nat) + 1 : Int)))) := HS4.out.step (k + 1)
  have HB5 : Hid (But P w ((W3.alloc (.cells #[.int .i64 1, .string ⟨#[]⟩, .string ⟨#[]⟩, .int .i64 m, .slice none 0 0] 28)).setCell ⟨P, 1, none⟩ (.int .i64 ((k : Nat) + 1 : Int)))) := HB4.out.trans hb5
  have HT5 := Lib.hid (HT4.out.but hb5 HL.out.p)
  have HX5 := Lib.hid (HX4.out.but hb5 (by have := HL.out.p; have := HGX.out; omega))
  clear HB4 HT4 HX4 HS4 hb5
  obtain ⟨x0, x1, x2, x3, x4⟩ := HX5.out.cells
  obtain ⟨u0, u1, u2, u3, u4⟩ := HT5.out.cells
  have z0 := HT5.out.frozen 0
  have z1 := HT5.out.frozen 1
  have z2 := HT5.out.frozen 2
  have z3 := HT5.out.frozen 3
  have z4 := HT5.out.frozen 4
  go_wp2
  have HR := HT5.out.put (.int .i64 1) (.string ⟨#[]⟩) (.string ⟨#[]⟩) (.int .i64 m) (.slice none 0 0)
  obtain ⟨r0, r1, r2, r3, r4⟩ := HR.cells
  change bodyPost _ _ _ _ _ (ndW ((W3.alloc (.cells #[.int .i64 1, .string ⟨#[]⟩, .string ⟨#[]⟩, .int .i64 m, .slice none 0 0] 28)).setCell ⟨P, 1, none⟩ (.int .i64 ((k : Nat) + 1 : Int))) T (.int .i64 1) (.string ⟨#[]⟩) (.string ⟨#[]⟩) (.int .i64 m) (.slice none 0 0))
  refine bodyPost_ret (v := .tuple #[.agg #[.int .i64 1, .string ⟨#[]⟩, .string ⟨#[]⟩, .int .i64 m, .slice none 0 0], .int .i64 0]) ?_ rfl (OcT.of (fn_ret HTT.out HL.out HS5.out HB5.out (NdAt.leaf (fun g => T < g) _ _ _ _ _) (fun g h => h)))
  generalize ndW ((W3.alloc (.cells #[.int .i64 1, .string ⟨#[]⟩, .string ⟨#[]⟩, .int .i64 m, .slice none 0 0] 28)).setCell ⟨P, 1, none⟩ (.int .i64 ((k : Nat) + 1 : Int))) T (.int .i64 1) (.string ⟨#[]⟩) (.string ⟨#[]⟩) (.int .i64 m) (.slice none 0 0) = WZ at *
  simp [results, Tryz.results239, go_sem, r0, r1, r2, r3, r4]
set_option maxRecDepth 100000 in
set_option maxHeartbeats 8000000 in
theorem post_plain (κ : Pc) (ts : List Tt) (P k : Nat) (o : Oc) (hm : MtT κ ts P k 239 0 o) (hq : o.at fun j => j ≤ 1000 ∧ sgOf (tAt ts j) ⟨#[45, 62]⟩ = false) : Mt κ ts P k 236 o := by
  intro w h
  have HL := Lib.hid h.all
  have HS0 : Hid (PsAt κ ts P k (w.alloc zN)) := h.later ((Below.refl _ _).alloc (Nat.le_refl _) _)
  have HB0 : Hid (But P w (w.alloc zN)) := But.alloc P w _
  have HT0 := Lib.hid (NkAt.zero w)
  unfold zN at HS0 HB0 HT0
  have HM := Lib.hid hm
  clear hm
  clear h
  go_enter Tryz.func236, Tryz.ntmps236
  go_wp2_with fail
  generalize w.alloc _ = W0 at *
  generalize hTT : w.heap.size = T at *
  have HTT : Hid (w.heap.size ≤ T) := Nat.le_of_eq hTT
  clear hTT
  refine (HM.out _ HS0.out).mono ?_
  intro e1 W1 h1
  cases o with
  | bad m =>
    obtain ⟨rfl, hb1⟩ := h1
    have HBZ : Hid (But P w W1) := HB0.out.trans hb1
    clear hb1
    go_wp2
    exact ⟨rfl, rfl, HBZ.out⟩
  | ok j t =>
    obtain ⟨v, rfl, hn, hs1, hb1⟩ := h1
    cases hn with
    | @mk op s t' n l L hn =>
      obtain ⟨la, ln, lc, rfl⟩ := hn.val
      have HN_1 : Hid (NdAt (fun g => T < g) W1 (.mk op s t' n l) (.agg #[.int .i64 op, .string s, .string t', .int .i64 n, .slice la ln lc])) := .mk (hn.move fun g h1 h2 => ⟨rfl, Nat.lt_of_lt_of_le HT0.out.lt h1⟩)
      have HS1 := Lib.hid hs1
      have HB1 : Hid (But P w W1) := HB0.out.trans hb1
      have HT1 := Lib.hid (HT0.out.but hb1 HL.out.p)
      clear HB0 HT0 HS0 hn hs1 hb1 HM
      obtain ⟨hj, q0⟩ := hq
      have HX2 := Lib.hid (NkAt.new W1 (.int .i64 op) (.string s) (.string t') (.int .i64 n) (.slice la ln lc))
      have HGX : Hid (T < W1.heap.size) := HT1.out.lt
      have hb2 : Below W1.heap.size W1 (W1.alloc (.cells #[.int .i64 op, .string s, .string t', .int .i64 n, .slice la ln lc] 28)) := (Below.refl _ _).alloc (Nat.le_refl _) _
      have HS2 : Hid (PsAt κ ts P j (W1.alloc (.cells #[.int .i64 op, .string s, .string t', .int .i64 n, .slice la ln lc] 28))) := HS1.out.later hb2
      have HB2 : Hid (But P w (W1.alloc (.cells #[.int .i64 op, .string s, .string t', .int .i64 n, .slice la ln lc] 28))) := HB1.out.trans (But.of hb2)
      have HT2 := Lib.hid (HT1.out.below hb2)
      have HN_2 := Lib.hid (HN_1.out.move (S' := fun g => T < g) (w' := (W1.alloc (.cells #[.int .i64 op, .string s, .string t', .int .i64 n, .slice la ln lc] 28))) fun g h1 h2 => ⟨hb2.block g h2, h1⟩)
      clear HS1 HB1 HT1 HN_1 hb2
      go_wp2_with fail
      generalize W1.alloc _ = W2 at *
      generalize W1.heap.size = X at *
      go_loopw [4, 11] (fun b _ wr => b = .int .i64 0 ∧ wr = W2) (fun _ _ _ => 0)
      case atStart => exact ⟨rfl, rfl⟩
      case round =>
        obtain ⟨rfl, rfl⟩ := hrel
        go_wp2_with fail
        refine (sign_any κ ts P j _ HS2.out (by omega) _).mono ?_
        rintro e1 W3 ⟨rfl, hb3⟩
        have HS3 : Hid (PsAt κ ts P j W3) := HS2.out.later hb3
        have HB3 : Hid (But P w W3) := HB2.out.trans (But.of hb3)
        have HT3 := Lib.hid (HT2.out.below hb3)
        have HX3 := Lib.hid (HX2.out.below hb3)
        have HN_3 := Lib.hid (HN_2.out.move (S' := fun g => T < g) (w' := W3) fun g h1 h2 => ⟨hb3.block g h2, h1⟩)
        clear HS2 HB2 HT2 HX2 HN_2 hb3
        rw [q0]
        obtain ⟨x0, x1, x2, x3, x4⟩ := HX3.out.cells
        obtain ⟨u0, u1, u2, u3, u4⟩ := HT3.out.cells
        have z0 := HT3.out.frozen 0
        have z1 := HT3.out.frozen 1
        have z2 := HT3.out.frozen 2
        have z3 := HT3.out.frozen 3
        have z4 := HT3.out.frozen 4
        go_wp2
        have HR := HT3.out.put (.int .i64 op) (.string s) (.string t') (.int .i64 n) (.slice la ln lc)
        obtain ⟨r0, r1, r2, r3, r4⟩ := HR.cells
        change bodyPost _ _ _ _ _ (ndW W3 T (.int .i64 op) (.string s) (.string t') (.int .i64 n) (.slice la ln lc))
        refine bodyPost_ret (v := .agg #[.int .i64 op, .string s, .string t', .int .i64 n, .slice la ln lc]) ?_ rfl (fn_ret HTT.out HL.out HS3.out HB3.out HN_3.out (fun g h => h))
        generalize ndW W3 T (.int .i64 op) (.string s) (.string t') (.int .i64 n) (.slice la ln lc) = WZ at *
        simp [results, Tryz.results236, go_sem, r0, r1, r2, r3, r4]
set_option maxRecDepth 100000 in
set_option maxHeartbeats 8000000 in
theorem elementOf_plain (κ : Pc) (ts : List Tt) (P k : Nat) (x : ByteArray) (hk : k ≤ 1000) (q0 : sgOf (tAt ts k) ⟨#[91]⟩ = false) (q1 : opOf (tAt ts k) 2 = false) (w : World) (h : PsAt κ ts P k w) : Calls Tryz.prog 249 #[.pointer (some ⟨P, 0, none⟩), .agg #[.int .i64 5, .string x, .string ⟨#[]⟩, .int .i64 0, .slice none 0 0], .agg #[.int .i64 6, .string x, .string ⟨#[]⟩, .int .i64 0, .slice none 0 0], .agg #[.int .i64 7, .string x, .string ⟨#[]⟩, .int .i64 0, .slice none 0 0]] w (OcT κ ts P 0 (.ok k (.mk 5 x ⟨#[]⟩ 0 [])) w) := by
  have hb0 : Below w.heap.size w ((((w.alloc (.cells #[.int .i64 5, .string x, .string ⟨#[]⟩, .int .i64 0, .slice none 0 0] 28)).alloc (.cells #[.int .i64 6, .string x, .string ⟨#[]⟩, .int .i64 0, .slice none 0 0] 28)).alloc (.cells #[.int .i64 7, .string x, .string ⟨#[]⟩, .int .i64 0, .slice none 0 0] 28)).alloc zN) := ((((Below.refl _ _).alloc (Nat.le_refl _) _).alloc (by simp) _).alloc (by simp; omega) _).alloc (by simp; omega) _
  have HL0 := h.all
  have HL : Hid (PcLt κ P (w.heap.size + 1 + 1 + 1)) := ⟨by have := HL0.p; omega, by have := HL0.g; omega, fun n hn => by have := HL0.m n hn; omega⟩
  have HTT : Hid (w.heap.size ≤ w.heap.size + 1 + 1 + 1) := by show _ ≤ _; omega
  have HS0 : Hid (PsAt κ ts P k ((((w.alloc (.cells #[.int .i64 5, .string x, .string ⟨#[]⟩, .int .i64 0, .slice none 0 0] 28)).alloc (.cells #[.int .i64 6, .string x, .string ⟨#[]⟩, .int .i64 0, .slice none 0 0] 28)).alloc (.cells #[.int .i64 7, .string x, .string ⟨#[]⟩, .int .i64 0, .slice none 0 0] 28)).alloc zN)) := h.later hb0
  have HB0 : Hid (But P w ((((w.alloc (.cells #[.int .i64 5, .string x, .string ⟨#[]⟩, .int .i64 0, .slice none 0 0] 28)).alloc (.cells #[.int .i64 6, .string x, .string ⟨#[]⟩, .int .i64 0, .slice none 0 0] 28)).alloc (.cells #[.int .i64 7, .string x, .string ⟨#[]⟩, .int .i64 0, .slice none 0 0] 28)).alloc zN)) := But.of hb0
  have HA0 : Hid (NkAt w.heap.size (.int .i64 5) (.string x) (.string ⟨#[]⟩) (.int .i64 0) (.slice none 0 0) ((((w.alloc (.cells #[.int .i64 5, .string x, .string ⟨#[]⟩, .int .i64 0, .slice none 0 0] 28)).alloc (.cells #[.int .i64 6, .string x, .string ⟨#[]⟩, .int .i64 0, .slice none 0 0] 28)).alloc (.cells #[.int .i64 7, .string x, .string ⟨#[]⟩, .int .i64 0, .slice none 0 0] 28)).alloc zN)) := (((NkAt.new w (.int .i64 5) (.string x) (.string ⟨#[]⟩) (.int .i64 0) (.slice none 0 0)).below ((Below.refl _ _).alloc (Nat.le_refl _) _)).below ((Below.refl _ _).alloc (Nat.le_refl _) _)).below ((Below.refl _ _).alloc (Nat.le_refl _) _)
  have HT0 : Hid (NkAt (w.heap.size + 1 + 1 + 1) (.int .i64 0) (.string ⟨#[]⟩) (.string ⟨#[]⟩) (.int .i64 0) (.slice none 0 0) ((((w.alloc (.cells #[.int .i64 5, .string x, .string ⟨#[]⟩, .int .i64 0, .slice none 0 0] 28)).alloc (.cells #[.int .i64 6, .string x, .string ⟨#[]⟩, .int .i64 0, .slice none 0 0] 28)).alloc (.cells #[.int .i64 7, .string x, .string ⟨#[]⟩, .int .i64 0, .slice none 0 0] 28)).alloc zN)) := by
    have := NkAt.zero (((w.alloc (.cells #[.int .i64 5, .string x, .string ⟨#[]⟩, .int .i64 0, .slice none 0 0] 28)).alloc (.cells #[.int .i64 6, .string x, .string ⟨#[]⟩, .int .i64 0, .slice none 0 0] 28)).alloc (.cells #[.int .i64 7, .string x, .string ⟨#[]⟩, .int .i64 0, .slice none 0 0] 28))
    rwa [show (((w.alloc (.cells #[.int .i64 5, .string x, .string ⟨#[]⟩, .int .i64 0, .slice none 0 0] 28)).alloc (.cells #[.int .i64 6, .string x, .string ⟨#[]⟩, .int .i64 0, .slice none 0 0] 28)).alloc (.cells #[.int .i64 7, .string x, .string ⟨#[]⟩, .int .i64 0, .slice none 0 0] 28)).heap.size = w.heap.size + 1 + 1 + 1 by simp] at this
  unfold zN at HS0 HB0 HA0 HT0
  clear h hb0 HL0
  go_enter Tryz.func249, Tryz.ntmps249
  go_wp2_with fail
  generalize (((w.alloc _).alloc _).alloc _).alloc _ = W0 at *
  generalize w.heap.size + 1 + 1 + 1 = T at *
  refine (sign_any κ ts P k _ HS0.out (by omega) _).mono ?_
  rintro e1 W1 ⟨rfl, hb1⟩
  have HS1 : Hid (PsAt κ ts P k W1) := HS0.out.later hb1
  have HB1 : Hid (But P w W1) := HB0.out.trans (But.of hb1)
  have HT1 := Lib.hid (HT0.out.below hb1)
  have HA1 := Lib.hid (HA0.out.below hb1)
  clear HS0 HB0 HT0 HA0 hb1
  rw [q0]
  go_wp2_with fail
  refine (opens_any κ ts P k _ HS1.out (by omega) _).mono ?_
  rintro e1 W2 ⟨rfl, hb2⟩
  have HS2 : Hid (PsAt κ ts P k W2) := HS1.out.later hb2
  have HB2 : Hid (But P w W2) := HB1.out.trans (But.of hb2)
  have HT2 := Lib.hid (HT1.out.below hb2)
  have HA2 := Lib.hid (HA1.out.below hb2)
  clear HS1 HB1 HT1 HA1 hb2
  rw [q1]
  obtain ⟨a0, a1, a2, a3, a4⟩ := HA2.out.cells
  obtain ⟨u0, u1, u2, u3, u4⟩ := HT2.out.cells
  have z0 := HT2.out.frozen 0
  have z1 := HT2.out.frozen 1
  have z2 := HT2.out.frozen 2
  have z3 := HT2.out.frozen 3
  have z4 := HT2.out.frozen 4
  go_wp2
  have HR := HT2.out.put (.int .i64 5) (.string x) (.string ⟨#[]⟩) (.int .i64 0) (.slice none 0 0)
  obtain ⟨r0, r1, r2, r3, r4⟩ := HR.cells
  change bodyPost _ _ _ _ _ (ndW W2 T (.int .i64 5) (.string x) (.string ⟨#[]⟩) (.int .i64 0) (.slice none 0 0))
  refine bodyPost_ret (v := .tuple #[.agg #[.int .i64 5, .string x, .string ⟨#[]⟩, .int .i64 0, .slice none 0 0], .int .i64 0]) ?_ rfl (OcT.of (fn_ret HTT.out HL.out HS2.out HB2.out (NdAt.leaf (fun g => T < g) _ _ _ _ _) (fun g h => h)))
  generalize ndW W2 T (.int .i64 5) (.string x) (.string ⟨#[]⟩) (.int .i64 0) (.slice none 0 0) = WZ at *
  simp [results, Tryz.results249, go_sem, r0, r1, r2, r3, r4]
set_option maxRecDepth 100000 in
set_option maxHeartbeats 8000000 in
theorem sliceOf_plain (κ : Pc) (ts : List Tt) (P k : Nat) (x : ByteArray) (hk : k ≤ 1000) (q0 : sgOf (tAt ts k) ⟨#[91]⟩ = false) (q1 : opOf (tAt ts k) 2 = false) (w : World) (h : PsAt κ ts P k w) : Calls Tryz.prog 250 #[.pointer (some ⟨P, 0, none⟩), .agg #[.int .i64 6, .string x, .string ⟨#[]⟩, .int .i64 0, .slice none 0 0], .agg #[.int .i64 6, .string x, .string ⟨#[]⟩, .int .i64 0, .slice none 0 0], .agg #[.int .i64 7, .string x, .string ⟨#[]⟩, .int .i64 0, .slice none 0 0]] w (OcP κ ts P (.ok k (.mk 6 x ⟨#[]⟩ 0 [])) w) := by
  have hb0 : Below w.heap.size w ((((w.alloc (.cells #[.int .i64 6, .string x, .string ⟨#[]⟩, .int .i64 0, .slice none 0 0] 28)).alloc (.cells #[.int .i64 6, .string x, .string ⟨#[]⟩, .int .i64 0, .slice none 0 0] 28)).alloc (.cells #[.int .i64 7, .string x, .string ⟨#[]⟩, .int .i64 0, .slice none 0 0] 28)).alloc zN) := ((((Below.refl _ _).alloc (Nat.le_refl _) _).alloc (by simp) _).alloc (by simp; omega) _).alloc (by simp; omega) _
  have HL0 := h.all
  have HL : Hid (PcLt κ P (w.heap.size + 1 + 1 + 1)) := ⟨by have := HL0.p; omega, by have := HL0.g; omega, fun n hn => by have := HL0.m n hn; omega⟩
  have HTT : Hid (w.heap.size ≤ w.heap.size + 1 + 1 + 1) := by show _ ≤ _; omega
  have HS0 : Hid (PsAt κ ts P k ((((w.alloc (.cells #[.int .i64 6, .string x, .string ⟨#[]⟩, .int .i64 0, .slice none 0 0] 28)).alloc (.cells #[.int .i64 6, .string x, .string ⟨#[]⟩, .int .i64 0, .slice none 0 0] 28)).alloc (.cells #[.int .i64 7, .string x, .string ⟨#[]⟩, .int .i64 0, .slice none 0 0] 28)).alloc zN)) := h.later hb0
  have HB0 : Hid (But P w ((((w.alloc (.cells #[.int .i64 6, .string x, .string ⟨#[]⟩, .int .i64 0, .slice none 0 0] 28)).alloc (.cells #[.int .i64 6, .string x, .string ⟨#[]⟩, .int .i64 0, .slice none 0 0] 28)).alloc (.cells #[.int .i64 7, .string x, .string ⟨#[]⟩, .int .i64 0, .slice none 0 0] 28)).alloc zN)) := But.of hb0
  have HA0 : Hid (NkAt w.heap.size (.int .i64 6) (.string x) (.string ⟨#[]⟩) (.int .i64 0) (.slice none 0 0) ((((w.alloc (.cells #[.int .i64 6, .string x, .string ⟨#[]⟩, .int .i64 0, .slice none 0 0] 28)).alloc (.cells #[.int .i64 6, .string x, .string ⟨#[]⟩, .int .i64 0, .slice none 0 0] 28)).alloc (.cells #[.int .i64 7, .string x, .string ⟨#[]⟩, .int .i64 0, .slice none 0 0] 28)).alloc zN)) := (((NkAt.new w (.int .i64 6) (.string x) (.string ⟨#[]⟩) (.int .i64 0) (.slice none 0 0)).below ((Below.refl _ _).alloc (Nat.le_refl _) _)).below ((Below.refl _ _).alloc (Nat.le_refl _) _)).below ((Below.refl _ _).alloc (Nat.le_refl _) _)
  have HT0 : Hid (NkAt (w.heap.size + 1 + 1 + 1) (.int .i64 0) (.string ⟨#[]⟩) (.string ⟨#[]⟩) (.int .i64 0) (.slice none 0 0) ((((w.alloc (.cells #[.int .i64 6, .string x, .string ⟨#[]⟩, .int .i64 0, .slice none 0 0] 28)).alloc (.cells #[.int .i64 6, .string x, .string ⟨#[]⟩, .int .i64 0, .slice none 0 0] 28)).alloc (.cells #[.int .i64 7, .string x, .string ⟨#[]⟩, .int .i64 0, .slice none 0 0] 28)).alloc zN)) := by
    have := NkAt.zero (((w.alloc (.cells #[.int .i64 6, .string x, .string ⟨#[]⟩, .int .i64 0, .slice none 0 0] 28)).alloc (.cells #[.int .i64 6, .string x, .string ⟨#[]⟩, .int .i64 0, .slice none 0 0] 28)).alloc (.cells #[.int .i64 7, .string x, .string ⟨#[]⟩, .int .i64 0, .slice none 0 0] 28))
    rwa [show (((w.alloc (.cells #[.int .i64 6, .string x, .string ⟨#[]⟩, .int .i64 0, .slice none 0 0] 28)).alloc (.cells #[.int .i64 6, .string x, .string ⟨#[]⟩, .int .i64 0, .slice none 0 0] 28)).alloc (.cells #[.int .i64 7, .string x, .string ⟨#[]⟩, .int .i64 0, .slice none 0 0] 28)).heap.size = w.heap.size + 1 + 1 + 1 by simp] at this
  unfold zN at HS0 HB0 HA0 HT0
  clear h hb0 HL0
  go_enter Tryz.func250, Tryz.ntmps250
  go_wp2_with fail
  generalize (((w.alloc _).alloc _).alloc _).alloc _ = W0 at *
  generalize w.heap.size + 1 + 1 + 1 = T at *
  refine (sign_any κ ts P k _ HS0.out (by omega) _).mono ?_
  rintro e1 W1 ⟨rfl, hb1⟩
  have HS1 : Hid (PsAt κ ts P k W1) := HS0.out.later hb1
  have HB1 : Hid (But P w W1) := HB0.out.trans (But.of hb1)
  have HT1 := Lib.hid (HT0.out.below hb1)
  have HA1 := Lib.hid (HA0.out.below hb1)
  clear HS0 HB0 HT0 HA0 hb1
  rw [q0]
  go_wp2_with fail
  refine (opens_any κ ts P k _ HS1.out (by omega) _).mono ?_
  rintro e1 W2 ⟨rfl, hb2⟩
  have HS2 : Hid (PsAt κ ts P k W2) := HS1.out.later hb2
  have HB2 : Hid (But P w W2) := HB1.out.trans (But.of hb2)
  have HT2 := Lib.hid (HT1.out.below hb2)
  have HA2 := Lib.hid (HA1.out.below hb2)
  clear HS1 HB1 HT1 HA1 hb2
  rw [q1]
  obtain ⟨a0, a1, a2, a3, a4⟩ := HA2.out.cells
  obtain ⟨u0, u1, u2, u3, u4⟩ := HT2.out.cells
  have z0 := HT2.out.frozen 0
  have z1 := HT2.out.frozen 1
  have z2 := HT2.out.frozen 2
  have z3 := HT2.out.frozen 3
  have z4 := HT2.out.frozen 4
  go_wp2
  have HR := HT2.out.put (.int .i64 6) (.string x) (.string ⟨#[]⟩) (.int .i64 0) (.slice none 0 0)
  obtain ⟨r0, r1, r2, r3, r4⟩ := HR.cells
  change bodyPost _ _ _ _ _ (ndW W2 T (.int .i64 6) (.string x) (.string ⟨#[]⟩) (.int .i64 0) (.slice none 0 0))
  refine bodyPost_ret (v := .agg #[.int .i64 6, .string x, .string ⟨#[]⟩, .int .i64 0, .slice none 0 0]) ?_ rfl (fn_ret HTT.out HL.out HS2.out HB2.out (NdAt.leaf (fun g => T < g) _ _ _ _ _) (fun g h => h))
  generalize ndW W2 T (.int .i64 6) (.string x) (.string ⟨#[]⟩) (.int .i64 0) (.slice none 0 0) = WZ at *
  simp [results, Tryz.results250, go_sem, r0, r1, r2, r3, r4]

end Go.Proofs.YtaocbhfehncdcaaGreatDoor

namespace Go.Proofs.YtaocbhfehncdcaaGreatDoor
open Go.RowKit

set_option maxRecDepth 100000 in
set_option maxHeartbeats 8000000 in
theorem var_x (κ : Pc) (ts : List Tt) (P k : Nat) (a : Int) (hk : k ≤ 900) (ht : tAt ts k = ⟨2, a, ⟨#[36, 120]⟩, 0⟩) (q0 : sgOf (tAt ts (k + 1)) ⟨#[91]⟩ = false) (q1 : opOf (tAt ts (k + 1)) 2 = false) : MtT κ ts P k 244 0 (.ok (k + 1) (.mk 5 ⟨#[120]⟩ ⟨#[]⟩ 0 [])) := by
  intro w h
  have HL := Lib.hid h.all
  have HS0 : Hid (PsAt κ ts P k (w.alloc zN)) := h.later ((Below.refl _ _).alloc (Nat.le_refl _) _)
  have HB0 : Hid (But P w (w.alloc zN)) := But.alloc P w _
  have HT0 := Lib.hid (NkAt.zero w)
  unfold zN at HS0 HB0 HT0
  have hx : (ByteArray.mk #[36, 120]).extract 1 2 = ⟨#[120]⟩ := by decide
  have x2 : IntKind.i64.wrap ((k : Nat) + 1 : Int) = (k : Nat) + 1 := IntWalk.i64_in _ (by omega)
  have HW : Hid (∀ w, Calls Tryz.prog 21 #[.string ⟨#[120]⟩] w (BoS true w)) := fun w => by
    have := IsWord_any ⟨#[120]⟩ w (by decide)
    rwa [show isW (ByteArray.mk #[120]).data.toList = true by decide] at this
  clear h
  go_enter Tryz.func244, Tryz.ntmps244
  go_wp2_with fail
  generalize w.alloc _ = W0 at *
  generalize hTT : w.heap.size = T at *
  have HTT : Hid (w.heap.size ≤ T) := Nat.le_of_eq hTT
  clear hTT
  refine (token_x κ ts P k _ HS0.out (by omega)).mono ?_
  rw [ht]
  rintro e1 W1 ⟨rfl, hb1⟩
  have HS1 : Hid (PsAt κ ts P k W1) := HS0.out.later hb1
  have HB1 : Hid (But P w W1) := HB0.out.trans (But.of hb1)
  have HT1 := Lib.hid (HT0.out.below hb1)
  clear HS0 HB0 HT0 hb1
  clear ht
  have hb2 : Below W1.heap.size W1 (W1.alloc (.cells #[.int .i64 2, .int .i64 a, .string ⟨#[36, 120]⟩, .string ⟨#[]⟩, .string ⟨#[]⟩, .int .i64 0] 101)) := (Below.refl _ _).alloc (Nat.le_refl _) _
  have HS2 : Hid (PsAt κ ts P k (W1.alloc (.cells #[.int .i64 2, .int .i64 a, .string ⟨#[36, 120]⟩, .string ⟨#[]⟩, .string ⟨#[]⟩, .int .i64 0] 101))) := HS1.out.later hb2
  have HB2 : Hid (But P w (W1.alloc (.cells #[.int .i64 2, .int .i64 a, .string ⟨#[36, 120]⟩, .string ⟨#[]⟩, .string ⟨#[]⟩, .int .i64 0] 101))) := HB1.out.trans (But.of hb2)
  have HT2 := Lib.hid (HT1.out.below hb2)
  clear HS1 HB1 HT1 hb2
  obtain ⟨c0, c1, cz⟩ := HS2.out.cells
  have hb3 : But P (W1.alloc (.cells #[.int .i64 2, .int .i64 a, .string ⟨#[36, 120]⟩, .string ⟨#[]⟩, .string ⟨#[]⟩, .int .i64 0] 101)) ((W1.alloc (.cells #[.int .i64 2, .int .i64 a, .string ⟨#[36, 120]⟩, .string ⟨#[]⟩, .string ⟨#[]⟩, .int .i64 0] 101)).setCell ⟨P, 1, none⟩ (.int .i64 ((k : Nat) + 1 : Int))) := (But.refl P _).set 1 _
  have HS3 : Hid (PsAt κ ts P (k + 1) ((W1.alloc (.cells #[.int .i64 2, .int .i64 a, .string ⟨#[36, 120]⟩, .string ⟨#[]⟩, .string ⟨#[]⟩, .int .i64 0] 101)).setCell ⟨P, 1, none⟩ (.int .i64 ((k : Nat) + 1 : Int)))) := HS2.out.step (k + 1)
  have HB3 : Hid (But P w ((W1.alloc (.cells #[.int .i64 2, .int .i64 a, .string ⟨#[36, 120]⟩, .string ⟨#[]⟩, .string ⟨#[]⟩, .int .i64 0] 101)).setCell ⟨P, 1, none⟩ (.int .i64 ((k : Nat) + 1 : Int)))) := HB2.out.trans hb3
  have HT3 := Lib.hid (HT2.out.but hb3 HL.out.p)
  clear HB2 HT2 HS2 hb3
  have hb4 : Below ((W1.alloc (.cells #[.int .i64 2, .int .i64 a, .string ⟨#[36, 120]⟩, .string ⟨#[]⟩, .string ⟨#[]⟩, .int .i64 0] 101)).setCell ⟨P, 1, none⟩ (.int .i64 ((k : Nat) + 1 : Int))).heap.size ((W1.alloc (.cells #[.int .i64 2, .int .i64 a, .string ⟨#[36, 120]⟩, .string ⟨#[]⟩, .string ⟨#[]⟩, .int .i64 0] 101)).setCell ⟨P, 1, none⟩ (.int .i64 ((k : Nat) + 1 : Int))) (((W1.alloc (.cells #[.int .i64 2, .int .i64 a, .string ⟨#[36, 120]⟩, .string ⟨#[]⟩, .string ⟨#[]⟩, .int .i64 0] 101)).setCell ⟨P, 1, none⟩ (.int .i64 ((k : Nat) + 1 : Int))).alloc (.cells #[.int .i64 5, .string ⟨#[120]⟩, .string ⟨#[]⟩, .int .i64 0, .slice none 0 0] 28)) := (Below.refl _ _).alloc (Nat.le_refl _) _
  have HS4 : Hid (PsAt κ ts P (k + 1) (((W1.alloc (.cells #[.int .i64 2, .int .i64 a, .string ⟨#[36, 120]⟩, .string ⟨#[]⟩, .string ⟨#[]⟩, .int .i64 0] 101)).setCell ⟨P, 1, none⟩ (.int .i64 ((k : Nat) + 1 : Int))).alloc (.cells #[.int .i64 5, .string ⟨#[120]⟩, .string ⟨#[]⟩, .int .i64 0, .slice none 0 0] 28))) := HS3.out.later hb4
  have HB4 : Hid (But P w (((W1.alloc (.cells #[.int .i64 2, .int .i64 a, .string ⟨#[36, 120]⟩, .string ⟨#[]⟩, .string ⟨#[]⟩, .int .i64 0] 101)).setCell ⟨P, 1, none⟩ (.int .i64 ((k : Nat) + 1 : Int))).alloc (.cells #[.int .i64 5, .string ⟨#[120]⟩, .string ⟨#[]⟩, .int .i64 0, .slice none 0 0] 28))) := HB3.out.trans (But.of hb4)
  have HT4 := Lib.hid (HT3.out.below hb4)
  clear HS3 HB3 HT3 hb4
  have hb5 : Below (((W1.alloc (.cells #[.int .i64 2, .int .i64 a, .string ⟨#[36, 120]⟩, .string ⟨#[]⟩, .string ⟨#[]⟩, .int .i64 0] 101)).setCell ⟨P, 1, none⟩ (.int .i64 ((k : Nat) + 1 : Int))).alloc (.cells #[.int .i64 5, .string ⟨#[120]⟩, .string ⟨#[]⟩, .int .i64 0, .slice none 0 0] 28)).heap.size (((W1.alloc (.cells #[.int .i64 2, .int .i64 a, .string ⟨#[36, 120]⟩, .string ⟨#[]⟩, .string ⟨#[]⟩, .int .i64 0] 101)).setCell ⟨P, 1, none⟩ (.int .i64 ((k : Nat) + 1 : Int))).alloc (.cells #[.int .i64 5, .string ⟨#[120]⟩, .string ⟨#[]⟩, .int .i64 0, .slice none 0 0] 28)) ((((W1.alloc (.cells #[.int .i64 2, .int .i64 a, .string ⟨#[36, 120]⟩, .string ⟨#[]⟩, .string ⟨#[]⟩, .int .i64 0] 101)).setCell ⟨P, 1, none⟩ (.int .i64 ((k : Nat) + 1 : Int))).alloc (.cells #[.int .i64 5, .string ⟨#[120]⟩, .string ⟨#[]⟩, .int .i64 0, .slice none 0 0] 28)).alloc (.cells #[.int .i64 6, .string ⟨#[120]⟩, .string ⟨#[]⟩, .int .i64 0, .slice none 0 0] 28)) := (Below.refl _ _).alloc (Nat.le_refl _) _
  have HS5 : Hid (PsAt κ ts P (k + 1) ((((W1.alloc (.cells #[.int .i64 2, .int .i64 a, .string ⟨#[36, 120]⟩, .string ⟨#[]⟩, .string ⟨#[]⟩, .int .i64 0] 101)).setCell ⟨P, 1, none⟩ (.int .i64 ((k : Nat) + 1 : Int))).alloc (.cells #[.int .i64 5, .string ⟨#[120]⟩, .string ⟨#[]⟩, .int .i64 0, .slice none 0 0] 28)).alloc (.cells #[.int .i64 6, .string ⟨#[120]⟩, .string ⟨#[]⟩, .int .i64 0, .slice none 0 0] 28))) := HS4.out.later hb5
  have HB5 : Hid (But P w ((((W1.alloc (.cells #[.int .i64 2, .int .i64 a, .string ⟨#[36, 120]⟩, .string ⟨#[]⟩, .string ⟨#[]⟩, .int .i64 0] 101)).setCell ⟨P, 1, none⟩ (.int .i64 ((k : Nat) + 1 : Int))).alloc (.cells #[.int .i64 5, .string ⟨#[120]⟩, .string ⟨#[]⟩, .int .i64 0, .slice none 0 0] 28)).alloc (.cells #[.int .i64 6, .string ⟨#[120]⟩, .string ⟨#[]⟩, .int .i64 0, .slice none 0 0] 28))) := HB4.out.trans (But.of hb5)
  have HT5 := Lib.hid (HT4.out.below hb5)
  clear HS4 HB4 HT4 hb5
  have hb6 : Below ((((W1.alloc (.cells #[.int .i64 2, .int .i64 a, .string ⟨#[36, 120]⟩, .string ⟨#[]⟩, .string ⟨#[]⟩, .int .i64 0] 101)).setCell ⟨P, 1, none⟩ (.int .i64 ((k : Nat) + 1 : Int))).alloc (.cells #[.int .i64 5, .string ⟨#[120]⟩, .string ⟨#[]⟩, .int .i64 0, .slice none 0 0] 28)).alloc (.cells #[.int .i64 6, .string ⟨#[120]⟩, .string ⟨#[]⟩, .int .i64 0, .slice none 0 0] 28)).heap.size ((((W1.alloc (.cells #[.int .i64 2, .int .i64 a, .string ⟨#[36, 120]⟩, .string ⟨#[]⟩, .string ⟨#[]⟩, .int .i64 0] 101)).setCell ⟨P, 1, none⟩ (.int .i64 ((k : Nat) + 1 : Int))).alloc (.cells #[.int .i64 5, .string ⟨#[120]⟩, .string ⟨#[]⟩, .int .i64 0, .slice none 0 0] 28)).alloc (.cells #[.int .i64 6, .string ⟨#[120]⟩, .string ⟨#[]⟩, .int .i64 0, .slice none 0 0] 28)) (((((W1.alloc (.cells #[.int .i64 2, .int .i64 a, .string ⟨#[36, 120]⟩, .string ⟨#[]⟩, .string ⟨#[]⟩, .int .i64 0] 101)).setCell ⟨P, 1, none⟩ (.int .i64 ((k : Nat) + 1 : Int))).alloc (.cells #[.int .i64 5, .string ⟨#[120]⟩, .string ⟨#[]⟩, .int .i64 0, .slice none 0 0] 28)).alloc (.cells #[.int .i64 6, .string ⟨#[120]⟩, .string ⟨#[]⟩, .int .i64 0, .slice none 0 0] 28)).alloc (.cells #[.int .i64 7, .string ⟨#[120]⟩, .string ⟨#[]⟩, .int .i64 0, .slice none 0 0] 28)) := (Below.refl _ _).alloc (Nat.le_refl _) _
  have HS6 : Hid (PsAt κ ts P (k + 1) (((((W1.alloc (.cells #[.int .i64 2, .int .i64 a, .string ⟨#[36, 120]⟩, .string ⟨#[]⟩, .string ⟨#[]⟩, .int .i64 0] 101)).setCell ⟨P, 1, none⟩ (.int .i64 ((k : Nat) + 1 : Int))).alloc (.cells #[.int .i64 5, .string ⟨#[120]⟩, .string ⟨#[]⟩, .int .i64 0, .slice none 0 0] 28)).alloc (.cells #[.int .i64 6, .string ⟨#[120]⟩, .string ⟨#[]⟩, .int .i64 0, .slice none 0 0] 28)).alloc (.cells #[.int .i64 7, .string ⟨#[120]⟩, .string ⟨#[]⟩, .int .i64 0, .slice none 0 0] 28))) := HS5.out.later hb6
  have HB6 : Hid (But P w (((((W1.alloc (.cells #[.int .i64 2, .int .i64 a, .string ⟨#[36, 120]⟩, .string ⟨#[]⟩, .string ⟨#[]⟩, .int .i64 0] 101)).setCell ⟨P, 1, none⟩ (.int .i64 ((k : Nat) + 1 : Int))).alloc (.cells #[.int .i64 5, .string ⟨#[120]⟩, .string ⟨#[]⟩, .int .i64 0, .slice none 0 0] 28)).alloc (.cells #[.int .i64 6, .string ⟨#[120]⟩, .string ⟨#[]⟩, .int .i64 0, .slice none 0 0] 28)).alloc (.cells #[.int .i64 7, .string ⟨#[120]⟩, .string ⟨#[]⟩, .int .i64 0, .slice none 0 0] 28))) := HB5.out.trans (But.of hb6)
  have HT6 := Lib.hid (HT5.out.below hb6)
  clear HS5 HB5 HT5 hb6
  go_wp2_with fail
  refine (HW.out _).mono ?_
  rintro e1 wx ⟨rfl, rfl⟩
  go_wp2_with fail
  clear c0 c1 cz
  refine (elementOf_plain κ ts P (k + 1) ⟨#[120]⟩ (by omega) q0 q1 _ HS6.out).mono ?_
  rintro e1 W7 ⟨v, rfl, hn, hs7, hb7⟩
  cases hn with
  | @mk op s t' n l L hn =>
    obtain ⟨la, ln, lc, rfl⟩ := hn.val
    have HN_7 : Hid (NdAt (fun g => T < g) W7 _ (.agg #[.int .i64 5, .string ⟨#[120]⟩, .string ⟨#[]⟩, .int .i64 0, .slice la ln lc])) := .mk (hn.move fun g h1 h2 => ⟨rfl, Nat.lt_of_lt_of_le HT6.out.lt h1⟩)
    have HS7 := Lib.hid hs7
    have HB7 : Hid (But P w W7) := HB6.out.trans hb7
    have HT7 := Lib.hid (HT6.out.but hb7 HL.out.p)
    clear HB6 HT6 HS6 hn hs7 hb7
    obtain ⟨u0, u1, u2, u3, u4⟩ := HT7.out.cells
    have z0 := HT7.out.frozen 0
    have z1 := HT7.out.frozen 1
    have z2 := HT7.out.frozen 2
    have z3 := HT7.out.frozen 3
    have z4 := HT7.out.frozen 4
    go_wp2
    have HR := HT7.out.put (.int .i64 5) (.string ⟨#[120]⟩) (.string ⟨#[]⟩) (.int .i64 0) (.slice la ln lc)
    obtain ⟨r0, r1, r2, r3, r4⟩ := HR.cells
    change bodyPost _ _ _ _ _ (ndW W7 T (.int .i64 5) (.string ⟨#[120]⟩) (.string ⟨#[]⟩) (.int .i64 0) (.slice la ln lc))
    refine bodyPost_ret (v := .tuple #[.agg #[.int .i64 5, .string ⟨#[120]⟩, .string ⟨#[]⟩, .int .i64 0, .slice la ln lc], .int .i64 0]) ?_ rfl (OcT.of (fn_ret HTT.out HL.out HS7.out HB7.out HN_7.out (fun g h => h)))
    generalize ndW W7 T (.int .i64 5) (.string ⟨#[120]⟩) (.string ⟨#[]⟩) (.int .i64 0) (.slice la ln lc) = WZ at *
    simp [results, Tryz.results244, go_sem, r0, r1, r2, r3, r4]
set_option maxRecDepth 100000 in
set_option maxHeartbeats 8000000 in
theorem var_u (κ : Pc) (ts : List Tt) (P k : Nat) (a : Int) (hk : k ≤ 900) (ht : tAt ts k = ⟨2, a, ⟨#[64, 95]⟩, 0⟩) (q0 : sgOf (tAt ts (k + 1)) ⟨#[91]⟩ = false) (q1 : opOf (tAt ts (k + 1)) 2 = false) : MtT κ ts P k 244 0 (.ok (k + 1) (.mk 6 ⟨#[95]⟩ ⟨#[]⟩ 0 [])) := by
  intro w h
  have HL := Lib.hid h.all
  have HS0 : Hid (PsAt κ ts P k (w.alloc zN)) := h.later ((Below.refl _ _).alloc (Nat.le_refl _) _)
  have HB0 : Hid (But P w (w.alloc zN)) := But.alloc P w _
  have HT0 := Lib.hid (NkAt.zero w)
  unfold zN at HS0 HB0 HT0
  have hx : (ByteArray.mk #[64, 95]).extract 1 2 = ⟨#[95]⟩ := by decide
  have x2 : IntKind.i64.wrap ((k : Nat) + 1 : Int) = (k : Nat) + 1 := IntWalk.i64_in _ (by omega)
  clear h
  go_enter Tryz.func244, Tryz.ntmps244
  go_wp2_with fail
  generalize w.alloc _ = W0 at *
  generalize hTT : w.heap.size = T at *
  have HTT : Hid (w.heap.size ≤ T) := Nat.le_of_eq hTT
  clear hTT
  refine (token_x κ ts P k _ HS0.out (by omega)).mono ?_
  rw [ht]
  rintro e1 W1 ⟨rfl, hb1⟩
  have HS1 : Hid (PsAt κ ts P k W1) := HS0.out.later hb1
  have HB1 : Hid (But P w W1) := HB0.out.trans (But.of hb1)
  have HT1 := Lib.hid (HT0.out.below hb1)
  clear HS0 HB0 HT0 hb1
  clear ht
  have hb2 : Below W1.heap.size W1 (W1.alloc (.cells #[.int .i64 2, .int .i64 a, .string ⟨#[64, 95]⟩, .string ⟨#[]⟩, .string ⟨#[]⟩, .int .i64 0] 101)) := (Below.refl _ _).alloc (Nat.le_refl _) _
  have HS2 : Hid (PsAt κ ts P k (W1.alloc (.cells #[.int .i64 2, .int .i64 a, .string ⟨#[64, 95]⟩, .string ⟨#[]⟩, .string ⟨#[]⟩, .int .i64 0] 101))) := HS1.out.later hb2
  have HB2 : Hid (But P w (W1.alloc (.cells #[.int .i64 2, .int .i64 a, .string ⟨#[64, 95]⟩, .string ⟨#[]⟩, .string ⟨#[]⟩, .int .i64 0] 101))) := HB1.out.trans (But.of hb2)
  have HT2 := Lib.hid (HT1.out.below hb2)
  clear HS1 HB1 HT1 hb2
  obtain ⟨c0, c1, cz⟩ := HS2.out.cells
  have hb3 : But P (W1.alloc (.cells #[.int .i64 2, .int .i64 a, .string ⟨#[64, 95]⟩, .string ⟨#[]⟩, .string ⟨#[]⟩, .int .i64 0] 101)) ((W1.alloc (.cells #[.int .i64 2, .int .i64 a, .string ⟨#[64, 95]⟩, .string ⟨#[]⟩, .string ⟨#[]⟩, .int .i64 0] 101)).setCell ⟨P, 1, none⟩ (.int .i64 ((k : Nat) + 1 : Int))) := (But.refl P _).set 1 _
  have HS3 : Hid (PsAt κ ts P (k + 1) ((W1.alloc (.cells #[.int .i64 2, .int .i64 a, .string ⟨#[64, 95]⟩, .string ⟨#[]⟩, .string ⟨#[]⟩, .int .i64 0] 101)).setCell ⟨P, 1, none⟩ (.int .i64 ((k : Nat) + 1 : Int)))) := HS2.out.step (k + 1)
  have HB3 : Hid (But P w ((W1.alloc (.cells #[.int .i64 2, .int .i64 a, .string ⟨#[64, 95]⟩, .string ⟨#[]⟩, .string ⟨#[]⟩, .int .i64 0] 101)).setCell ⟨P, 1, none⟩ (.int .i64 ((k : Nat) + 1 : Int)))) := HB2.out.trans hb3
  have HT3 := Lib.hid (HT2.out.but hb3 HL.out.p)
  clear HB2 HT2 HS2 hb3
  have hb4 : Below ((W1.alloc (.cells #[.int .i64 2, .int .i64 a, .string ⟨#[64, 95]⟩, .string ⟨#[]⟩, .string ⟨#[]⟩, .int .i64 0] 101)).setCell ⟨P, 1, none⟩ (.int .i64 ((k : Nat) + 1 : Int))).heap.size ((W1.alloc (.cells #[.int .i64 2, .int .i64 a, .string ⟨#[64, 95]⟩, .string ⟨#[]⟩, .string ⟨#[]⟩, .int .i64 0] 101)).setCell ⟨P, 1, none⟩ (.int .i64 ((k : Nat) + 1 : Int))) (((W1.alloc (.cells #[.int .i64 2, .int .i64 a, .string ⟨#[64, 95]⟩, .string ⟨#[]⟩, .string ⟨#[]⟩, .int .i64 0] 101)).setCell ⟨P, 1, none⟩ (.int .i64 ((k : Nat) + 1 : Int))).alloc (.cells #[.int .i64 5, .string ⟨#[95]⟩, .string ⟨#[]⟩, .int .i64 0, .slice none 0 0] 28)) := (Below.refl _ _).alloc (Nat.le_refl _) _
  have HS4 : Hid (PsAt κ ts P (k + 1) (((W1.alloc (.cells #[.int .i64 2, .int .i64 a, .string ⟨#[64, 95]⟩, .string ⟨#[]⟩, .string ⟨#[]⟩, .int .i64 0] 101)).setCell ⟨P, 1, none⟩ (.int .i64 ((k : Nat) + 1 : Int))).alloc (.cells #[.int .i64 5, .string ⟨#[95]⟩, .string ⟨#[]⟩, .int .i64 0, .slice none 0 0] 28))) := HS3.out.later hb4
  have HB4 : Hid (But P w (((W1.alloc (.cells #[.int .i64 2, .int .i64 a, .string ⟨#[64, 95]⟩, .string ⟨#[]⟩, .string ⟨#[]⟩, .int .i64 0] 101)).setCell ⟨P, 1, none⟩ (.int .i64 ((k : Nat) + 1 : Int))).alloc (.cells #[.int .i64 5, .string ⟨#[95]⟩, .string ⟨#[]⟩, .int .i64 0, .slice none 0 0] 28))) := HB3.out.trans (But.of hb4)
  have HT4 := Lib.hid (HT3.out.below hb4)
  clear HS3 HB3 HT3 hb4
  have hb5 : Below (((W1.alloc (.cells #[.int .i64 2, .int .i64 a, .string ⟨#[64, 95]⟩, .string ⟨#[]⟩, .string ⟨#[]⟩, .int .i64 0] 101)).setCell ⟨P, 1, none⟩ (.int .i64 ((k : Nat) + 1 : Int))).alloc (.cells #[.int .i64 5, .string ⟨#[95]⟩, .string ⟨#[]⟩, .int .i64 0, .slice none 0 0] 28)).heap.size (((W1.alloc (.cells #[.int .i64 2, .int .i64 a, .string ⟨#[64, 95]⟩, .string ⟨#[]⟩, .string ⟨#[]⟩, .int .i64 0] 101)).setCell ⟨P, 1, none⟩ (.int .i64 ((k : Nat) + 1 : Int))).alloc (.cells #[.int .i64 5, .string ⟨#[95]⟩, .string ⟨#[]⟩, .int .i64 0, .slice none 0 0] 28)) ((((W1.alloc (.cells #[.int .i64 2, .int .i64 a, .string ⟨#[64, 95]⟩, .string ⟨#[]⟩, .string ⟨#[]⟩, .int .i64 0] 101)).setCell ⟨P, 1, none⟩ (.int .i64 ((k : Nat) + 1 : Int))).alloc (.cells #[.int .i64 5, .string ⟨#[95]⟩, .string ⟨#[]⟩, .int .i64 0, .slice none 0 0] 28)).alloc (.cells #[.int .i64 6, .string ⟨#[95]⟩, .string ⟨#[]⟩, .int .i64 0, .slice none 0 0] 28)) := (Below.refl _ _).alloc (Nat.le_refl _) _
  have HS5 : Hid (PsAt κ ts P (k + 1) ((((W1.alloc (.cells #[.int .i64 2, .int .i64 a, .string ⟨#[64, 95]⟩, .string ⟨#[]⟩, .string ⟨#[]⟩, .int .i64 0] 101)).setCell ⟨P, 1, none⟩ (.int .i64 ((k : Nat) + 1 : Int))).alloc (.cells #[.int .i64 5, .string ⟨#[95]⟩, .string ⟨#[]⟩, .int .i64 0, .slice none 0 0] 28)).alloc (.cells #[.int .i64 6, .string ⟨#[95]⟩, .string ⟨#[]⟩, .int .i64 0, .slice none 0 0] 28))) := HS4.out.later hb5
  have HB5 : Hid (But P w ((((W1.alloc (.cells #[.int .i64 2, .int .i64 a, .string ⟨#[64, 95]⟩, .string ⟨#[]⟩, .string ⟨#[]⟩, .int .i64 0] 101)).setCell ⟨P, 1, none⟩ (.int .i64 ((k : Nat) + 1 : Int))).alloc (.cells #[.int .i64 5, .string ⟨#[95]⟩, .string ⟨#[]⟩, .int .i64 0, .slice none 0 0] 28)).alloc (.cells #[.int .i64 6, .string ⟨#[95]⟩, .string ⟨#[]⟩, .int .i64 0, .slice none 0 0] 28))) := HB4.out.trans (But.of hb5)
  have HT5 := Lib.hid (HT4.out.below hb5)
  clear HS4 HB4 HT4 hb5
  have hb6 : Below ((((W1.alloc (.cells #[.int .i64 2, .int .i64 a, .string ⟨#[64, 95]⟩, .string ⟨#[]⟩, .string ⟨#[]⟩, .int .i64 0] 101)).setCell ⟨P, 1, none⟩ (.int .i64 ((k : Nat) + 1 : Int))).alloc (.cells #[.int .i64 5, .string ⟨#[95]⟩, .string ⟨#[]⟩, .int .i64 0, .slice none 0 0] 28)).alloc (.cells #[.int .i64 6, .string ⟨#[95]⟩, .string ⟨#[]⟩, .int .i64 0, .slice none 0 0] 28)).heap.size ((((W1.alloc (.cells #[.int .i64 2, .int .i64 a, .string ⟨#[64, 95]⟩, .string ⟨#[]⟩, .string ⟨#[]⟩, .int .i64 0] 101)).setCell ⟨P, 1, none⟩ (.int .i64 ((k : Nat) + 1 : Int))).alloc (.cells #[.int .i64 5, .string ⟨#[95]⟩, .string ⟨#[]⟩, .int .i64 0, .slice none 0 0] 28)).alloc (.cells #[.int .i64 6, .string ⟨#[95]⟩, .string ⟨#[]⟩, .int .i64 0, .slice none 0 0] 28)) (((((W1.alloc (.cells #[.int .i64 2, .int .i64 a, .string ⟨#[64, 95]⟩, .string ⟨#[]⟩, .string ⟨#[]⟩, .int .i64 0] 101)).setCell ⟨P, 1, none⟩ (.int .i64 ((k : Nat) + 1 : Int))).alloc (.cells #[.int .i64 5, .string ⟨#[95]⟩, .string ⟨#[]⟩, .int .i64 0, .slice none 0 0] 28)).alloc (.cells #[.int .i64 6, .string ⟨#[95]⟩, .string ⟨#[]⟩, .int .i64 0, .slice none 0 0] 28)).alloc (.cells #[.int .i64 7, .string ⟨#[95]⟩, .string ⟨#[]⟩, .int .i64 0, .slice none 0 0] 28)) := (Below.refl _ _).alloc (Nat.le_refl _) _
  have HS6 : Hid (PsAt κ ts P (k + 1) (((((W1.alloc (.cells #[.int .i64 2, .int .i64 a, .string ⟨#[64, 95]⟩, .string ⟨#[]⟩, .string ⟨#[]⟩, .int .i64 0] 101)).setCell ⟨P, 1, none⟩ (.int .i64 ((k : Nat) + 1 : Int))).alloc (.cells #[.int .i64 5, .string ⟨#[95]⟩, .string ⟨#[]⟩, .int .i64 0, .slice none 0 0] 28)).alloc (.cells #[.int .i64 6, .string ⟨#[95]⟩, .string ⟨#[]⟩, .int .i64 0, .slice none 0 0] 28)).alloc (.cells #[.int .i64 7, .string ⟨#[95]⟩, .string ⟨#[]⟩, .int .i64 0, .slice none 0 0] 28))) := HS5.out.later hb6
  have HB6 : Hid (But P w (((((W1.alloc (.cells #[.int .i64 2, .int .i64 a, .string ⟨#[64, 95]⟩, .string ⟨#[]⟩, .string ⟨#[]⟩, .int .i64 0] 101)).setCell ⟨P, 1, none⟩ (.int .i64 ((k : Nat) + 1 : Int))).alloc (.cells #[.int .i64 5, .string ⟨#[95]⟩, .string ⟨#[]⟩, .int .i64 0, .slice none 0 0] 28)).alloc (.cells #[.int .i64 6, .string ⟨#[95]⟩, .string ⟨#[]⟩, .int .i64 0, .slice none 0 0] 28)).alloc (.cells #[.int .i64 7, .string ⟨#[95]⟩, .string ⟨#[]⟩, .int .i64 0, .slice none 0 0] 28))) := HB5.out.trans (But.of hb6)
  have HT6 := Lib.hid (HT5.out.below hb6)
  clear HS5 HB5 HT5 hb6
  go_wp2_with fail
  clear c0 c1 cz
  refine (sliceOf_plain κ ts P (k + 1) ⟨#[95]⟩ (by omega) q0 q1 _ HS6.out).mono ?_
  rintro e1 W7 ⟨v, rfl, hn, hs7, hb7⟩
  cases hn with
  | @mk op s t' n l L hn =>
    obtain ⟨la, ln, lc, rfl⟩ := hn.val
    have HN_7 : Hid (NdAt (fun g => T < g) W7 _ (.agg #[.int .i64 6, .string ⟨#[95]⟩, .string ⟨#[]⟩, .int .i64 0, .slice la ln lc])) := .mk (hn.move fun g h1 h2 => ⟨rfl, Nat.lt_of_lt_of_le HT6.out.lt h1⟩)
    have HS7 := Lib.hid hs7
    have HB7 : Hid (But P w W7) := HB6.out.trans hb7
    have HT7 := Lib.hid (HT6.out.but hb7 HL.out.p)
    clear HB6 HT6 HS6 hn hs7 hb7
    obtain ⟨u0, u1, u2, u3, u4⟩ := HT7.out.cells
    have z0 := HT7.out.frozen 0
    have z1 := HT7.out.frozen 1
    have z2 := HT7.out.frozen 2
    have z3 := HT7.out.frozen 3
    have z4 := HT7.out.frozen 4
    go_wp2
    have HR := HT7.out.put (.int .i64 6) (.string ⟨#[95]⟩) (.string ⟨#[]⟩) (.int .i64 0) (.slice la ln lc)
    obtain ⟨r0, r1, r2, r3, r4⟩ := HR.cells
    change bodyPost _ _ _ _ _ (ndW W7 T (.int .i64 6) (.string ⟨#[95]⟩) (.string ⟨#[]⟩) (.int .i64 0) (.slice la ln lc))
    refine bodyPost_ret (v := .tuple #[.agg #[.int .i64 6, .string ⟨#[95]⟩, .string ⟨#[]⟩, .int .i64 0, .slice la ln lc], .int .i64 0]) ?_ rfl (OcT.of (fn_ret HTT.out HL.out HS7.out HB7.out HN_7.out (fun g h => h)))
    generalize ndW W7 T (.int .i64 6) (.string ⟨#[95]⟩) (.string ⟨#[]⟩) (.int .i64 0) (.slice la ln lc) = WZ at *
    simp [results, Tryz.results244, go_sem, r0, r1, r2, r3, r4]
set_option maxRecDepth 100000 in
set_option maxHeartbeats 8000000 in
theorem term_var (κ : Pc) (ts : List Tt) (P k : Nat) (b : Int) (o : Oc) (hk : k ≤ 900) (ht : (tAt ts k).k = 2) (hm : MtT κ ts P k 244 b o) : MtT κ ts P k 239 b o := by
  intro w h
  have HL := Lib.hid h.all
  have HS0 : Hid (PsAt κ ts P k (w.alloc zN)) := h.later ((Below.refl _ _).alloc (Nat.le_refl _) _)
  have HB0 : Hid (But P w (w.alloc zN)) := But.alloc P w _
  have HT0 := Lib.hid (NkAt.zero w)
  unfold zN at HS0 HB0 HT0
  have HM := Lib.hid hm
  clear hm
  clear h
  go_enter Tryz.func239, Tryz.ntmps239
  go_wp2_with fail
  generalize w.alloc _ = W0 at *
  generalize hTT : w.heap.size = T at *
  have HTT : Hid (w.heap.size ≤ T) := Nat.le_of_eq hTT
  clear hTT
  refine (token_x κ ts P k _ HS0.out (by omega)).mono ?_
  rw [ht]
  rintro e1 W1 ⟨rfl, hb1⟩
  have HS1 : Hid (PsAt κ ts P k W1) := HS0.out.later hb1
  have HB1 : Hid (But P w W1) := HB0.out.trans (But.of hb1)
  have HT1 := Lib.hid (HT0.out.below hb1)
  clear HS0 HB0 HT0 hb1
  have hb2 : Below W1.heap.size W1 (W1.alloc (.cells #[.int .i64 2, .int .i64 (tAt ts k).a, .string (tAt ts k).x, .string ⟨#[]⟩, .string ⟨#[]⟩, .int .i64 (tAt ts k).o] 101)) := (Below.refl _ _).alloc (Nat.le_refl _) _
  have HS2 : Hid (PsAt κ ts P k (W1.alloc (.cells #[.int .i64 2, .int .i64 (tAt ts k).a, .string (tAt ts k).x, .string ⟨#[]⟩, .string ⟨#[]⟩, .int .i64 (tAt ts k).o] 101))) := HS1.out.later hb2
  have HB2 : Hid (But P w (W1.alloc (.cells #[.int .i64 2, .int .i64 (tAt ts k).a, .string (tAt ts k).x, .string ⟨#[]⟩, .string ⟨#[]⟩, .int .i64 (tAt ts k).o] 101))) := HB1.out.trans (But.of hb2)
  have HT2 := Lib.hid (HT1.out.below hb2)
  clear HS1 HB1 HT1 hb2
  go_wp2_with fail
  generalize W1.alloc _ = W20 at *
  refine (HM.out _ HS2.out).mono ?_
  intro e1 W3 h1
  cases o with
  | bad m =>
    obtain ⟨rfl, hb1⟩ := h1
    have HBZ : Hid (But P w W3) := HB2.out.trans hb1
    clear hb1
    go_wp2
    exact ⟨rfl, rfl, HBZ.out⟩
  | ok j t =>
    obtain ⟨v, rfl, hn, hs3, hb3⟩ := h1
    cases hn with
    | @mk op s t' n l L hn =>
      obtain ⟨la, ln, lc, rfl⟩ := hn.val
      have HN_3 : Hid (NdAt (fun g => T < g) W3 (.mk op s t' n l) (.agg #[.int .i64 op, .string s, .string t', .int .i64 n, .slice la ln lc])) := .mk (hn.move fun g h1 h2 => ⟨rfl, Nat.lt_of_lt_of_le HT2.out.lt h1⟩)
      have HS3 := Lib.hid hs3
      have HB3 : Hid (But P w W3) := HB2.out.trans hb3
      have HT3 := Lib.hid (HT2.out.but hb3 HL.out.p)
      clear HB2 HT2 HS2 hn hs3 hb3 HM
      obtain ⟨u0, u1, u2, u3, u4⟩ := HT3.out.cells
      have z0 := HT3.out.frozen 0
      have z1 := HT3.out.frozen 1
      have z2 := HT3.out.frozen 2
      have z3 := HT3.out.frozen 3
      have z4 := HT3.out.frozen 4
      go_wp2
      have HR := HT3.out.put (.int .i64 op) (.string s) (.string t') (.int .i64 n) (.slice la ln lc)
      obtain ⟨r0, r1, r2, r3, r4⟩ := HR.cells
      change bodyPost _ _ _ _ _ (ndW W3 T (.int .i64 op) (.string s) (.string t') (.int .i64 n) (.slice la ln lc))
      refine bodyPost_ret (v := .tuple #[.agg #[.int .i64 op, .string s, .string t', .int .i64 n, .slice la ln lc], .int .i64 b]) ?_ rfl (OcT.of (fn_ret HTT.out HL.out HS3.out HB3.out HN_3.out (fun g h => h)))
      generalize ndW W3 T (.int .i64 op) (.string s) (.string t') (.int .i64 n) (.slice la ln lc) = WZ at *
      simp [results, Tryz.results239, go_sem, r0, r1, r2, r3, r4]

end Go.Proofs.YtaocbhfehncdcaaGreatDoor
