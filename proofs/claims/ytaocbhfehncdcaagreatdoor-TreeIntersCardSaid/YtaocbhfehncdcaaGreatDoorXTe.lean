/-
  The parser's elements: a place in brackets behind something. Conditions: none beside those stated.
-/
import Derived.Test.YtaocbhfehncdcaaGreatDoorXM17
namespace Go.Proofs.YtaocbhfehncdcaaGreatDoor
open Go.RowKit

/-- What a method leaves that was handed nodes whose rows lie in blocks of which S holds. -/
def OcS (κ : Pc) (ts : List Tt) (P : Nat) (S : Nat → Prop) (j : Nat) (t : Nd) (w : World) (e : Ending) (w' : World) : Prop :=
  ∃ v, e = .returned v ∧ NdAt (New S w.heap.size) w' t v ∧ PsAt κ ts P j w' ∧ But P w w'
def OcU (κ : Pc) (ts : List Tt) (P : Nat) (S : Nat → Prop) (b : Int) (j : Nat) (t : Nd) (w : World) (e : Ending) (w' : World) : Prop :=
  ∃ v, e = .returned (.tuple #[v, .int .i64 b]) ∧ NdAt (New S w.heap.size) w' t v ∧ PsAt κ ts P j w' ∧ But P w w'
theorem OcU.of {κ : Pc} {ts : List Tt} {P j : Nat} {S : Nat → Prop} {b : Int} {t : Nd} {w W : World} {v : Value} (h : OcS κ ts P S j t w (.returned v) W) : OcU κ ts P S b j t w (.returned (.tuple #[v, .int .i64 b])) W := by
  obtain ⟨u, h1, h2⟩ := h
  cases h1
  exact ⟨_, rfl, h2⟩
theorem fn_retS {κ : Pc} {ts : List Tt} {P j T : Nat} {w W : World} {t : Nd} {v0 v1 v2 v3 v4 : Value} {S S' : Nat → Prop} (hT : w.heap.size ≤ T) (hL : PcLt κ P T) (hP : PsAt κ ts P j W) (hB : But P w W) (hN : NdAt S' W t (.agg #[v0, v1, v2, v3, v4])) (hS : ∀ g, S' g → g ≠ T ∧ New S w.heap.size g) :
    OcS κ ts P S j t w (.returned (.agg #[v0, v1, v2, v3, v4])) (ndW W T v0 v1 v2 v3 v4) := by
  have hb := ndW_below W T v0 v1 v2 v3 v4
  refine ⟨_, rfl, hN.move fun g h1 h2 => ⟨ndW_block _ _ _ _ _ _ _ _ (hS g h1).1, (hS g h1).2⟩, hP.part hL (fun k hk => hb.block k hk) (by rw [ndW_size]; exact Nat.le_refl _), ?_⟩
  exact ⟨hb.os.trans hB.os, hb.tape.trans hB.tape, hb.output.trans hB.output, by rw [ndW_size]; exact hB.size, fun k hk hP => (hb.block k (by omega)).trans (hB.block k hk hP)⟩

set_option maxRecDepth 100000 in
set_option maxHeartbeats 8000000 in
theorem element_br (κ : Pc) (ts : List Tt) (P k j : Nat) (S : Nat → Prop) (A H t : Nd) (va vh : Value) (w : World) (h : PsAt κ ts P k w) (hA : NdAt S w A va) (hH : NdAt S w H vh) (hSP : ∀ g, S g → g ≠ P) (hk : k ≤ 900) (hj : j ≤ 900)
    (q0 : sgOf (tAt ts k) ⟨#[91]⟩ = true) (hx : Mt κ ts P (k + 1) 53 (.ok j t)) (q1 : sgOf (tAt ts j) ⟨#[93]⟩ = true) :
    Calls Tryz.prog 241 #[.pointer (some ⟨P, 0, none⟩), va, vh] w (OcS κ ts P S (j + 1) (.mk 8 ⟨#[]⟩ ⟨#[]⟩ 0 [A, t]) w) := by
  have HX := Lib.hid hx
  have hAt : NdAt (fun g => S g ∧ g < w.heap.size) w A va := hA.move fun g h1 h2 => ⟨rfl, h1, h2⟩
  have HL0 := h.all
  have HSP := Lib.hid hSP
  clear hx
  cases hH with
  | @mk o2 s2 t2 n2 l2 L2 hH =>
    obtain ⟨b2, c2, d2, rfl⟩ := hH.val
    clear hH
    cases hA with
    | @mk o1 s1 t1 n1 l1 L1 hA =>
      obtain ⟨b1, c1, d1, rfl⟩ := hA.val
      clear hA
      have hb0 : Below w.heap.size w (((w.alloc (.cells #[.int .i64 o1, .string s1, .string t1, .int .i64 n1, .slice b1 c1 d1] 28)).alloc (.cells #[.int .i64 o2, .string s2, .string t2, .int .i64 n2, .slice b2 c2 d2] 28)).alloc zN) := (((Below.refl _ _).alloc (Nat.le_refl _) _).alloc (by simp) _).alloc (by simp; omega) _
      have HL : Hid (PcLt κ P (w.heap.size + 1 + 1)) := ⟨by have := HL0.p; omega, by have := HL0.g; omega, fun n hn => by have := HL0.m n hn; omega⟩
      have HTT : Hid (w.heap.size + 1 + 1 ≤ w.heap.size + 1 + 1) := Nat.le_refl _
      have HS0 := Lib.hid (h.later hb0)
      have HB0 : Hid (But P w _) := But.of hb0
      have HA0 := Lib.hid ((((NkAt.new w (.int .i64 o1) (.string s1) (.string t1) (.int .i64 n1) (.slice b1 c1 d1)).below ((Below.refl _ _).alloc (Nat.le_refl _) (.cells #[.int .i64 o2, .string s2, .string t2, .int .i64 n2, .slice b2 c2 d2] 28)))).below ((Below.refl _ _).alloc (Nat.le_refl _) zN))
      have HT0 : Hid (NkAt (w.heap.size + 1 + 1) (.int .i64 0) (.string ⟨#[]⟩) (.string ⟨#[]⟩) (.int .i64 0) (.slice none 0 0) (((w.alloc (.cells #[.int .i64 o1, .string s1, .string t1, .int .i64 n1, .slice b1 c1 d1] 28)).alloc (.cells #[.int .i64 o2, .string s2, .string t2, .int .i64 n2, .slice b2 c2 d2] 28)).alloc zN)) := by
        have := NkAt.zero ((w.alloc (.cells #[.int .i64 o1, .string s1, .string t1, .int .i64 n1, .slice b1 c1 d1] 28)).alloc (.cells #[.int .i64 o2, .string s2, .string t2, .int .i64 n2, .slice b2 c2 d2] 28))
        rwa [show ((w.alloc (.cells #[.int .i64 o1, .string s1, .string t1, .int .i64 n1, .slice b1 c1 d1] 28)).alloc (.cells #[.int .i64 o2, .string s2, .string t2, .int .i64 n2, .slice b2 c2 d2] 28)).heap.size = w.heap.size + 1 + 1 by simp] at this
      have HNA := Lib.hid hAt
      have HPE : Hid (P < w.heap.size) := h.lt
      clear hAt h hb0 HL0
      unfold zN at HS0 HB0 HA0 HT0
      go_enter Tryz.func241, Tryz.ntmps241
      go_wp2_with fail
      generalize ((w.alloc _).alloc _).alloc _ = W0 at *
      generalize hTT : w.heap.size + 1 + 1 = T at *
      have HTE : Hid (w.heap.size + 2 = T) := hTT
      clear hTT HTT
      refine (sign_any κ ts P k _ HS0.out (by omega) _).mono ?_
      rintro e1 W1 ⟨rfl, hb1⟩
      replace HS0 := Lib.hid (HS0.out.later hb1)
      replace HB0 : Hid (But P w W1) := HB0.out.trans (But.of hb1)
      replace HA0 := Lib.hid (HA0.out.below hb1)
      replace HT0 := Lib.hid (HT0.out.below hb1)
      rw [q0]
      obtain ⟨e0, e1, ez⟩ := HS0.out.cells
      have x2 : IntKind.i64.wrap ((k : Int) + 1) = (k : Int) + 1 := IntWalk.i64_in _ (by omega)
      have HS1 : Hid (PsAt κ ts P (k + 1) (W1.setCell ⟨P, 1, none⟩ (.int .i64 ((k : Int) + 1)))) := HS0.out.step (k + 1)
      have HB1 : Hid (But P w (W1.setCell ⟨P, 1, none⟩ (.int .i64 ((k : Int) + 1)))) := HB0.out.set _ _
      have HA1 := Lib.hid (HA0.out.but ((But.refl P W1).set 1 (.int .i64 ((k : Int) + 1))) HPE.out)
      have HT1 := Lib.hid (HT0.out.but ((But.refl P W1).set 1 (.int .i64 ((k : Int) + 1))) HL.out.p)
      clear hb1 HS0 HB0 HA0 HT0
      go_wp2_with fail
      clear e0 e1 ez x2
      generalize W1.setCell _ _ = W2 at *
      refine (HX.out _ HS1.out).mono ?_
      rintro e1 W3 ⟨v, rfl, hn, hs3, hb3⟩
      cases hn with
      | @mk op s t' n l L hn =>
        obtain ⟨la, ln, lc, rfl⟩ := hn.val
        have HN : Hid (NdAt (fun g => T < g) W3 (.mk op s t' n l) (.agg #[.int .i64 op, .string s, .string t', .int .i64 n, .slice la ln lc])) := .mk (hn.move fun g h1 h2 => ⟨rfl, Nat.lt_of_lt_of_le HT1.out.lt h1⟩)
        have HS3 := Lib.hid hs3
        have HB3 : Hid (But P w W3) := HB1.out.trans hb3
        have HA3 := Lib.hid (HA1.out.but hb3 HPE.out)
        have HT3 := Lib.hid (HT1.out.but hb3 HL.out.p)
        clear hn hs3 hb3 HS1 HB1 HA1 HT1 HX
        have hb4 : Below W3.heap.size W3 (W3.alloc (.cells #[.int .i64 op, .string s, .string t', .int .i64 n, .slice la ln lc] 28)) := (Below.refl _ _).alloc (Nat.le_refl _) _
        have HX4 := Lib.hid (NkAt.new W3 (.int .i64 op) (.string s) (.string t') (.int .i64 n) (.slice la ln lc))
        have HGX : Hid (T < W3.heap.size) := HT3.out.lt
        replace HS3 := Lib.hid (HS3.out.later hb4)
        replace HB3 : Hid (But P w _) := HB3.out.trans (But.of hb4)
        replace HA3 := Lib.hid (HA3.out.below hb4)
        replace HT3 := Lib.hid (HT3.out.below hb4)
        replace HN := Lib.hid (HN.out.move (S' := fun g => T < g) fun g h1 h2 => ⟨hb4.block g h2, h1⟩)
        clear hb4
        go_wp2_with fail
        generalize W3.alloc _ = W4 at *
        generalize W3.heap.size = X at *
        refine (want_ok κ ts P j _ HS3.out (by omega) _ q1).mono ?_
        rintro e1 W5 ⟨rfl, hs5, hb5⟩
        have HS5 := Lib.hid hs5
        replace HB3 : Hid (But P w _) := HB3.out.trans hb5
        replace HA3 := Lib.hid (HA3.out.but hb5 HPE.out)
        replace HT3 := Lib.hid (HT3.out.but hb5 HL.out.p)
        replace HX4 := Lib.hid (HX4.out.but hb5 (by have := HL.out.p; have := HGX.out; omega))
        replace HN := Lib.hid (HN.out.move (S' := fun g => T < g) fun g h1 h2 => ⟨hb5.block g h2 (by have := HL.out.p; omega), h1⟩)
        clear hs5 hb5 HS3
        obtain ⟨a0, a1, a2, a3, a4⟩ := HA3.out.cells
        obtain ⟨x0, x1, x2, x3, x4⟩ := HX4.out.cells
        go_wp2_with fail
        refine (pair_any (fun g => (S g ∧ g < w.heap.size) ∨ T < g) 8 (.mk o1 s1 t1 n1 l1) (.mk op s t' n l) _ _ W5 (HNA.out.move fun g h1 h2 => ⟨HB3.out.block g h2 (HSP.out g h1.1), Or.inl h1⟩) (HN.out.move fun g h1 h2 => ⟨rfl, Or.inr h1⟩)).mono ?_
        rintro e1 W6 ⟨v, rfl, hb6, hn6⟩
        have HS6 := Lib.hid (HS5.out.later hb6)
        replace HB3 : Hid (But P w _) := HB3.out.trans (But.of hb6)
        have HGT : Hid (T < W5.heap.size) := HT3.out.lt
        replace HT3 := Lib.hid (HT3.out.below hb6)
        cases hn6 with
        | @mk o5 s5 t5 n5 l5 L5 hn6 =>
          obtain ⟨l6, ln6, lc6, rfl⟩ := hn6.val
          have HN6 : Hid (NdAt _ W6 (.mk 8 ⟨#[]⟩ ⟨#[]⟩ 0 [.mk o1 s1 t1 n1 l1, .mk op s t' n l]) (.agg #[.int .i64 8, .string ⟨#[]⟩, .string ⟨#[]⟩, .int .i64 0, .slice l6 ln6 lc6])) := .mk hn6
          clear hn6 hb6 HS5 HN HX4 HA3 a0 a1 a2 a3 a4 x0 x1 x2 x3 x4
          obtain ⟨u0, u1, u2, u3, u4⟩ := HT3.out.cells
          have z0 := HT3.out.frozen 0
          have z1 := HT3.out.frozen 1
          have z2 := HT3.out.frozen 2
          have z3 := HT3.out.frozen 3
          have z4 := HT3.out.frozen 4
          go_wp2
          have HR := HT3.out.put (.int .i64 8) (.string ⟨#[]⟩) (.string ⟨#[]⟩) (.int .i64 0) (.slice l6 ln6 lc6)
          obtain ⟨r0, r1, r2, r3, r4⟩ := HR.cells
          change bodyPost _ _ _ _ _ (ndW W6 T (.int .i64 8) (.string ⟨#[]⟩) (.string ⟨#[]⟩) (.int .i64 0) (.slice l6 ln6 lc6))
          refine bodyPost_ret (v := .agg #[.int .i64 8, .string ⟨#[]⟩, .string ⟨#[]⟩, .int .i64 0, .slice l6 ln6 lc6]) ?_ rfl (fn_retS (by have := HTE.out; omega) HL.out HS6.out HB3.out HN6.out (fun g h => ?_))
          · generalize ndW W6 T (.int .i64 8) (.string ⟨#[]⟩) (.string ⟨#[]⟩) (.int .i64 0) (.slice l6 ln6 lc6) = WZ at *
            simp [results, Tryz.results241, go_sem, r0, r1, r2, r3, r4]
          · have hE := HTE.out
            have hG := HGT.out
            rcases h with (h | h) | h
            · exact ⟨by omega, Or.inl h.1⟩
            · exact ⟨by omega, Or.inr (by omega)⟩
            · exact ⟨by omega, Or.inr (by omega)⟩

end Go.Proofs.YtaocbhfehncdcaaGreatDoor
