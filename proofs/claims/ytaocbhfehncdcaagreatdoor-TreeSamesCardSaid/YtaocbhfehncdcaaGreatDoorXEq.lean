/-
  tree.Same of all trees: slices.EqualFunc, and the function that it is handed. No condition.
-/
import Derived.Test.YtaocbhfehncdcaaGreatDoorXSm2
namespace Go.Proofs.YtaocbhfehncdcaaGreatDoor
open Go.RowKit

set_option maxRecDepth 100000 in
set_option maxHeartbeats 8000000 in
theorem clo_step (o o2 n n2 : Int) (s s2 t t2 : ByteArray) (l l2 : List Nd) (a a2 : Option Addr) (k k2 c c2 : Nat) (w : World)
    (hs : ∀ W, Below w.heap.size w W → Calls Tryz.prog 17 #[.slice a k c, .slice a2 k2 c2] W (LkP (.bool (eqL l l2)) W)) :
    Calls Tryz.prog 33 #[.agg #[.int .i64 o, .string s, .string t, .int .i64 n, .slice a k c], .agg #[.int .i64 o2, .string s2, .string t2, .int .i64 n2, .slice a2 k2 c2]] w (LkP (.bool (eqN (.mk o s t n l) (.mk o2 s2 t2 n2 l2))) w) := by
  have HP : Hid (∀ b w', b = eqN (.mk o s t n l) (.mk o2 s2 t2 n2 l2) → Below w.heap.size w w' → LkP (.bool (eqN (.mk o s t n l) (.mk o2 s2 t2 n2 l2))) w (.returned (.bool b)) w') := fun b w' h1 h => ⟨by rw [h1], h⟩
  have HB : Hid (∀ x y, Below w.heap.size w ((w.alloc x).alloc y)) := fun x y => ((Below.refl _ _).alloc (Nat.le_refl _) _).alloc (by simp) _
  have HS := Lib.hid hs
  have HE : eqN (.mk o s t n l) (.mk o2 s2 t2 n2 l2) = ((o == o2) && ((s.toList == s2.toList) && ((t.toList == t2.toList) && ((n == n2) && eqL l l2)))) := by simp [eqN]
  rw [HE] at HP ⊢
  clear hs HE
  generalize eqL l l2 = z at *
  cases h1 : (o == o2) with
  | false =>
    rw [h1] at HP
    go_enter Tryz.func33, Tryz.ntmps33
    go_wp2
    go_ret
    exact HP.out _ _ (by simp) (HB.out _ _)
  | true =>
    rw [h1] at HP
    cases h2 : (s.toList == s2.toList) with
    | false =>
      rw [h2] at HP
      go_enter Tryz.func33, Tryz.ntmps33
      go_wp2
      go_ret
      exact HP.out _ _ (by simp) (HB.out _ _)
    | true =>
      rw [h2] at HP
      cases h3 : (t.toList == t2.toList) with
      | false =>
        rw [h3] at HP
        go_enter Tryz.func33, Tryz.ntmps33
        go_wp2
        go_ret
        exact HP.out _ _ (by simp) (HB.out _ _)
      | true =>
        rw [h3] at HP
        cases h4 : (n == n2) with
        | false =>
          rw [h4] at HP
          go_enter Tryz.func33, Tryz.ntmps33
          go_wp2
          go_ret
          exact HP.out _ _ (by simp) (HB.out _ _)
        | true =>
          rw [h4] at HP
          go_enter Tryz.func33, Tryz.ntmps33
          go_wp2_with fail
          refine (HS.out _ (HB.out _ _)).mono ?_
          rintro e1 W1 ⟨rfl, hb1⟩
          have HB1 : Hid (Below w.heap.size w W1) := (HB.out _ _).trans (hb1.mono (HB.out _ _).size)
          clear hb1
          go_wp2
          go_ret
          exact HP.out _ _ (by simp) HB1.out
set_option maxRecDepth 100000 in
set_option maxHeartbeats 8000000 in
theorem eqf_any (S S' : Nat → Prop) (l m : List Nd) (L M : Value) (w : World) (h : NsAt S w l L) (h' : NsAt S' w m M) (hih : ∀ i (h : i < l.length) (k k2 : List Nd) (K K2 : Value) (W : World), szL k < szN l[i] → NsAt S W k K → NsAt S' W k2 K2 → Calls Tryz.prog 17 #[K, K2] W (LkP (.bool (eqL k k2)) W)) : Calls Tryz.prog 32 #[L, M, .func (.func 33) #[] #[]] w (LkP (.bool (eqL l m)) w) := by
  obtain ⟨a, c, rfl, hmax, hrow⟩ := h.row
  obtain ⟨b, d, rfl, hmax2, hrow2⟩ := h'.row
  have HP : Hid (∀ w' (z : Bool), z = eqL l m → Below w.heap.size w w' → LkP (.bool (eqL l m)) w (.returned (.bool z)) w') := fun w' z h1 h2 => ⟨by rw [h1], h2⟩
  have HROW := Lib.hid hrow
  have HROW2 := Lib.hid hrow2
  have HIH := Lib.hid hih
  have HLS : Hid (l.length ≤ 9223372036854775807) := by
    show _ ≤ _
    unfold maxLen at hmax
    omega
  clear hrow hrow2 h h' hih
  by_cases hlen : l.length = m.length
  · have HA := Lib.hid (eqL_all l m hlen)
    have HN := Lib.hid (eqL_not l m)
    have x0 : ((l.length : Int) != (m.length : Int)) = false := by rw [hlen]; simp
    have HLEN := Lib.hid hlen
    clear hlen
    go_enter Tryz.func32, Tryz.ntmps32
    go_wp2
    go_loopw [17] (fun i wr => ∃ k : Nat, k ≤ l.length ∧ i = .int .i64 (k : Int) ∧ (∀ j (h : j < l.length) (h2 : j < m.length), j < k → eqN l[j] m[j] = true) ∧ Hid (Below w.heap.size w wr)) (fun i _ => l.length - (intOf i).toNat)
    case atStart => exact ⟨0, Nat.zero_le _, rfl, fun j _ _ h => absurd h (Nat.not_lt_zero _), Lib.hid (Below.refl _ _)⟩
    case round =>
      obtain ⟨k, hk, rfl, hpre, hb⟩ := hrel
      have HPRE := Lib.hid hpre
      clear hpre
      by_cases hlt : k < l.length
      · have hlt2 : k < m.length := by have := HLEN.out; omega
        obtain ⟨g, o, rfl, hg, hel⟩ := HROW.out (by omega)
        obtain ⟨g2, o2, rfl, hg2, hel2⟩ := HROW2.out (by omega)
        obtain ⟨e⟩ := hel k hlt
        obtain ⟨f⟩ := hel2 k hlt2
        have e := e.later hg hb.out
        have f := f.later hg2 hb.out
        have HSE : Hid (szL e.l < szN l[k]) := by
          show _ < _
          rw [e.sz]
          omega
        have HEQ : Hid (eqN l[k] m[k] = eqN (.mk e.op e.s e.u e.n e.l) (.mk f.op f.s f.u f.n f.l)) := by
          show _ = _
          exact congr (congrArg eqN e.eq) f.eq
        have q0 := e.c0
        have q1 := e.c1
        have q2 := e.c2
        have q3 := e.c3
        have q4 := e.c4
        have hba : ∀ x, Below wr.heap.size wr (wr.alloc x) := fun x => (Below.refl _ _).alloc (Nat.le_refl _) _
        have hbb : ∀ x y, Below wr.heap.size wr ((wr.alloc x).alloc y) := fun x y => (hba x).alloc (by simp) _
        have hgl : g2 < wr.heap.size := Nat.lt_of_lt_of_le hg2 hb.out.size
        have f2 := f.later (w' := wr.alloc (.cells #[.int .i64 e.op, .string e.s, .string e.u, .int .i64 e.n, .slice e.a e.k e.c] 28)) hgl (hba _)
        have p0 := f.c0
        have p1 := f.c1
        have p2 := f.c2
        have p3 := f.c3
        have p4 := f.c4
        have r0 : (wr.alloc (.cells #[.int .i64 e.op, .string e.s, .string e.u, .int .i64 e.n, .slice e.a e.k e.c] 28)).cell? ⟨g2, o2 + k * 5, none⟩ = some (.int .i64 f.op) := (World.cell?_of_block (a := ⟨g2, o2 + k * 5, none⟩) ((hba _).block g2 hgl)).trans f.c0
        have r1 : (wr.alloc (.cells #[.int .i64 e.op, .string e.s, .string e.u, .int .i64 e.n, .slice e.a e.k e.c] 28)).cell? ⟨g2, o2 + k * 5 + 1, none⟩ = some (.string f.s) := (World.cell?_of_block (a := ⟨g2, o2 + k * 5 + 1, none⟩) ((hba _).block g2 hgl)).trans f.c1
        have r2 : (wr.alloc (.cells #[.int .i64 e.op, .string e.s, .string e.u, .int .i64 e.n, .slice e.a e.k e.c] 28)).cell? ⟨g2, o2 + k * 5 + 2, none⟩ = some (.string f.u) := (World.cell?_of_block (a := ⟨g2, o2 + k * 5 + 2, none⟩) ((hba _).block g2 hgl)).trans f.c2
        have r3 : (wr.alloc (.cells #[.int .i64 e.op, .string e.s, .string e.u, .int .i64 e.n, .slice e.a e.k e.c] 28)).cell? ⟨g2, o2 + k * 5 + 3, none⟩ = some (.int .i64 f.n) := (World.cell?_of_block (a := ⟨g2, o2 + k * 5 + 3, none⟩) ((hba _).block g2 hgl)).trans f.c3
        have r4 : (wr.alloc (.cells #[.int .i64 e.op, .string e.s, .string e.u, .int .i64 e.n, .slice e.a e.k e.c] 28)).cell? ⟨g2, o2 + k * 5 + 4, none⟩ = some (.slice f.a f.k f.c) := (World.cell?_of_block (a := ⟨g2, o2 + k * 5 + 4, none⟩) ((hba _).block g2 hgl)).trans f.c4
        clear f2
        have x1 : (k : Int) < (l.length : Int) := by omega
        have x4 : (k : Int) < (m.length : Int) := by omega
        have x5 : (0 : Int) ≤ (k : Int) := by omega
        have x3 : IntKind.i64.wrap ((k : Int) + 1) = (k : Int) + 1 := IntWalk.i64_in _ (by have := HLS.out; omega)
        clear hel hel2
        have HCALL : Hid (∀ W, Below wr.heap.size wr W → Calls Tryz.prog 33 #[.agg #[.int .i64 e.op, .string e.s, .string e.u, .int .i64 e.n, .slice e.a e.k e.c], .agg #[.int .i64 f.op, .string f.s, .string f.u, .int .i64 f.n, .slice f.a f.k f.c]] W (LkP (.bool (eqN l[k] m[k])) W)) := fun W hW => by
          have := clo_step e.op f.op e.n f.n e.s f.s e.u f.u e.l f.l e.a f.a e.k f.k e.c f.c W fun V hV => HIH.out k hlt e.l f.l _ _ V HSE.out (e.ns.move fun g h1 h2 => ⟨(hV.block g (Nat.lt_of_lt_of_le h2 hW.size)).trans (hW.block g h2), h1⟩) (f.ns.move fun g h1 h2 => ⟨(hV.block g (Nat.lt_of_lt_of_le h2 hW.size)).trans (hW.block g h2), h1⟩)
          rw [HEQ.out]
          exact this
        clear HEQ HSE
        generalize e.op = eo at *
        generalize e.s = es at *
        generalize e.u = eu at *
        generalize e.n = en at *
        generalize e.a = ea at *
        generalize e.k = ek at *
        generalize e.c = ec at *
        generalize f.op = fo at *
        generalize f.s = fs at *
        generalize f.u = fu at *
        generalize f.n = fn at *
        generalize f.a = fa at *
        generalize f.k = fk at *
        generalize f.c = fc at *
        have HBD : Hid (Below w.heap.size w ((wr.alloc (.cells #[.int .i64 eo, .string es, .string eu, .int .i64 en, .slice ea ek ec] 28)).alloc (.cells #[.int .i64 fo, .string fs, .string fu, .int .i64 fn, .slice fa fk fc] 28))) := hb.out.trans ((hbb _ _).mono hb.out.size)
        have HC2 := Lib.hid (HCALL.out _ (hbb (.cells #[.int .i64 eo, .string es, .string eu, .int .i64 en, .slice ea ek ec] 28) (.cells #[.int .i64 fo, .string fs, .string fu, .int .i64 fn, .slice fa fk fc] 28)))
        clear e f hb hba hbb HCALL hgl
        cases hz : eqN l[k] m[k] with
        | true =>
          rw [hz] at HC2
          have HZ := Lib.hid hz
          clear hz
          go_wp2_with fail
          refine HC2.out.mono ?_
          rintro e1 W2 ⟨rfl, hb2⟩
          have HB2 := Lib.hid (HBD.out.trans (hb2.mono HBD.out.size))
          clear hb2 q0 q1 q2 q3 q4 p0 p1 p2 p3 p4 r0 r1 r2 r3 r4
          go_wp2
          go_roundw
          case rel => exact ⟨k + 1, hlt, by first | rfl | go_num, pre_on HPRE.out HZ.out, HB2⟩
          case measure => simp [intOf]; omega
        | false =>
          rw [hz] at HC2
          have HZ := Lib.hid (HN.out k hlt hlt2 hz)
          clear hz
          go_wp2_with fail
          refine HC2.out.mono ?_
          rintro e1 W2 ⟨rfl, hb2⟩
          have HB2 := Lib.hid (HBD.out.trans (hb2.mono HBD.out.size))
          clear hb2 q0 q1 q2 q3 q4 p0 p1 p2 p3 p4 r0 r1 r2 r3 r4
          go_wp2
          go_ret
          exact HP.out _ _ HZ.out.symm HB2.out
      · have hke : k = l.length := by omega
        have x1 : (l.length : Int) ≤ (k : Int) := by omega
        have HE : Hid (true = eqL l m) := (HA.out fun i h h2 => HPRE.out i h h2 (by omega)).symm
        clear hke
        go_wp2
        go_ret
        exact HP.out _ _ HE.out hb.out
  · have x0 : ((l.length : Int) != (m.length : Int)) = true := by
      rw [bne_iff_ne]
      omega
    have HE : Hid (false = eqL l m) := (eqL_len l m hlen).symm
    go_enter Tryz.func32, Tryz.ntmps32
    go_wp2
    go_ret
    exact HP.out _ _ HE.out (Below.refl _ _)
set_option maxRecDepth 100000 in
set_option maxHeartbeats 8000000 in
theorem tsame_any (S S' : Nat → Prop) : ∀ (q : Nat) (l m : List Nd) (L M : Value) (w : World), szL l ≤ q → NsAt S w l L → NsAt S' w m M → Calls Tryz.prog 17 #[L, M] w (LkP (.bool (eqL l m)) w)
  | q, l, m, L, M, w, hq, h, h' => by
    have H := Lib.hid (eqf_any S S' l m L M w h h' fun i h k k2 K K2 W hk hK hK2 => by
      have h1 := sz_el l i h
      have : q ≠ 0 := by omega
      exact tsame_any S S' (q - 1) k k2 K K2 W (by omega) hK hK2)
    obtain ⟨a, c, rfl, hmax, hrow⟩ := h.row
    obtain ⟨b, d, rfl, hmax2, hrow2⟩ := h'.row
    clear hrow hrow2 h h' hmax hmax2
    go_enter Tryz.func17, Tryz.ntmps17
    go_wp2_with fail
    refine H.out.mono ?_
    rintro e1 W1 ⟨rfl, hb1⟩
    go_wp2
    go_ret
    exact ⟨rfl, hb1⟩
termination_by q => q
decreasing_by omega

end Go.Proofs.YtaocbhfehncdcaaGreatDoor
