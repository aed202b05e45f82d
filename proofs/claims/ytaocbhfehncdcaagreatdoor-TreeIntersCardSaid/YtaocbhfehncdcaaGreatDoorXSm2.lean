/-
  The document's Same and SameNode, of all trees. Conditions: at most 1000000 nodes.
-/
import Derived.Test.YtaocbhfehncdcaaGreatDoorXPar
namespace Go.Proofs.YtaocbhfehncdcaaGreatDoor
open Go.RowKit

mutual
def eqN : Nd → Nd → Bool
  | .mk o s t n l, .mk o2 s2 t2 n2 l2 => (o == o2) && ((s.toList == s2.toList) && ((t.toList == t2.toList) && ((n == n2) && eqL l l2)))
def eqL : List Nd → List Nd → Bool
  | [], [] => true
  | a :: l, b :: m => eqN a b && eqL l m
  | [], _ :: _ => false
  | _ :: _, [] => false
end
mutual
theorem eqN_self : ∀ a : Nd, eqN a a = true
  | .mk o s t n l => by
    have := eqL_self l
    simp [eqN, this]
theorem eqL_self : ∀ l : List Nd, eqL l l = true
  | [] => by simp [eqL]
  | a :: l => by
    have h1 := eqN_self a
    have h2 := eqL_self l
    simp [eqL, h1, h2]
end
theorem eqL_len : ∀ (l m : List Nd), l.length ≠ m.length → eqL l m = false
  | [], [], h => absurd rfl h
  | a :: l, b :: m, h => by
    have := eqL_len l m (by simpa using h)
    simp [eqL, this]
  | [], _ :: _, _ => by simp [eqL]
  | _ :: _, [], _ => by simp [eqL]
theorem eqL_all : ∀ (l m : List Nd), l.length = m.length → (∀ i (h : i < l.length) (h2 : i < m.length), eqN l[i] m[i] = true) → eqL l m = true
  | [], [], _, _ => by simp [eqL]
  | a :: l, b :: m, hl, h => by
    have h1 := h 0 (by simp) (by simp)
    have h2 := eqL_all l m (by simpa using hl) fun i h3 h4 => by
      have := h (i + 1) (by simpa using h3) (by simpa using h4)
      simpa using this
    have h1' : eqN a b = true := by simpa using h1
    simp [eqL, h1', h2]
  | [], _ :: _, hl, _ => by simp at hl
  | _ :: _, [], hl, _ => by simp at hl
theorem eqL_not : ∀ (l m : List Nd) (i : Nat) (h : i < l.length) (h2 : i < m.length), eqN l[i] m[i] = false → eqL l m = false
  | [], _, i, h, _, _ => absurd h (by simp)
  | _ :: _, [], i, _, h2, _ => absurd h2 (by simp)
  | a :: l, b :: m, 0, _, _, he => by
    have : eqN a b = false := by simpa using he
    simp [eqL, this]
  | a :: l, b :: m, i + 1, h, h2, he => by
    have := eqL_not l m i (by simpa using h) (by simpa using h2) (by simpa using he)
    simp [eqL, this]

theorem pre_on {l m : List Nd} {k : Nat} (hp : ∀ j (h : j < l.length) (h2 : j < m.length), j < k → eqN l[j] m[j] = true) {h1 : k < l.length} {h2 : k < m.length} (hk : eqN l[k] m[k] = true) : ∀ j (h : j < l.length) (h2 : j < m.length), j < k + 1 → eqN l[j] m[j] = true := fun j h h2 hj => by
  by_cases hjk : j = k
  · subst hjk
    exact hk
  · exact hp j h h2 (by omega)
set_option maxRecDepth 100000 in
set_option maxHeartbeats 8000000 in
theorem node_step (o o2 n n2 : Int) (s s2 t t2 : ByteArray) (l l2 : List Nd) (a a2 : Option Addr) (k k2 c c2 : Nat) (w : World)
    (hs : ∀ W, Below w.heap.size w W → Calls Tryz.prog 18 #[.slice a k c, .slice a2 k2 c2] W (LkP (.bool (eqL l l2)) W)) :
    Calls Tryz.prog 13 #[.agg #[.int .i64 o, .string s, .string t, .int .i64 n, .slice a k c], .agg #[.int .i64 o2, .string s2, .string t2, .int .i64 n2, .slice a2 k2 c2]] w (LkP (.bool (eqN (.mk o s t n l) (.mk o2 s2 t2 n2 l2))) w) := by
  have HP : Hid (∀ b w', b = eqN (.mk o s t n l) (.mk o2 s2 t2 n2 l2) → Below w.heap.size w w' → LkP (.bool (eqN (.mk o s t n l) (.mk o2 s2 t2 n2 l2))) w (.returned (.bool b)) w') := fun b w' h1 h => ⟨by rw [h1], h⟩
  have HB : Hid (∀ x y, Below w.heap.size w ((w.alloc x).alloc y)) := fun x y => ((Below.refl _ _).alloc (Nat.le_refl _) _).alloc (by simp) _
  have HS := Lib.hid hs
  have HE : eqN (.mk o s t n l) (.mk o2 s2 t2 n2 l2) = ((o == o2) && ((s.toList == s2.toList) && ((t.toList == t2.toList) && ((n == n2) && eqL l l2)))) := by simp [eqN]
  rw [HE] at HP ⊢
  clear hs HE
  generalize eqL l l2 = z at *
  cases h1 : (o == o2) with
  | false =>
    rw [h1] at HP
    go_enter Tryz.func13, Tryz.ntmps13
    go_wp2
    go_ret
    exact HP.out _ _ (by simp) (HB.out _ _)
  | true =>
    rw [h1] at HP
    cases h2 : (s.toList == s2.toList) with
    | false =>
      rw [h2] at HP
      go_enter Tryz.func13, Tryz.ntmps13
      go_wp2
      go_ret
      exact HP.out _ _ (by simp) (HB.out _ _)
    | true =>
      rw [h2] at HP
      cases h3 : (t.toList == t2.toList) with
      | false =>
        rw [h3] at HP
        go_enter Tryz.func13, Tryz.ntmps13
        go_wp2
        go_ret
        exact HP.out _ _ (by simp) (HB.out _ _)
      | true =>
        rw [h3] at HP
        cases h4 : (n == n2) with
        | false =>
          rw [h4] at HP
          go_enter Tryz.func13, Tryz.ntmps13
          go_wp2
          go_ret
          exact HP.out _ _ (by simp) (HB.out _ _)
        | true =>
          rw [h4] at HP
          go_enter Tryz.func13, Tryz.ntmps13
          go_wp2_with fail
          refine (HS.out _ (HB.out _ _)).mono ?_
          rintro e1 W1 ⟨rfl, hb1⟩
          have HB1 : Hid (Below w.heap.size w W1) := (HB.out _ _).trans (hb1.mono (HB.out _ _).size)
          clear hb1
          go_wp2
          go_ret
          exact HP.out _ _ (by simp) HB1.out
set_option maxRecDepth 100000 in
set_option maxHeartbeats 8000000 in
theorem same_any (S S' : Nat → Prop) : ∀ (q : Nat) (l m : List Nd) (L M : Value) (w : World), szL l ≤ q → NsAt S w l L → NsAt S' w m M → Calls Tryz.prog 18 #[L, M] w (LkP (.bool (eqL l m)) w)
  | q, l, m, L, M, w, hq, h, h' => by
    obtain ⟨a, c, rfl, hmax, hrow⟩ := h.row
    obtain ⟨b, d, rfl, hmax2, hrow2⟩ := h'.row
    have HP : Hid (∀ w' (z : Bool), z = eqL l m → Below w.heap.size w w' → LkP (.bool (eqL l m)) w (.returned (.bool z)) w') := fun w' z h1 h2 => ⟨by rw [h1], h2⟩
    have HROW := Lib.hid hrow
    have HROW2 := Lib.hid hrow2
    have HIH : Hid (∀ i (h : i < l.length) (k k2 : List Nd) (K K2 : Value) (W : World), szL k < szN l[i] → NsAt S W k K → NsAt S' W k2 K2 → Calls Tryz.prog 18 #[K, K2] W (LkP (.bool (eqL k k2)) W)) := fun i h k k2 K K2 W hk hK hK2 => by
      have h1 := sz_el l i h
      have : q ≠ 0 := by omega
      exact same_any S S' (q - 1) k k2 K K2 W (by omega) hK hK2
    have HLS : Hid (l.length ≤ 9223372036854775807) := by
      show _ ≤ _
      unfold maxLen at hmax
      omega
    clear hrow hrow2 h h' hq
    by_cases hlen : l.length = m.length
    · have HA := Lib.hid (eqL_all l m hlen)
      have HN := Lib.hid (eqL_not l m)
      have x0 : ((l.length : Int) != (m.length : Int)) = false := by rw [hlen]; simp
      have HLEN := Lib.hid hlen
      clear hlen
      go_enter Tryz.func18, Tryz.ntmps18
      go_wp2
      go_loopw [5] (fun i wr => ∃ k : Nat, k ≤ l.length ∧ i = .int .i64 (k : Int) ∧ (∀ j (h : j < l.length) (h2 : j < m.length), j < k → eqN l[j] m[j] = true) ∧ Hid (Below w.heap.size w wr)) (fun i _ => l.length - (intOf i).toNat)
      case atStart => exact ⟨0, Nat.zero_le _, rfl, fun j _ _ h => absurd h (Nat.not_lt_zero _), Lib.hid (Below.refl _ _)⟩
      case round =>
        obtain ⟨k, hk, rfl, hpre, hb⟩ := hrel
        have HPRE := Lib.hid hpre
        clear hpre
        by_cases hlt : k < l.length
        · have hlt2 : k < m.length := by have := HLEN.out; omega
          obtain ⟨g, o, rfl, hg, hel⟩ := HROW.out (by omega)
          obtain ⟨g2, o2, rfl, hg2, hel2⟩ := HROW2.out (by omega)
          obtain ⟨e⟩ := hel k hlt
          obtain ⟨f⟩ := hel2 k hlt2
          have hbd : Below w.heap.size w wr.drew := hb.out.trans ((Below.refl _ _).drew.mono hb.out.size)
          have e := e.later hg hbd
          have f := f.later hg2 hbd
          have e0 := e.later (Nat.lt_of_lt_of_le hg hbd.size) (Below.refl _ _)
          have HSE : Hid (szL e.l < szN l[k]) := by
            show _ < _
            rw [e.sz]
            omega
          have HNE : Hid (NsAt S wr.drew e.l (.slice e.a e.k e.c)) := e.ns
          have HNF : Hid (NsAt S' wr.drew f.l (.slice f.a f.k f.c)) := f.ns
          have HEQ : Hid (eqN l[k] m[k] = eqN (.mk e.op e.s e.u e.n e.l) (.mk f.op f.s f.u f.n f.l)) := by
            show _ = _
            exact congr (congrArg eqN e.eq) f.eq
          have hcell : ∀ (a : Addr) (v : Value), wr.drew.cell? a = some v → wr.cell? a = some v := fun _ _ h => h
          have q0 := hcell _ _ e.c0
          have q1 := hcell _ _ e.c1
          have q2 := hcell _ _ e.c2
          have q3 := hcell _ _ e.c3
          have q4 := hcell _ _ e.c4
          have p0 := hcell _ _ f.c0
          have p1 := hcell _ _ f.c1
          have p2 := hcell _ _ f.c2
          have p3 := hcell _ _ f.c3
          have p4 := hcell _ _ f.c4
          have x1 : (k : Int) < (l.length : Int) := by omega
          have x4 : (k : Int) < (m.length : Int) := by omega
          have x5 : (0 : Int) ≤ (k : Int) := by omega
          have x3 : IntKind.i64.wrap ((k : Int) + 1) = (k : Int) + 1 := IntWalk.i64_in _ (by have := HLS.out; omega)
          clear hel hel2 hcell e0
          have HCALL : Hid (Calls Tryz.prog 13 #[.agg #[.int .i64 e.op, .string e.s, .string e.u, .int .i64 e.n, .slice e.a e.k e.c], .agg #[.int .i64 f.op, .string f.s, .string f.u, .int .i64 f.n, .slice f.a f.k f.c]] wr.drew (LkP (.bool (eqN l[k] m[k])) wr.drew)) := by
            have := node_step e.op f.op e.n f.n e.s f.s e.u f.u e.l f.l e.a f.a e.k f.k e.c f.c wr.drew fun W hW => HIH.out k hlt e.l f.l _ _ W HSE.out (HNE.out.move fun g h1 h2 => ⟨hW.block g h2, h1⟩) (HNF.out.move fun g h1 h2 => ⟨hW.block g h2, h1⟩)
            rw [HEQ.out]
            exact this
          clear HNE HNF HEQ HSE
          generalize e.op = eo at *
          generalize e.s = es at *
          generalize e.u = eu at *
          generalize e.n = en at *
          generalize e.a = ea at *
          generalize e.k = ek at *
          generalize e.c = ec at *
          generalize f.op = fo at *
          generalize f.s = fs at *
          generalize f.u = fu at *
          generalize f.n = fn at *
          generalize f.a = fa at *
          generalize f.k = fk at *
          generalize f.c = fc at *
          have HBD := Lib.hid hbd
          clear hbd e f hb
          cases hz : eqN l[k] m[k] with
          | true =>
            rw [hz] at HCALL
            have HZ := Lib.hid hz
            clear hz
            go_wp2
            go_region_with (go_at_call 13; refine HCALL.out.mono ?_; rintro e1 W2 ⟨rfl, hb2⟩; have HB2 := Lib.hid (HBD.out.trans (hb2.mono HBD.out.size)); clear hb2)
            all_goals (
              clear q0 q1 q2 q3 q4 p0 p1 p2 p3 p4
              go_wp2
              go_roundw
              case rel =>
                exact ⟨k + 1, hlt, by first | rfl | go_num, pre_on HPRE.out HZ.out, HB2⟩
              case measure => simp [intOf]; omega)
          | false =>
            rw [hz] at HCALL
            have HZ := Lib.hid (HN.out k hlt hlt2 hz)
            clear hz
            go_wp2
            go_region_with (go_at_call 13; refine HCALL.out.mono ?_; rintro e1 W2 ⟨rfl, hb2⟩; have HB2 := Lib.hid (HBD.out.trans (hb2.mono HBD.out.size)); clear hb2)
            all_goals (
              go_wp2
              go_ret
              exact HP.out _ _ HZ.out.symm HB2.out)
        · have hke : k = l.length := by omega
          have x1 : (l.length : Int) ≤ (k : Int) := by omega
          have HE : Hid (true = eqL l m) := (HA.out fun i h h2 => HPRE.out i h h2 (by omega)).symm
          clear hke
          go_wp2
          go_ret
          exact HP.out _ _ HE.out hb.out
    · have x0 : ((l.length : Int) != (m.length : Int)) = true := by
        rw [bne_iff_ne]
        omega
      have HE : Hid (false = eqL l m) := (eqL_len l m hlen).symm
      go_enter Tryz.func18, Tryz.ntmps18
      go_wp2
      go_ret
      exact HP.out _ _ HE.out (Below.refl _ _)
termination_by q => q
decreasing_by omega
theorem sameNode_any (S S' : Nat → Prop) (a b : Nd) (va vb : Value) (w : World) (hq : szN a ≤ 1000000) (h : NdAt S w a va) (h' : NdAt S' w b vb) : Calls Tryz.prog 13 #[va, vb] w (LkP (.bool (eqN a b)) w) := by
  obtain ⟨o, s, t, n, l⟩ := a
  obtain ⟨o2, s2, t2, n2, l2⟩ := b
  cases h with
  | mk h =>
    cases h' with
    | mk h' =>
      obtain ⟨la, lk, lc, rfl⟩ := h.val
      obtain ⟨ma, mk, mc, rfl⟩ := h'.val
      exact node_step _ _ _ _ _ _ _ _ _ _ _ _ _ _ _ _ w fun W hW => same_any S S' 1000000 l l2 _ _ W (by simp only [szN] at hq; omega) (h.move fun g h1 h2 => ⟨hW.block g h2, h1⟩) (h'.move fun g h1 h2 => ⟨hW.block g h2, h1⟩)

end Go.Proofs.YtaocbhfehncdcaaGreatDoor
