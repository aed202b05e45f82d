/-
  Drop and empty of the document's heap. Conditions: a heap's size (phi) below 2^20.
-/
import Derived.Test.YtpedaompcjaahaaRc
import Derived.Deep.RegionLaw
namespace Go.Proofs.Ytpedaompcjaahaa
open Go.RowKit

/-- An append of which the run is known, as one step of a region that draws. -/
theorem step_append_is {P : Program} {ops : Array Oper} {o : Oper} {a : Act} {w : World} {K : Act → World → Prop} {Q : Exit → Act → World → Prop} {E : Prop} (hg : o.guard = none) (s x : Operand) (t : TypeId)
    (hop : o.op = Op.call { callee := Callee.builtin Builtin.append, args := #[s, x], argTypes := #[t, t] }) (v u v' : Value) (w' : World) (hs : a.eval s = v) (hx : a.eval x = u) (hr : (Builtin.append_ #[t, t] o.type #[v, u]).run P w = .ok v' w')
    (hK : K (a.put o.dst v') w') : if Region.wanted o (yielded ops a.tmps) = true then Oper.wp P o a w K Q else E := by
  have hw : Region.wanted o (yielded ops a.tmps) = true := by simp [Region.wanted, hg]
  rw [if_pos hw]
  unfold Oper.wp
  simp [execOp, hop, resolve, invoke, builtin, hs, hx, hr, Result.andThen]
  exact hK

set_option maxRecDepth 100000 in
set_option maxHeartbeats 4000000 in
theorem rDrop_hp (S : Nat → Prop) (r : Nat) (h : Hp) (i : Int) (w : World) (hs : RH S r h w) (H : Good h) (hp : phi h ≤ 1000000) :
    Calls Try.prog 42 #[.pointer (some ⟨r, 0, none⟩), .int .i64 i] w (RoP S r (dropR h i).1 (.int .i64 (dropR h i).2) w) := by
  have hE := there_any S r h.cs h.ns i w hs
  by_cases h0 : eLive h.cs i = 0
  · obtain ⟨i, rfl, hi, he⟩ := eLive_in h0
    rw [h0] at hE
    have hb := cnt_small hp i
    obtain ⟨vc, vn, fv, hI⟩ := id hs
    obtain ⟨g, cap, rfl, hS, hgr, hgl, hcell, hfz⟩ := hI.cell hi
    have c0 := hI.open.1
    have hrt : w.cell? ⟨g, i * 5 + 4, none⟩ = some (.int .i64 (((cl h.cs i).rt : Nat) : Int)) := hcell i 4 hi (by decide)
    by_cases h2 : (cl h.cs i).rt = 0
    · have hm : dropR h i = (h, 7) := (if_neg (fun e => e h0)).trans (if_pos h2)
      rw [hm]
      rw [h2] at hrt
      have hX : Hid (∀ v, RoP S r h v w (.returned v) w) := fun v => ⟨rfl, hs.wide fun g a _ => Or.inl a, Kp.refl S w⟩
      clear hm h0 he hcell hI hs h2
      go_enter Try.func42, Try.ntmps42
      go_wp2_with (go_at_call 73; refine hE.mono ?_; rintro e w' ⟨rfl, rfl⟩)
      go_ret
      exact hX.out _
    · have hm : dropR h i = (dropF h i, 0) := (if_neg (fun e => e h0)).trans (if_neg h2)
      rw [hm]
      have a1 := hI.store (n := i) (k := 4) (c := { cl h.cs i with rt := (cl h.cs i).rt - 1 }) (u := .int .i64 (((cl h.cs i).rt - 1 : Nat) : Int)) hi (by decide) rfl (fun a b _ hj => rcv_setR h.cs fv i _ hi a b hj)
      have A1 : RS S r (setR h.cs i ((cl h.cs i).rt - 1)) h.ns (w.setCell ⟨g, i * 5 + 4, none⟩ (.int .i64 (((cl h.cs i).rt - 1 : Nat) : Int))) := ⟨_, _, _, a1⟩
      have k1 : Kp S w (w.setCell ⟨g, i * 5 + 4, none⟩ (.int .i64 (((cl h.cs i).rt - 1 : Nat) : Int))) := (Kp.refl S w).set (p := ⟨g, i * 5 + 4, none⟩) (Or.inl hS) _
      have hG : Good ⟨setR h.cs i ((cl h.cs i).rt - 1), h.ns⟩ := H.lower hi he _
      have hcle : cnt (setR h.cs i ((cl h.cs i).rt - 1)) i ≤ 1000000 := by
        have := cnt_setR h.cs i ((cl h.cs i).rt - 1) i hi
        have h4 := cnt_le_phi h.cs h.ns i
        have h5 : phi ⟨h.cs, h.ns⟩ = phi h := rfl
        simp at this
        omega
      have hC := counted_any S r _ h.ns i _ A1 (by rw [setR_length]; exact hi) hG.kind (fun e => hG.ended i e) hcle hG.few hG.wide
      have hF : Hid (dropF h i = if cnt (setR h.cs i ((cl h.cs i).rt - 1)) i = 0 then ⟨setR h.cs i ((cl h.cs i).rt - 1), h.ns ++ [i]⟩ else ⟨setR h.cs i ((cl h.cs i).rt - 1), h.ns⟩) := rfl
      have hrb : ((((cl h.cs i).rt : Nat) : Int) == 0) = false := by
        rw [beq_eq_false_iff_ne]
        omega
      have hw1 : IntKind.wrap .i64 ((((cl h.cs i).rt : Nat) : Int) - 1) = (((cl h.cs i).rt - 1 : Nat) : Int) := by
        rw [wrap_ok (by omega) (by omega)]
        omega
      have HA := Lib.hid A1
      have HK := Lib.hid k1
      have hnl := hb.2.2.2
      clear hm h0 he hcell hI hs h2 hb a1 A1 k1 hG hcle
      generalize hcq : cnt (setR h.cs i ((cl h.cs i).rt - 1)) i = q at *
      generalize (setR h.cs i ((cl h.cs i).rt - 1)) = cs1 at *
      generalize (cl h.cs i).rt - 1 = x1 at *
      generalize (cl h.cs i).rt = x at *
      generalize dropF h i = h2 at *
      go_enter Try.func42, Try.ntmps42
      go_wp2_with (first | (go_at_call 73; refine hE.mono ?_; rintro e w' ⟨rfl, rfl⟩))
      refine hC.mono ?_
      rintro e w2 ⟨rfl, hb⟩
      obtain ⟨vc2, vn2, fv2, hI2⟩ := HA.out.low hb
      obtain ⟨d0, d1, dz, drl, _⟩ := hI2.open
      have HK2 : Hid (Kp S w w2) := HK.out.trans (Kp.below hb) fun _ _ a => a
      by_cases hq : q = 0
      · obtain ⟨ao, m, c, w3, hr, y5, y5f, q1, q2⟩ := at_rnote hI2 i hnl w2.heap.size rfl
        have hX : Hid (RoP S r h2 (.int .i64 0) w (.returned (.int .i64 0)) (w3.setCell ⟨r, 1, none⟩ (.slice ao m c))) := by
          rw [hF.out, if_pos hq]
          exact ⟨rfl, q1.wide fun g a _ => a.elim Or.inl fun a => Or.inr (Nat.le_trans HK2.out.size a), HK2.out.trans q2 fun _ _ a => a⟩
        have hqb : ((q : Int) == 0) = true := by rw [hq]; rfl
        clear q1 q2 hI2 hb hC hF hq hE d0 hcq
        go_wp2_with (at_builtin; refine wpList_append_is _ rfl _ _ 28 rfl vn2 _ (.slice ao m c) w3 rfl rfl hr ?_)
        go_ret
        exact hX.out
      · have hX : Hid (RoP S r h2 (.int .i64 0) w (.returned (.int .i64 0)) w2) := by
          rw [hF.out, if_neg hq]
          exact ⟨rfl, (HA.out.low hb).wide fun g a _ => Or.inl a, HK2.out⟩
        have hqb : ((q : Int) == 0) = false := by
          rw [beq_eq_false_iff_ne]
          omega
        clear hI2 hb hC hF hq hE d0 d1 hcq
        go_wp2
        go_ret
        exact hX.out
  · have hm : dropR h i = (h, eLive h.cs i) := if_pos h0
    rw [hm]
    rcases eLive_cases h.cs i with h1 | h1 | h1
    · exact absurd h1 h0
    all_goals
      rw [h1] at hE ⊢
      have hX : Hid (∀ v, RoP S r h v w (.returned v) w) := fun v => ⟨rfl, hs.wide fun g a _ => Or.inl a, Kp.refl S w⟩
      clear hm h0 h1 hs
      go_enter Try.func42, Try.ntmps42
      go_wp2_with (go_at_call 73; refine hE.mono ?_; rintro e w' ⟨rfl, rfl⟩)
      go_ret
      exact hX.out _

end Go.Proofs.Ytpedaompcjaahaa
