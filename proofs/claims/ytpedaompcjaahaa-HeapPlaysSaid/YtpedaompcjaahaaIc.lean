/-
  New, Make, Set, Clear, Root, Drop of the program's heap. Conditions: a heap's size (phi) below 2^20.
-/
import Derived.Test.YtpedaompcjaahaaIb
namespace Go.Proofs.Ytpedaompcjaahaa
open Go.RowKit

theorem lock_hp {S : Nat → Prop} {b : Nat} {h : Hp} {w : World} (hs : SH S b 0 0 h w) : SH S b 1 1 h ((w.setCell ⟨b, 0, none⟩ (.int .i32 1)).setCell ⟨b, 2, none⟩ (.int .i32 1)) ∧ Kp S w ((w.setCell ⟨b, 0, none⟩ (.int .i32 1)).setCell ⟨b, 2, none⟩ (.int .i32 1)) ∧ ((w.setCell ⟨b, 0, none⟩ (.int .i32 1)).setCell ⟨b, 2, none⟩ (.int .i32 1)).heap.size = w.heap.size := by
  obtain ⟨_, _, _, _, _, _, _, _, hSb, _⟩ := hs.open
  exact ⟨(hs.lock1 1).lock2 1, ((Kp.refl S w).set (p := ⟨b, 0, none⟩) (Or.inl hSb) _).set (p := ⟨b, 2, none⟩) (Or.inl hSb) _, by rw [World.size_setCell, World.size_setCell]⟩
theorem unlock_hp {S : Nat → Prop} {b : Nat} {h : Hp} {w : World} (hs : SH S b 1 1 h w) (u : FrameMode) :
    CallsD Try.prog 49 #[.pointer (some ⟨b, 0, none⟩)] u w fun e u' w' => u' = u ∧ (e = .returned (.tuple #[]) ∧ SH S b 0 0 h w' ∧ Kp S w w') := by
  obtain ⟨_, _, c0, c2, _, _, hf, _, hSb, _⟩ := hs.open
  refine (unlock_any b u w c0 c2 hf).mono ?_
  rintro e u' w' ⟨rfl, rfl, rfl⟩
  exact ⟨rfl, rfl, (hs.lock2 0).lock1 0, ((Kp.refl S w).set (p := ⟨b, 2, none⟩) (Or.inl hSb) _).set (p := ⟨b, 0, none⟩) (Or.inl hSb) _⟩
def ToP (S : Nat → Prop) (b : Nat) (h : Hp) (v : Value) (w : World) (e : Ending) (w' : World) : Prop := e = .returned v ∧ SH (New S w.heap.size) b 0 0 h w' ∧ Kp S w w'
/-- Behind the locks. -/
theorem ToP.of {S : Nat → Prop} {b : Nat} {h : Hp} {v : Value} {w w1 w2 w3 : World} (k1 : Kp S w w1) (k2 : Kp S w1 w2) (k3 : Kp (New S w1.heap.size) w2 w3) (hs : SH (New S w1.heap.size) b 0 0 h w3) (hz : w1.heap.size = w.heap.size) : ToP S b h v w (.returned v) w3 := by
  rw [hz] at k3 hs
  exact ⟨rfl, hs, (k1.trans k2 fun _ _ a => a).then k3⟩

def makeR (h : Hp) (f : Int) (wt : Bool) : Hp × Int × Int := if f < 0 ∨ 8 < f then (h, 0, 1) else if 100 ≤ h.cs.length then (h, 0, 3) else (makeF h f.toNat wt, (h.cs.length : Int), 0)
set_option maxRecDepth 100000 in
set_option maxHeartbeats 1600000 in
theorem Make_hp (S : Nat → Prop) (b : Nat) (h : Hp) (f : Int) (wt : Bool) (w : World) (hs : SH S b 0 0 h w) (H : Good h) (hp : phi h ≤ 1000000) :
    Calls Try.prog 34 #[.pointer (some ⟨b, 0, none⟩), .int .i64 f, .bool wt] w (ToP S b (makeR h f wt).1 (.tuple #[.int .i64 (makeR h f wt).2.1, .int .i64 (makeR h f wt).2.2]) w) := by
  obtain ⟨vc, vn, c0, c2, _, _, hf, hbl, hSb, _, _⟩ := hs.open
  obtain ⟨l1, k1, hz⟩ := lock_hp hs
  have hA := add_hp S b 1 1 h f.toNat wt _ l1 H
  obtain ⟨_, _, _, _, c4, _, _, _, _, hC1, _⟩ := l1.open
  obtain ⟨ao, cap, rfl⟩ := hC1.form
  have hX : Hid (∀ w3 v, SH S b 0 0 h w3 → Kp S ((w.setCell ⟨b, 0, none⟩ (.int .i32 1)).setCell ⟨b, 2, none⟩ (.int .i32 1)) w3 → ToP S b h v w (.returned v) w3) := fun w3 v r1 r2 => ⟨rfl, r1.wide fun g a _ => Or.inl a, k1.trans r2 fun _ _ a => a⟩
  by_cases h1 : f < 0 ∨ 8 < f
  · have hm : makeR h f wt = (h, 0, 1) := if_pos h1
    rw [hm]
    clear hC1 hm hs k1 c4 hA
    by_cases h2 : f < 0
    · clear h1
      go_enter_defers Try.func34, Try.ntmps34
      go_wp2_with (first | (go_at_call 48; refine (lock_any b _ c0 c2 hf).mono ?_; rintro e w' ⟨rfl, rfl⟩))
      refine leaves_cons (f := 49) (args := #[.pointer (some ⟨b, 0, none⟩)]) (by simp) (by simp [go_sem]) ?_
      refine (unlock_hp l1 _).mono ?_
      rintro e u' w3 ⟨rfl, rfl, r1, r2⟩
      exact ⟨_, results_tmp2 rfl _ _ _, hX.out w3 _ r1 r2⟩
    · have h3 : 8 < f := h1.resolve_left h2
      clear h1
      go_enter_defers Try.func34, Try.ntmps34
      go_wp2_with (first | (go_at_call 48; refine (lock_any b _ c0 c2 hf).mono ?_; rintro e w' ⟨rfl, rfl⟩))
      refine leaves_cons (f := 49) (args := #[.pointer (some ⟨b, 0, none⟩)]) (by simp) (by simp [go_sem]) ?_
      refine (unlock_hp l1 _).mono ?_
      rintro e u' w3 ⟨rfl, rfl, r1, r2⟩
      exact ⟨_, results_tmp2 rfl _ _ _, hX.out w3 _ r1 r2⟩
  · have h2 : ¬ f < 0 := fun e => h1 (.inl e)
    have h3 : ¬ 8 < f := fun e => h1 (.inr e)
    by_cases h4 : 100 ≤ h.cs.length
    · have hm : makeR h f wt = (h, 0, 3) := (if_neg h1).trans (if_pos h4)
      rw [hm]
      have h5 : (100 : Int) ≤ ((h.cs.length : Nat) : Int) := by omega
      clear hC1 hm hs k1 hA h1 h4
      go_enter_defers Try.func34, Try.ntmps34
      go_wp2_with (first | (go_at_call 48; refine (lock_any b _ c0 c2 hf).mono ?_; rintro e w' ⟨rfl, rfl⟩))
      refine leaves_cons (f := 49) (args := #[.pointer (some ⟨b, 0, none⟩)]) (by simp) (by simp [go_sem]) ?_
      refine (unlock_hp l1 _).mono ?_
      rintro e u' w3 ⟨rfl, rfl, r1, r2⟩
      exact ⟨_, results_tmp2 rfl _ _ _, hX.out w3 _ r1 r2⟩
    · have hm : makeR h f wt = (makeF h f.toNat wt, (h.cs.length : Int), 0) := (if_neg h1).trans (if_neg h4)
      rw [hm]
      have h5 : ¬ (100 : Int) ≤ ((h.cs.length : Nat) : Int) := by omega
      have hA2 := hA (by omega) hp
      have hfn : ((f.toNat : Nat) : Int) = f := by omega
      rw [hfn] at hA2
      have hY : Hid (∀ w2 w3 v, Kp S ((w.setCell ⟨b, 0, none⟩ (.int .i32 1)).setCell ⟨b, 2, none⟩ (.int .i32 1)) w2 → Kp (New S ((w.setCell ⟨b, 0, none⟩ (.int .i32 1)).setCell ⟨b, 2, none⟩ (.int .i32 1)).heap.size) w2 w3 → SH (New S ((w.setCell ⟨b, 0, none⟩ (.int .i32 1)).setCell ⟨b, 2, none⟩ (.int .i32 1)).heap.size) b 0 0 (makeF h f.toNat wt) w3 → ToP S b (makeF h f.toNat wt) v w (.returned v) w3) := fun w2 w3 v q2 r2 r1 => ToP.of k1 q2 r2 r1 hz
      clear hC1 hm hs k1 hA h1 h4 hfn
      go_enter_defers Try.func34, Try.ntmps34
      go_wp2_with (first | (go_at_call 48; refine (lock_any b _ c0 c2 hf).mono ?_; rintro e w' ⟨rfl, rfl⟩))
      refine hA2.mono ?_
      rintro e w2 ⟨rfl, q1, q2⟩
      go_wp2
      refine leaves_cons (f := 49) (args := #[.pointer (some ⟨b, 0, none⟩)]) (by simp) (by simp [go_sem]) ?_
      refine (unlock_hp q1 _).mono ?_
      rintro e u' w3 ⟨rfl, rfl, r1, r2⟩
      exact ⟨_, results_tmp2 rfl _ _ _, hY.out _ w3 _ q2 r2 r1⟩
def setHR (h : Hp) (i f t : Int) (wk : Bool) : Hp × Int := if eField h.cs i f ≠ 0 then (h, eField h.cs i f) else if eLive h.cs t ≠ 0 then (h, eLive h.cs t) else (referF h i.toNat f.toNat t.toNat wk, 0)
set_option maxRecDepth 100000 in
set_option maxHeartbeats 1600000 in
theorem Set_hp (S : Nat → Prop) (b : Nat) (h : Hp) (i f t : Int) (wk : Bool) (w : World) (hs : SH S b 0 0 h w) (H : Good h) (hp : phi h ≤ 1000000) :
    Calls Try.prog 36 #[.pointer (some ⟨b, 0, none⟩), .int .i64 i, .int .i64 f, .int .i64 t, .bool wk] w (ToP S b (setHR h i f t wk).1 (.int .i64 (setHR h i f t wk).2) w) := by
  obtain ⟨vc, vn, c0, c2, _, _, hf, hbl, hSb, _, _⟩ := hs.open
  obtain ⟨l1, k1, hz⟩ := lock_hp hs
  have hX : Hid (∀ w3 v, SH S b 0 0 h w3 → Kp S ((w.setCell ⟨b, 0, none⟩ (.int .i32 1)).setCell ⟨b, 2, none⟩ (.int .i32 1)) w3 → ToP S b h v w (.returned v) w3) := fun w3 v r1 r2 => ⟨rfl, r1.wide fun g a _ => Or.inl a, k1.trans r2 fun _ _ a => a⟩
  have hE := checkField_any S b 1 1 h.cs (cn h.cs) h.ns i f _ l1
  have hL := checkLive_any S b 1 1 h.cs (cn h.cs) h.ns t _ l1
  by_cases h0 : eField h.cs i f = 0
  · obtain ⟨i, f, rfl, rfl, hi, he, hfi⟩ := eField_in h0
    rw [h0] at hE
    by_cases h2 : eLive h.cs t = 0
    · have hm : setHR h i f t wk = (referF h i f t.toNat wk, 0) := (if_neg (fun e => e h0)).trans (if_neg (fun e => e h2))
      rw [hm]
      rw [h2] at hL
      obtain ⟨t, rfl, ht, hte⟩ := eLive_in h2
      rw [Int.toNat_natCast]
      have hR := refer_hp S b 1 1 h i f t wk _ l1 H hi hfi ht hp
      have hY : Hid (∀ w2 w3 v, Kp S ((w.setCell ⟨b, 0, none⟩ (.int .i32 1)).setCell ⟨b, 2, none⟩ (.int .i32 1)) w2 → Kp (New S ((w.setCell ⟨b, 0, none⟩ (.int .i32 1)).setCell ⟨b, 2, none⟩ (.int .i32 1)).heap.size) w2 w3 → SH (New S ((w.setCell ⟨b, 0, none⟩ (.int .i32 1)).setCell ⟨b, 2, none⟩ (.int .i32 1)).heap.size) b 0 0 (referF h i f t wk) w3 → ToP S b (referF h i f t wk) v w (.returned v) w3) := fun w2 w3 v q2 r2 r1 => ToP.of k1 q2 r2 r1 hz
      clear hm hs k1 h0 h2 hi he hfi ht hte
      go_enter_defers Try.func36, Try.ntmps36
      go_wp2_with (first | (go_at_call 48; refine (lock_any b _ c0 c2 hf).mono ?_; rintro e w' ⟨rfl, rfl⟩) | (go_at_call 69; refine (hE).mono ?_; rintro e w' ⟨rfl, rfl⟩) | (go_at_call 60; refine (hL).mono ?_; rintro e w' ⟨rfl, rfl⟩))
      refine hR.mono ?_
      rintro e w2 ⟨rfl, q1, q2⟩
      go_wp2
      refine leaves_cons (f := 49) (args := #[.pointer (some ⟨b, 0, none⟩)]) (by simp) (by simp [go_sem]) ?_
      refine (unlock_hp q1 _).mono ?_
      rintro e u' w3 ⟨rfl, rfl, r1, r2⟩
      exact ⟨_, results_tmp rfl _ _ _, hY.out _ w3 _ q2 r2 r1⟩
    · have hm : setHR h i f t wk = (h, eLive h.cs t) := (if_neg (fun e => e h0)).trans (if_pos h2)
      rw [hm]
      rcases eLive_cases h.cs t with h1 | h1 | h1
      · exact absurd h1 h2
      all_goals
        rw [h1] at hL ⊢
        clear hm hs k1 h0 h2 hi he hfi h1
        go_enter_defers Try.func36, Try.ntmps36
        go_wp2_with (first | (go_at_call 48; refine (lock_any b _ c0 c2 hf).mono ?_; rintro e w' ⟨rfl, rfl⟩) | (go_at_call 69; refine (hE).mono ?_; rintro e w' ⟨rfl, rfl⟩) | (go_at_call 60; refine (hL).mono ?_; rintro e w' ⟨rfl, rfl⟩))
        refine leaves_cons (f := 49) (args := #[.pointer (some ⟨b, 0, none⟩)]) (by simp) (by simp [go_sem]) ?_
        refine (unlock_hp l1 _).mono ?_
        rintro e u' w3 ⟨rfl, rfl, r1, r2⟩
        exact ⟨_, results_tmp rfl _ _ _, hX.out w3 _ r1 r2⟩
  · have hm : setHR h i f t wk = (h, eField h.cs i f) := if_pos h0
    rw [hm]
    rcases eField_cases h.cs i f with h1 | h1 | h1 | h1
    · exact absurd h1 h0
    all_goals
      rw [h1] at hE ⊢
      clear hm hs k1 h0 h1
      go_enter_defers Try.func36, Try.ntmps36
      go_wp2_with (first | (go_at_call 48; refine (lock_any b _ c0 c2 hf).mono ?_; rintro e w' ⟨rfl, rfl⟩) | (go_at_call 69; refine (hE).mono ?_; rintro e w' ⟨rfl, rfl⟩))
      refine leaves_cons (f := 49) (args := #[.pointer (some ⟨b, 0, none⟩)]) (by simp) (by simp [go_sem]) ?_
      refine (unlock_hp l1 _).mono ?_
      rintro e u' w3 ⟨rfl, rfl, r1, r2⟩
      exact ⟨_, results_tmp rfl _ _ _, hX.out w3 _ r1 r2⟩
def clearR (h : Hp) (i f : Int) : Hp × Int := if eField h.cs i f ≠ 0 then (h, eField h.cs i f) else (emptyF h i.toNat f.toNat, 0)
set_option maxRecDepth 100000 in
set_option maxHeartbeats 1600000 in
theorem Clear_hp (S : Nat → Prop) (b : Nat) (h : Hp) (i f : Int) (w : World) (hs : SH S b 0 0 h w) (H : Good h) (hp : phi h ≤ 1000000) :
    Calls Try.prog 37 #[.pointer (some ⟨b, 0, none⟩), .int .i64 i, .int .i64 f] w (ToP S b (clearR h i f).1 (.int .i64 (clearR h i f).2) w) := by
  obtain ⟨vc, vn, c0, c2, _, _, hf, hbl, hSb, _, _⟩ := hs.open
  obtain ⟨l1, k1, hz⟩ := lock_hp hs
  have hX : Hid (∀ w3 v, SH S b 0 0 h w3 → Kp S ((w.setCell ⟨b, 0, none⟩ (.int .i32 1)).setCell ⟨b, 2, none⟩ (.int .i32 1)) w3 → ToP S b h v w (.returned v) w3) := fun w3 v r1 r2 => ⟨rfl, r1.wide fun g a _ => Or.inl a, k1.trans r2 fun _ _ a => a⟩
  have hE := checkField_any S b 1 1 h.cs (cn h.cs) h.ns i f _ l1
  by_cases h0 : eField h.cs i f = 0
  · obtain ⟨i, f, rfl, rfl, hi, he, hfi⟩ := eField_in h0
    rw [h0] at hE
    have hm : clearR h i f = (emptyF h i f, 0) := if_neg (fun e => e h0)
    rw [hm]
    have hR := empty_hp S b 1 1 h i f _ l1 H hi hfi hp
    have hY : Hid (∀ w2 w3 v, Kp S ((w.setCell ⟨b, 0, none⟩ (.int .i32 1)).setCell ⟨b, 2, none⟩ (.int .i32 1)) w2 → Kp (New S ((w.setCell ⟨b, 0, none⟩ (.int .i32 1)).setCell ⟨b, 2, none⟩ (.int .i32 1)).heap.size) w2 w3 → SH (New S ((w.setCell ⟨b, 0, none⟩ (.int .i32 1)).setCell ⟨b, 2, none⟩ (.int .i32 1)).heap.size) b 0 0 (emptyF h i f) w3 → ToP S b (emptyF h i f) v w (.returned v) w3) := fun w2 w3 v q2 r2 r1 => ToP.of k1 q2 r2 r1 hz
    clear hm hs k1 h0 hi he hfi
    go_enter_defers Try.func37, Try.ntmps37
    go_wp2_with (first | (go_at_call 48; refine (lock_any b _ c0 c2 hf).mono ?_; rintro e w' ⟨rfl, rfl⟩) | (go_at_call 69; refine (hE).mono ?_; rintro e w' ⟨rfl, rfl⟩))
    refine hR.mono ?_
    rintro e w2 ⟨rfl, q1, q2⟩
    go_wp2
    refine leaves_cons (f := 49) (args := #[.pointer (some ⟨b, 0, none⟩)]) (by simp) (by simp [go_sem]) ?_
    refine (unlock_hp q1 _).mono ?_
    rintro e u' w3 ⟨rfl, rfl, r1, r2⟩
    exact ⟨_, results_tmp rfl _ _ _, hY.out _ w3 _ q2 r2 r1⟩
  · have hm : clearR h i f = (h, eField h.cs i f) := if_pos h0
    rw [hm]
    rcases eField_cases h.cs i f with h1 | h1 | h1 | h1
    · exact absurd h1 h0
    all_goals
      rw [h1] at hE ⊢
      clear hm hs k1 h0 h1
      go_enter_defers Try.func37, Try.ntmps37
      go_wp2_with (first | (go_at_call 48; refine (lock_any b _ c0 c2 hf).mono ?_; rintro e w' ⟨rfl, rfl⟩) | (go_at_call 69; refine (hE).mono ?_; rintro e w' ⟨rfl, rfl⟩))
      refine leaves_cons (f := 49) (args := #[.pointer (some ⟨b, 0, none⟩)]) (by simp) (by simp [go_sem]) ?_
      refine (unlock_hp l1 _).mono ?_
      rintro e u' w3 ⟨rfl, rfl, r1, r2⟩
      exact ⟨_, results_tmp rfl _ _ _, hX.out w3 _ r1 r2⟩
def rootR (h : Hp) (i : Int) : Hp × Int := if eLive h.cs i ≠ 0 then (h, eLive h.cs i) else (rootF h i.toNat, 0)
set_option maxRecDepth 100000 in
set_option maxHeartbeats 1600000 in
theorem Root_hp (S : Nat → Prop) (b : Nat) (h : Hp) (i : Int) (w : World) (hs : SH S b 0 0 h w) (hp : phi h ≤ 1000000) :
    Calls Try.prog 27 #[.pointer (some ⟨b, 0, none⟩), .int .i64 i] w (ToP S b (rootR h i).1 (.int .i64 (rootR h i).2) w) := by
  obtain ⟨vc, vn, c0, c2, _, _, hf, hbl, hSb, _, _⟩ := hs.open
  obtain ⟨l1, k1, hz⟩ := lock_hp hs
  have hX : Hid (∀ w3 v, SH S b 0 0 h w3 → Kp S ((w.setCell ⟨b, 0, none⟩ (.int .i32 1)).setCell ⟨b, 2, none⟩ (.int .i32 1)) w3 → ToP S b h v w (.returned v) w3) := fun w3 v r1 r2 => ⟨rfl, r1.wide fun g a _ => Or.inl a, k1.trans r2 fun _ _ a => a⟩
  have hE := checkLive_any S b 1 1 h.cs (cn h.cs) h.ns i _ l1
  by_cases h0 : eLive h.cs i = 0
  · obtain ⟨i, rfl, hi, he⟩ := eLive_in h0
    rw [h0] at hE
    have hm : rootR h i = (rootF h i, 0) := if_neg (fun e => e h0)
    rw [hm]
    have hR := root_hp S b 1 1 h i _ l1 hi hp
    have hY : Hid (∀ w2 w3 v, Kp S ((w.setCell ⟨b, 0, none⟩ (.int .i32 1)).setCell ⟨b, 2, none⟩ (.int .i32 1)) w2 → Kp (New S ((w.setCell ⟨b, 0, none⟩ (.int .i32 1)).setCell ⟨b, 2, none⟩ (.int .i32 1)).heap.size) w2 w3 → SH (New S ((w.setCell ⟨b, 0, none⟩ (.int .i32 1)).setCell ⟨b, 2, none⟩ (.int .i32 1)).heap.size) b 0 0 (rootF h i) w3 → ToP S b (rootF h i) v w (.returned v) w3) := fun w2 w3 v q2 r2 r1 => ToP.of k1 q2 r2 r1 hz
    clear hm hs k1 h0 hi he
    go_enter_defers Try.func27, Try.ntmps27
    go_wp2_with (first | (go_at_call 48; refine (lock_any b _ c0 c2 hf).mono ?_; rintro e w' ⟨rfl, rfl⟩) | (go_at_call 60; refine (hE).mono ?_; rintro e w' ⟨rfl, rfl⟩))
    refine hR.mono ?_
    rintro e w2 ⟨rfl, q1, q2⟩
    go_wp2
    refine leaves_cons (f := 49) (args := #[.pointer (some ⟨b, 0, none⟩)]) (by simp) (by simp [go_sem]) ?_
    refine (unlock_hp q1 _).mono ?_
    rintro e u' w3 ⟨rfl, rfl, r1, r2⟩
    exact ⟨_, results_tmp rfl _ _ _, hY.out _ w3 _ q2 r2 r1⟩
  · have hm : rootR h i = (h, eLive h.cs i) := if_pos h0
    rw [hm]
    rcases eLive_cases h.cs i with h1 | h1 | h1
    · exact absurd h1 h0
    all_goals
      rw [h1] at hE ⊢
      clear hm hs k1 h0 h1
      go_enter_defers Try.func27, Try.ntmps27
      go_wp2_with (first | (go_at_call 48; refine (lock_any b _ c0 c2 hf).mono ?_; rintro e w' ⟨rfl, rfl⟩) | (go_at_call 60; refine (hE).mono ?_; rintro e w' ⟨rfl, rfl⟩))
      refine leaves_cons (f := 49) (args := #[.pointer (some ⟨b, 0, none⟩)]) (by simp) (by simp [go_sem]) ?_
      refine (unlock_hp l1 _).mono ?_
      rintro e u' w3 ⟨rfl, rfl, r1, r2⟩
      exact ⟨_, results_tmp rfl _ _ _, hX.out w3 _ r1 r2⟩
def dropR (h : Hp) (i : Int) : Hp × Int := if eLive h.cs i ≠ 0 then (h, eLive h.cs i) else if (cl h.cs i.toNat).rt = 0 then (h, 7) else (dropF h i.toNat, 0)
set_option maxRecDepth 100000 in
set_option maxHeartbeats 1600000 in
theorem Drop_hp (S : Nat → Prop) (b : Nat) (h : Hp) (i : Int) (w : World) (hs : SH S b 0 0 h w) (hp : phi h ≤ 1000000) :
    Calls Try.prog 28 #[.pointer (some ⟨b, 0, none⟩), .int .i64 i] w (ToP S b (dropR h i).1 (.int .i64 (dropR h i).2) w) := by
  obtain ⟨vc, vn, c0, c2, _, _, hf, hbl, hSb, _, _⟩ := hs.open
  obtain ⟨l1, k1, hz⟩ := lock_hp hs
  have hX : Hid (∀ w3 v, SH S b 0 0 h w3 → Kp S ((w.setCell ⟨b, 0, none⟩ (.int .i32 1)).setCell ⟨b, 2, none⟩ (.int .i32 1)) w3 → ToP S b h v w (.returned v) w3) := fun w3 v r1 r2 => ⟨rfl, r1.wide fun g a _ => Or.inl a, k1.trans r2 fun _ _ a => a⟩
  have hE := checkLive_any S b 1 1 h.cs (cn h.cs) h.ns i _ l1
  by_cases h0 : eLive h.cs i = 0
  · obtain ⟨i, rfl, hi, he⟩ := eLive_in h0
    rw [h0] at hE
    obtain ⟨g, cap, h4, hS, hgb, hlt, hcell, hfz⟩ := l1.cell hi
    have hrt : ((w.setCell ⟨b, 0, none⟩ (.int .i32 1)).setCell ⟨b, 2, none⟩ (.int .i32 1)).cell? ⟨g, i * 22 + 20, none⟩ = some (.int .i64 (((cl h.cs i).rt : Nat) : Int)) := hcell i 20 hi (by decide)
    have n1 : ¬ g = b := hgb
    by_cases h2 : (cl h.cs i).rt = 0
    · have hm : dropR h i = (h, 7) := (if_neg (fun e => e h0)).trans (if_pos h2)
      rw [hm]
      rw [h2] at hrt
      clear hm hs k1 h0 he hcell h2
      go_enter_defers Try.func28, Try.ntmps28
      go_wp2_with (first | (go_at_call 48; refine (lock_any b _ c0 c2 hf).mono ?_; rintro e w' ⟨rfl, rfl⟩) | (go_at_call 60; refine (hE).mono ?_; rintro e w' ⟨rfl, rfl⟩))
      refine leaves_cons (f := 49) (args := #[.pointer (some ⟨b, 0, none⟩)]) (by simp) (by simp [go_sem]) ?_
      refine (unlock_hp l1 _).mono ?_
      rintro e u' w3 ⟨rfl, rfl, r1, r2⟩
      exact ⟨_, results_tmp rfl _ _ _, hX.out w3 _ r1 r2⟩
    · have hm : dropR h i = (dropF h i, 0) := (if_neg (fun e => e h0)).trans (if_neg h2)
      rw [hm]
      have hR := drop_hp S b 1 1 h i _ l1 hi hp (Nat.pos_of_ne_zero h2)
      have hY : Hid (∀ w2 w3 v, Kp S ((w.setCell ⟨b, 0, none⟩ (.int .i32 1)).setCell ⟨b, 2, none⟩ (.int .i32 1)) w2 → Kp (New S ((w.setCell ⟨b, 0, none⟩ (.int .i32 1)).setCell ⟨b, 2, none⟩ (.int .i32 1)).heap.size) w2 w3 → SH (New S ((w.setCell ⟨b, 0, none⟩ (.int .i32 1)).setCell ⟨b, 2, none⟩ (.int .i32 1)).heap.size) b 0 0 (dropF h i) w3 → ToP S b (dropF h i) v w (.returned v) w3) := fun w2 w3 v q2 r2 r1 => ToP.of k1 q2 r2 r1 hz
      have hb : ((((cl h.cs i).rt : Nat) : Int) == 0) = false := by
        rw [beq_eq_false_iff_ne]
        omega
      clear hm hs k1 h0 he hcell h2
      go_enter_defers Try.func28, Try.ntmps28
      go_wp2_with (first | (go_at_call 48; refine (lock_any b _ c0 c2 hf).mono ?_; rintro e w' ⟨rfl, rfl⟩) | (go_at_call 60; refine (hE).mono ?_; rintro e w' ⟨rfl, rfl⟩))
      refine hR.mono ?_
      rintro e w2 ⟨rfl, q1, q2⟩
      go_wp2
      refine leaves_cons (f := 49) (args := #[.pointer (some ⟨b, 0, none⟩)]) (by simp) (by simp [go_sem]) ?_
      refine (unlock_hp q1 _).mono ?_
      rintro e u' w3 ⟨rfl, rfl, r1, r2⟩
      exact ⟨_, results_tmp rfl _ _ _, hY.out _ w3 _ q2 r2 r1⟩
  · have hm : dropR h i = (h, eLive h.cs i) := if_pos h0
    rw [hm]
    rcases eLive_cases h.cs i with h1 | h1 | h1
    · exact absurd h1 h0
    all_goals
      rw [h1] at hE ⊢
      clear hm hs k1 h0 h1
      go_enter_defers Try.func28, Try.ntmps28
      go_wp2_with (first | (go_at_call 48; refine (lock_any b _ c0 c2 hf).mono ?_; rintro e w' ⟨rfl, rfl⟩) | (go_at_call 60; refine (hE).mono ?_; rintro e w' ⟨rfl, rfl⟩))
      refine leaves_cons (f := 49) (args := #[.pointer (some ⟨b, 0, none⟩)]) (by simp) (by simp [go_sem]) ?_
      refine (unlock_hp l1 _).mono ?_
      rintro e u' w3 ⟨rfl, rfl, r1, r2⟩
      exact ⟨_, results_tmp rfl _ _ _, hX.out w3 _ r1 r2⟩

end Go.Proofs.Ytpedaompcjaahaa
