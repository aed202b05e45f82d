/-
  The methods of no heap; what the acts keep; known: a heap of two cells. Conditions: none.
-/
import Derived.Test.YtpedaompcjaahaaIf
namespace Go.Proofs.Ytpedaompcjaahaa
open Go.RowKit

set_option maxRecDepth 100000 in
set_option maxHeartbeats 1600000 in
theorem Make_nil (f : Int) (wt : Bool) (w : World) : Calls Try.prog 34 #[.pointer none, .int .i64 f, .bool wt] w fun e w' => e = .returned (.tuple #[.int .i64 0, .int .i64 9]) ∧ w = w' := by
  go_enter_defers Try.func34, Try.ntmps34
  go_wp2
  exact ⟨_, results_tmp2 rfl _ _ _, rfl, rfl⟩
set_option maxRecDepth 100000 in
set_option maxHeartbeats 1600000 in
theorem Get_nil (i f : Int) (w : World) : Calls Try.prog 35 #[.pointer none, .int .i64 i, .int .i64 f] w fun e w' => e = .returned (.tuple #[.int .i64 0, .bool false, .bool false, .int .i64 9]) ∧ w = w' := by
  go_enter_defers Try.func35, Try.ntmps35
  go_wp2
  exact ⟨.tuple #[.int .i64 0, .bool false, .bool false, .int .i64 9], (by simp [results, Try.results35, go_sem]), rfl, rfl⟩
set_option maxRecDepth 100000 in
set_option maxHeartbeats 1600000 in
theorem Count_nil (i : Int) (w : World) : Calls Try.prog 24 #[.pointer none, .int .i64 i] w fun e w' => e = .returned (.tuple #[.int .i64 0, .int .i64 9]) ∧ w = w' := by
  go_enter_defers Try.func24, Try.ntmps24
  go_wp2
  exact ⟨_, results_tmp2 rfl _ _ _, rfl, rfl⟩
set_option maxRecDepth 100000 in
set_option maxHeartbeats 1600000 in
theorem State_nil (i : Int) (w : World) : Calls Try.prog 23 #[.pointer none, .int .i64 i] w fun e w' => e = .returned (.tuple #[.int .i64 0, .int .i64 9]) ∧ w = w' := by
  go_enter_defers Try.func23, Try.ntmps23
  go_wp2
  exact ⟨_, results_tmp2 rfl _ _ _, rfl, rfl⟩
set_option maxRecDepth 100000 in
set_option maxHeartbeats 1600000 in
theorem Next_nil (w : World) : Calls Try.prog 26 #[.pointer none] w fun e w' => e = .returned (.tuple #[.int .i64 0, .bool false]) ∧ w = w' := by
  go_enter_defers Try.func26, Try.ntmps26
  go_wp2
  exact ⟨_, results_tmp2 rfl _ _ _, rfl, rfl⟩
set_option maxRecDepth 100000 in
set_option maxHeartbeats 1600000 in
theorem Set_nil (i f t : Int) (wk : Bool) (w : World) : Calls Try.prog 36 #[.pointer none, .int .i64 i, .int .i64 f, .int .i64 t, .bool wk] w fun e w' => e = .returned (.int .i64 9) ∧ w = w' := by
  go_enter_defers Try.func36, Try.ntmps36
  go_wp2
  exact ⟨_, results_tmp rfl _ _ _, rfl, rfl⟩
set_option maxRecDepth 100000 in
set_option maxHeartbeats 1600000 in
theorem Clear_nil (i f : Int) (w : World) : Calls Try.prog 37 #[.pointer none, .int .i64 i, .int .i64 f] w fun e w' => e = .returned (.int .i64 9) ∧ w = w' := by
  go_enter_defers Try.func37, Try.ntmps37
  go_wp2
  exact ⟨_, results_tmp rfl _ _ _, rfl, rfl⟩
set_option maxRecDepth 100000 in
set_option maxHeartbeats 1600000 in
theorem Root_nil (i : Int) (w : World) : Calls Try.prog 27 #[.pointer none, .int .i64 i] w fun e w' => e = .returned (.int .i64 9) ∧ w = w' := by
  go_enter_defers Try.func27, Try.ntmps27
  go_wp2
  exact ⟨_, results_tmp rfl _ _ _, rfl, rfl⟩
set_option maxRecDepth 100000 in
set_option maxHeartbeats 1600000 in
theorem Drop_nil (i : Int) (w : World) : Calls Try.prog 28 #[.pointer none, .int .i64 i] w fun e w' => e = .returned (.int .i64 9) ∧ w = w' := by
  go_enter_defers Try.func28, Try.ntmps28
  go_wp2
  exact ⟨_, results_tmp rfl _ _ _, rfl, rfl⟩
set_option maxRecDepth 100000 in
set_option maxHeartbeats 1600000 in
theorem Settle_nil (w : World) : Calls Try.prog 22 #[.pointer none] w fun e w' => e = .returned (.slice none 0 0) ∧ w = w' := by
  go_enter_defers Try.func22, Try.ntmps22
  go_wp2
  exact ⟨_, results_tmp rfl _ _ _, rfl, rfl⟩
set_option maxRecDepth 100000 in
set_option maxHeartbeats 1600000 in
theorem Cycles_nil (w : World) : Calls Try.prog 19 #[.pointer none] w fun e w' => e = .returned (.slice none 0 0) ∧ w = w' := by
  go_enter_defers Try.func19, Try.ntmps19
  go_wp2
  exact ⟨_, results_tmp rfl _ _ _, rfl, rfl⟩
set_option maxRecDepth 100000 in
set_option maxHeartbeats 1600000 in
theorem Lost_nil (w : World) : Calls Try.prog 16 #[.pointer none] w fun e w' => e = .returned (.slice none 0 0) ∧ w = w' := by
  go_enter_defers Try.func16, Try.ntmps16
  go_wp2
  exact ⟨_, results_tmp rfl _ _ _, rfl, rfl⟩
set_option maxRecDepth 100000 in
set_option maxHeartbeats 1600000 in
theorem Reached_nil (w : World) : Calls Try.prog 14 #[.pointer none] w fun e w' => e = .returned (.slice none 0 0) ∧ w = w' := by
  go_enter_defers Try.func14, Try.ntmps14
  go_wp2
  exact ⟨_, results_tmp rfl _ _ _, rfl, rfl⟩
set_option maxRecDepth 100000 in
set_option maxHeartbeats 1600000 in
theorem Copy_nil (w : World) : Calls Try.prog 30 #[.pointer none] w fun e w' => e = .returned (.pointer none) ∧ w = w' := by
  go_enter_defers Try.func30, Try.ntmps30
  go_wp2
  exact ⟨_, results_tmp rfl _ _ _, rfl, rfl⟩
set_option maxRecDepth 100000 in
set_option maxHeartbeats 1600000 in
theorem Same_nils (w : World) : Calls Try.prog 32 #[.pointer none, .pointer none] w fun e w' => e = .returned (.bool true) ∧ w = w' := by
  go_enter_defers Try.func32, Try.ntmps32
  go_wp2
  exact ⟨_, results_tmp rfl _ _ _, rfl, rfl⟩
set_option maxRecDepth 100000 in
set_option maxHeartbeats 1600000 in
theorem Same_nil (p : Addr) (w : World) : Calls Try.prog 32 #[.pointer none, .pointer (some p)] w fun e w' => e = .returned (.bool false) ∧ w = w' := by
  go_enter_defers Try.func32, Try.ntmps32
  go_wp2
  exact ⟨_, results_tmp rfl _ _ _, rfl, rfl⟩

/-- What an act keeps: a good heap, and how much there is. -/
structure Ok (h h' : Hp) : Prop where
  good : Good h'
  phi : phi h' ≤ phi h + 1
theorem Ok.refl {h : Hp} (H : Good h) : Ok h h := ⟨H, Nat.le_succ _⟩
theorem makeR_ok {h : Hp} (H : Good h) (f : Int) (wt : Bool) : Ok h (makeR h f wt).1 := by
  unfold makeR
  split
  · exact Ok.refl H
  · split
    · exact Ok.refl H
    · exact ⟨H.make (by omega) (by omega) wt, by rw [phi_make]; exact Nat.le_refl _⟩
theorem setHR_ok {h : Hp} (H : Good h) (i f t : Int) (wk : Bool) : Ok h (setHR h i f t wk).1 := by
  unfold setHR
  split
  · exact Ok.refl H
  · rename_i h1
    obtain ⟨i, f, rfl, rfl, hi, he, hf⟩ := eField_in (Decidable.byContradiction h1)
    split
    · exact Ok.refl H
    · rename_i h2
      obtain ⟨t, rfl, ht, hte⟩ := eLive_in (Decidable.byContradiction h2)
      exact ⟨H.refer hi hf ht hte wk, phi_refer h i f t wk hi hf⟩
theorem clearR_ok {h : Hp} (H : Good h) (i f : Int) : Ok h (clearR h i f).1 := by
  unfold clearR
  split
  · exact Ok.refl H
  · rename_i h1
    obtain ⟨i, f, rfl, rfl, hi, he, hf⟩ := eField_in (Decidable.byContradiction h1)
    exact ⟨H.empty hi hf, Nat.le_succ_of_le (phi_empty h i f hi hf)⟩
theorem rootR_ok {h : Hp} (H : Good h) (i : Int) : Ok h (rootR h i).1 := by
  unfold rootR
  split
  · exact Ok.refl H
  · rename_i h1
    obtain ⟨i, rfl, hi, he⟩ := eLive_in (Decidable.byContradiction h1)
    exact ⟨H.root hi he, Nat.le_of_eq (phi_root h i hi)⟩
theorem dropR_ok {h : Hp} (H : Good h) (i : Int) : Ok h (dropR h i).1 := by
  unfold dropR
  split
  · exact Ok.refl H
  · rename_i h1
    obtain ⟨i, rfl, hi, he⟩ := eLive_in (Decidable.byContradiction h1)
    split
    · exact Ok.refl H
    · rename_i h2
      exact ⟨H.drop hi he, Nat.le_succ_of_le (phi_drop h i hi (Nat.pos_of_ne_zero h2))⟩
theorem nextH_ok {h : Hp} (H : Good h) : Ok h (nextH h).1 := ⟨(nextF_ok _ h H).good, Nat.le_succ_of_le (nextF_ok _ h H).phi⟩
theorem settleF_ok : ∀ (f : Nat) (h : Hp), Good h → Good (settleF f h).1 ∧ phi (settleF f h).1 ≤ phi h
  | 0, h, H => ⟨H, Nat.le_refl _⟩
  | f + 1, h, H => by
    have hok : NxOk h (nextH h) := nextF_ok (phi h) h H
    generalize hr : nextH h = r at hok
    obtain ⟨h2, o⟩ := r
    cases o with
    | none =>
      rw [settleF_none f h h2 hr]
      exact ⟨hok.good, hok.phi⟩
    | some n =>
      rw [settleF_some f h h2 n hr]
      have hc := hok.cell n rfl
      have h3 := settleF_ok f (dropF h2 n) (hok.good.drop hc.1 hc.2.1)
      exact ⟨h3.1, Nat.le_trans h3.2 (Nat.le_trans (phi_drop h2 n hc.1 hc.2.2.1) hok.phi)⟩
theorem settleH_ok {h : Hp} (H : Good h) : Ok h (settleH h).1 := ⟨(settleF_ok _ h H).1, Nat.le_succ_of_le (settleF_ok _ h H).2⟩

/-- A heap of the call's own. -/
structure Kn (w : World) (b : Nat) (h : Hp) (wr : World) : Prop where
  heap : SH (fun g => w.heap.size ≤ g) b 0 0 h wr
  kept : Kp (fun g => w.heap.size ≤ g) w wr
theorem Kn.step {w : World} {b : Nat} {h h' : Hp} {v : Value} {e : Ending} {wr w' : World} (k : Kn w b h wr) (t : ToP (fun g => w.heap.size ≤ g) b h' v wr e w') : Kn w b h' w' :=
  ⟨t.2.1.wide fun g a _ => a.elim id fun a => Nat.le_trans k.kept.size a, k.kept.trans t.2.2 fun _ _ a => a⟩
theorem Kn.of {w : World} {wr w' : World} (k : Kp (fun g => w.heap.size ≤ g) w wr) (hs : SH (fun g => wr.heap.size = g) wr.heap.size 0 0 ⟨[], []⟩ w') (hk : Kp (fun _ => False) wr w') : Kn w wr.heap.size ⟨[], []⟩ w' :=
  ⟨hs.wide fun _ a _ => by subst a; exact k.size, k.trans hk fun _ _ a => a.elim⟩
def kh1 : Hp := (makeR ⟨[], []⟩ 1 false).1
def kh2 : Hp := (makeR kh1 0 false).1
def kh3 : Hp := (rootR kh2 0).1
def kh4 : Hp := (setHR kh3 0 0 1 false).1
def kh5 : Hp := (dropR kh4 0).1
def kh6 : Hp := (settleH kh5).1
theorem g1 : Ok ⟨[], []⟩ kh1 := makeR_ok good_nil 1 false
theorem g2 : Ok kh1 kh2 := makeR_ok g1.good 0 false
theorem g3 : Ok kh2 kh3 := rootR_ok g2.good 0
theorem g4 : Ok kh3 kh4 := setHR_ok g3.good 0 0 1 false
theorem g5 : Ok kh4 kh5 := dropR_ok g4.good 0
theorem g6 : Ok kh5 kh6 := settleH_ok g5.good
def KwP (w : World) (e : Ending) (w' : World) : Prop := e = .returned (.bool true) ∧ Kp (fun g => w.heap.size ≤ g) w w'
set_option maxRecDepth 100000 in
set_option maxHeartbeats 1600000 in
theorem known_any (w : World) : Calls Try.prog 9 #[] w (KwP w) := by
  have c1 : ∀ wr, Kn w w.heap.size ⟨[], []⟩ wr → Calls Try.prog 34 #[.pointer (some ⟨w.heap.size, 0, none⟩), .int .i64 1, .bool false] wr (ToP (fun g => w.heap.size ≤ g) w.heap.size kh1 (.tuple #[.int .i64 0, .int .i64 0]) wr) := fun wr k => Make_hp (fun g => w.heap.size ≤ g) w.heap.size ⟨[], []⟩ 1 false wr k.heap good_nil (by decide)
  have c2 : ∀ wr, Kn w w.heap.size kh1 wr → Calls Try.prog 34 #[.pointer (some ⟨w.heap.size, 0, none⟩), .int .i64 0, .bool false] wr (ToP (fun g => w.heap.size ≤ g) w.heap.size kh2 (.tuple #[.int .i64 1, .int .i64 0]) wr) := fun wr k => Make_hp (fun g => w.heap.size ≤ g) w.heap.size kh1 0 false wr k.heap g1.good (by decide)
  have c3 : ∀ wr, Kn w w.heap.size kh2 wr → Calls Try.prog 27 #[.pointer (some ⟨w.heap.size, 0, none⟩), .int .i64 0] wr (ToP (fun g => w.heap.size ≤ g) w.heap.size kh3 (.int .i64 0) wr) := fun wr k => Root_hp (fun g => w.heap.size ≤ g) w.heap.size kh2 0 wr k.heap (by decide)
  have c4 : ∀ wr, Kn w w.heap.size kh3 wr → Calls Try.prog 36 #[.pointer (some ⟨w.heap.size, 0, none⟩), .int .i64 0, .int .i64 0, .int .i64 1, .bool false] wr (ToP (fun g => w.heap.size ≤ g) w.heap.size kh4 (.int .i64 0) wr) := fun wr k => Set_hp (fun g => w.heap.size ≤ g) w.heap.size kh3 0 0 1 false wr k.heap g3.good (by decide)
  have c5 : ∀ wr, Kn w w.heap.size kh4 wr → Calls Try.prog 28 #[.pointer (some ⟨w.heap.size, 0, none⟩), .int .i64 0] wr (ToP (fun g => w.heap.size ≤ g) w.heap.size kh5 (.int .i64 0) wr) := fun wr k => Drop_hp (fun g => w.heap.size ≤ g) w.heap.size kh4 0 wr k.heap (by decide)
  have c6 : ∀ wr, Kn w w.heap.size kh5 wr → Calls Try.prog 22 #[.pointer (some ⟨w.heap.size, 0, none⟩)] wr (SeP (fun g => w.heap.size ≤ g) w.heap.size 0 0 (settleH kh5) wr) := fun wr k => Settle_hp (fun g => w.heap.size ≤ g) w.heap.size kh5 wr k.heap g5.good (by decide)
  have c7 : ∀ wr, Kn w w.heap.size kh6 wr → Calls Try.prog 23 #[.pointer (some ⟨w.heap.size, 0, none⟩), .int .i64 0] wr (ToP (fun g => w.heap.size ≤ g) w.heap.size kh6 (.tuple #[.int .i64 2, .int .i64 0]) wr) := fun wr k => State_hp (fun g => w.heap.size ≤ g) w.heap.size kh6 0 wr k.heap
  have c8 : ∀ wr, Kn w w.heap.size kh6 wr → Calls Try.prog 23 #[.pointer (some ⟨w.heap.size, 0, none⟩), .int .i64 1] wr (ToP (fun g => w.heap.size ≤ g) w.heap.size kh6 (.tuple #[.int .i64 2, .int .i64 0]) wr) := fun wr k => State_hp (fun g => w.heap.size ≤ g) w.heap.size kh6 1 wr k.heap
  go_enter Try.func9, Try.ntmps9
  go_wp2_with fail
  refine (New_hp w).mono ?_
  rintro e w1 ⟨rfl, q1, q2, q3⟩
  have k0 : Kn w w.heap.size ⟨[], []⟩ w1 := Kn.of (Kp.refl _ w) q1 q2
  clear q1 q2 q3
  go_wp2_with fail
  refine (c1 _ k0).mono ?_
  intro e w2 t
  have k1 := k0.step t
  obtain ⟨rfl, _, _⟩ := t
  clear k0
  go_wp2_with fail
  refine (c2 _ k1).mono ?_
  intro e w3 t
  have k2 := k1.step t
  obtain ⟨rfl, _, _⟩ := t
  clear k1
  go_wp2_with fail
  refine (c3 _ k2).mono ?_
  intro e w4 t
  have k3 := k2.step t
  obtain ⟨rfl, _, _⟩ := t
  clear k2
  go_wp2_with fail
  refine (c4 _ k3).mono ?_
  intro e w5 t
  have k4 := k3.step t
  obtain ⟨rfl, _, _⟩ := t
  clear k3
  go_wp2_with fail
  refine (c5 _ k4).mono ?_
  intro e w6 t
  have k5 := k4.step t
  obtain ⟨rfl, _, _⟩ := t
  clear k4
  go_wp2_with fail
  refine (c6 _ k5).mono ?_
  rintro e w7 ⟨v, F, T, rfl, q⟩
  have k6 : Kn w w.heap.size kh6 w7 := ⟨q.heap.wide fun g a _ => (q.foot g a).1.elim id fun a => Nat.le_trans k5.kept.size a, k5.kept.trans q.kept fun _ _ a => a⟩
  clear q k5
  go_wp2_with fail
  refine (c7 _ k6).mono ?_
  intro e w8 t
  have k7 := k6.step t
  obtain ⟨rfl, _, _⟩ := t
  clear k6
  go_wp2_with fail
  refine (c8 _ k7).mono ?_
  intro e w9 t
  have k8 := k7.step t
  obtain ⟨rfl, _, _⟩ := t
  clear k7
  have kf := Lib.hid k8.kept
  clear k8
  go_wp2
  go_ret
  exact ⟨rfl, kf.out⟩

end Go.Proofs.Ytpedaompcjaahaa
