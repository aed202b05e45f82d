/-
  there, field, Root, Drop, Count, State, Get of the document's heap. Conditions: a heap's size (phi) below 2^20.
-/
import Derived.Test.YtpedaompcjaahaaRb
namespace Go.Proofs.Ytpedaompcjaahaa
open Go.RowKit

theorem rcv_set (cs : List Cl) (fv : Nat → Value) (n : Nat) (c : Cl) (hn : n < cs.length) (i j : Nat) (hj : j < 5) : rcv (cs.set n c) fv i j =
    if i = n ∧ j = 1 then .bool c.wt else if i = n ∧ j = 2 then .bool c.td else if i = n ∧ j = 3 then .bool c.en else if i = n ∧ j = 4 then .int .i64 (c.rt : Nat) else rcv cs fv i j := by
  unfold rcv
  rw [cl_set cs n i c hn]
  by_cases hi : i = n
  · subst hi
    have h : j = 0 ∨ j = 1 ∨ j = 2 ∨ j = 3 ∨ j = 4 := by omega
    rcases h with rfl | rfl | rfl | rfl | rfl <;> simp
  · simp [hi]
theorem rcv_setR (cs : List Cl) (fv : Nat → Value) (n r : Nat) (hn : n < cs.length) (i j : Nat) (hj : j < 5) : rcv (cs.set n { cl cs n with rt := r }) fv i j = if i = n ∧ j = 4 then .int .i64 (r : Nat) else rcv cs fv i j := by
  refine (rcv_set cs fv n { cl cs n with rt := r } hn i j hj).trans ?_
  by_cases hi : i = n
  · subst hi
    have h : j = 0 ∨ j = 1 ∨ j = 2 ∨ j = 3 ∨ j = 4 := by omega
    rcases h with rfl | rfl | rfl | rfl | rfl <;> simp [rcv]
  · simp [hi]
theorem rcv_setT (cs : List Cl) (fv : Nat → Value) (n : Nat) (hn : n < cs.length) (i j : Nat) (hj : j < 5) : rcv (cs.set n { cl cs n with td := true }) fv i j = if i = n ∧ j = 2 then .bool true else rcv cs fv i j := by
  refine (rcv_set cs fv n { cl cs n with td := true } hn i j hj).trans ?_
  by_cases hi : i = n
  · subst hi
    have h : j = 0 ∨ j = 1 ∨ j = 2 ∨ j = 3 ∨ j = 4 := by omega
    rcases h with rfl | rfl | rfl | rfl | rfl <;> simp [rcv]
  · simp [hi]
theorem rcv_setE (cs : List Cl) (fv : Nat → Value) (n : Nat) (hn : n < cs.length) (i j : Nat) (hj : j < 5) : rcv (cs.set n { cl cs n with en := true }) fv i j = if i = n ∧ j = 3 then .bool true else rcv cs fv i j := by
  refine (rcv_set cs fv n { cl cs n with en := true } hn i j hj).trans ?_
  by_cases hi : i = n
  · subst hi
    have h : j = 0 ∨ j = 1 ∨ j = 2 ∨ j = 3 ∨ j = 4 := by omega
    rcases h with rfl | rfl | rfl | rfl | rfl <;> simp [rcv]
  · simp [hi]
theorem Good.ended {h : Hp} (H : Good h) (n : Nat) (he : (cl h.cs n).en = true) : cnt h.cs n = 0 := by
  have h1 := H.over n he
  unfold cnt
  rw [h1, sum_zero]
  intro c hc
  obtain ⟨i, hi, rfl⟩ := List.mem_iff_getElem.1 hc
  unfold strong
  rw [List.countP_eq_zero]
  intro x hx
  obtain ⟨k, hk, rfl⟩ := List.mem_iff_getElem.1 hx
  have e : fd h.cs i k = h.cs[i].fs[k] := by
    unfold fd
    rw [cl_get h.cs i hi, List.getElem?_eq_getElem hk]
    rfl
  intro he2
  have he3 := eq_of_beq he2
  have := H.live i k (by rw [e, he3])
  rw [e, he3] at this
  rw [he] at this
  cases this
def RoP (S : Nat → Prop) (r : Nat) (h : Hp) (v : Value) (w : World) (e : Ending) (w' : World) : Prop := e = .returned v ∧ RH (New S w.heap.size) r h w' ∧ Kp S w w'

set_option maxRecDepth 100000 in
set_option maxHeartbeats 1600000 in
theorem there_any (S : Nat → Prop) (r : Nat) (cs : List Cl) (ns : List Nat) (n : Int) (w : World) (hs : RS S r cs ns w) :
    Calls Try.prog 73 #[.pointer (some ⟨r, 0, none⟩), .int .i64 n] w fun e w' => e = .returned (.int .i64 (eLive cs n)) ∧ w = w' := by
  obtain ⟨vc, vn, fv, hI⟩ := hs
  obtain ⟨c0, _, _, _, ao, cap, rfl⟩ := hI.open
  by_cases h1 : n < 0
  · have hv : eLive cs n = 4 := if_pos (.inl h1)
    rw [hv]
    clear hv hI
    go_enter Try.func73, Try.ntmps73
    go_wp2
    go_ret
    exact ⟨rfl, rfl⟩
  · by_cases h2 : ((cs.length : Nat) : Int) ≤ n
    · have hv : eLive cs n = 4 := if_pos (.inr h2)
      rw [hv]
      clear hv hI
      go_enter Try.func73, Try.ntmps73
      go_wp2
      go_ret
      exact ⟨rfl, rfl⟩
    · have h3 : ¬ (n < 0 ∨ ((cs.length : Nat) : Int) ≤ n) := by omega
      obtain ⟨k, rfl, hk⟩ := toNat_of h1 h2
      obtain ⟨g, capc, e, _, _, _, hcell, _⟩ := hI.cell hk
      rw [e] at c0
      have hen : w.cell? ⟨g, k * 5 + 3, none⟩ = some (.bool (cl cs k).en) := hcell k 3 hk (by decide)
      have hv : eLive cs (k : Int) = if (cl cs k).en = true then 9 else 0 := if_neg h3
      rw [hv]
      clear hv hI hcell e
      generalize (cl cs k).en = en at *
      cases en
      all_goals
        simp only [Bool.false_eq_true, if_false, if_true]
        go_enter Try.func73, Try.ntmps73
        go_wp2
        go_ret
        exact ⟨rfl, rfl⟩
set_option maxRecDepth 100000 in
set_option maxHeartbeats 1600000 in
theorem field_any (S : Nat → Prop) (r : Nat) (cs : List Cl) (ns : List Nat) (n f : Int) (w : World) (hs : RS S r cs ns w) :
    Calls Try.prog 72 #[.pointer (some ⟨r, 0, none⟩), .int .i64 n, .int .i64 f] w fun e w' => e = .returned (.int .i64 (eField cs n f)) ∧ w = w' := by
  have hc := there_any S r cs ns n w hs
  by_cases h0 : eLive cs n = 0
  · have hfe : eField cs n f = if f < 0 ∨ ((cl cs n.toNat).fs.length : Int) ≤ f then 1 else 0 := if_neg (fun k => k h0)
    rw [hfe]
    rw [h0] at hc
    obtain ⟨k, rfl, hk, _⟩ := eLive_in h0
    rw [Int.toNat_natCast]
    obtain ⟨vc, vn, fv, hI⟩ := hs
    obtain ⟨g, capc, rfl, _, _, _, hcell, _⟩ := hI.cell hk
    have c0 := hI.open.1
    obtain ⟨ao, capf, hfv, _⟩ := hI.field hk
    have hfk : w.cell? ⟨g, k * 5, none⟩ = some (fv k) := hcell k 0 hk (by decide)
    rw [hfv] at hfk
    clear hfe h0 hcell hI hfv
    generalize (cl cs k).fs.length = L at *
    by_cases h1 : f < 0
    · rw [if_pos (.inl h1)]
      go_enter Try.func72, Try.ntmps72
      go_wp2_with (go_at_call 73; refine (hc).mono ?_; rintro e w' ⟨rfl, rfl⟩)
      go_ret
      exact ⟨rfl, rfl⟩
    · by_cases h2 : ((L : Nat) : Int) ≤ f
      · rw [if_pos (.inr h2)]
        go_enter Try.func72, Try.ntmps72
        go_wp2_with (go_at_call 73; refine (hc).mono ?_; rintro e w' ⟨rfl, rfl⟩)
        go_ret
        exact ⟨rfl, rfl⟩
      · rw [if_neg (by omega)]
        go_enter Try.func72, Try.ntmps72
        go_wp2_with (go_at_call 73; refine (hc).mono ?_; rintro e w' ⟨rfl, rfl⟩)
        go_ret
        exact ⟨rfl, rfl⟩
  · have hfe : eField cs n f = eLive cs n := if_pos h0
    rw [hfe]
    rcases eLive_cases cs n with h1 | h1 | h1
    · exact absurd h1 h0
    all_goals
      rw [h1] at hc ⊢
      clear hfe h0 h1
      go_enter Try.func72, Try.ntmps72
      go_wp2_with (go_at_call 73; refine (hc).mono ?_; rintro e w' ⟨rfl, rfl⟩)
      go_ret
      exact ⟨rfl, rfl⟩
set_option maxRecDepth 100000 in
set_option maxHeartbeats 1600000 in
theorem rRoot_hp (S : Nat → Prop) (r : Nat) (h : Hp) (i : Int) (w : World) (hs : RH S r h w) (hp : phi h ≤ 1000000) :
    Calls Try.prog 41 #[.pointer (some ⟨r, 0, none⟩), .int .i64 i] w (RoP S r (rootR h i).1 (.int .i64 (rootR h i).2) w) := by
  have hE := there_any S r h.cs h.ns i w hs
  by_cases h0 : eLive h.cs i = 0
  · obtain ⟨i, rfl, hi, he⟩ := eLive_in h0
    rw [h0] at hE
    have hm : rootR h i = (rootF h i, 0) := if_neg (fun e => e h0)
    rw [hm]
    have hb := cnt_small hp i
    obtain ⟨vc, vn, fv, hI⟩ := hs
    obtain ⟨g, cap, rfl, hS, hgr, hgl, hcell, hfz⟩ := hI.cell hi
    have c0 := hI.open.1
    have hrt : w.cell? ⟨g, i * 5 + 4, none⟩ = some (.int .i64 (((cl h.cs i).rt : Nat) : Int)) := hcell i 4 hi (by decide)
    have hX : Hid (RoP S r (rootF h i) (.int .i64 0) w (.returned (.int .i64 0)) (w.setCell ⟨g, i * 5 + 4, none⟩ (.int .i64 ((((cl h.cs i).rt : Nat) : Int) + 1)))) := by
      have a1 := hI.store (n := i) (k := 4) (c := { cl h.cs i with rt := (cl h.cs i).rt + 1 }) (u := .int .i64 (((cl h.cs i).rt + 1 : Nat) : Int)) hi (by decide) rfl (fun a b _ hj => rcv_setR h.cs fv i _ hi a b hj)
      exact ⟨rfl, RS.wide ⟨_, _, _, a1⟩ fun g a _ => Or.inl a, (Kp.refl S w).set (p := ⟨g, i * 5 + 4, none⟩) (Or.inl hS) _⟩
    have hw1 : IntKind.wrap .i64 ((((cl h.cs i).rt : Nat) : Int) + 1) = (((cl h.cs i).rt : Nat) : Int) + 1 := wrap_ok (by omega) (by omega)
    clear hm h0 he hcell hI hb
    generalize (cl h.cs i).rt = q at *
    go_enter Try.func41, Try.ntmps41
    go_wp2_with (go_at_call 73; refine (hE).mono ?_; rintro e w' ⟨rfl, rfl⟩)
    go_ret
    exact hX.out
  · have hm : rootR h i = (h, eLive h.cs i) := if_pos h0
    rw [hm]
    rcases eLive_cases h.cs i with h1 | h1 | h1
    · exact absurd h1 h0
    all_goals
      rw [h1] at hE ⊢
      have hX : Hid (∀ v, RoP S r h v w (.returned v) w) := fun v => ⟨rfl, hs.wide fun g a _ => Or.inl a, Kp.refl S w⟩
      clear hm h0 h1 hs
      go_enter Try.func41, Try.ntmps41
      go_wp2_with (go_at_call 73; refine (hE).mono ?_; rintro e w' ⟨rfl, rfl⟩)
      go_ret
      exact hX.out _
set_option maxRecDepth 100000 in
set_option maxHeartbeats 1600000 in
theorem rCount_hp (S : Nat → Prop) (r : Nat) (h : Hp) (i : Int) (w : World) (hs : RH S r h w) (H : Good h) (hp : phi h ≤ 1000000) :
    Calls Try.prog 45 #[.pointer (some ⟨r, 0, none⟩), .int .i64 i] w fun e w' => e = .returned (.tuple #[.int .i64 (countR h i).1, .int .i64 (countR h i).2]) ∧ Below w.heap.size w w' := by
  obtain ⟨vc, vn, fv, hI⟩ := id hs
  obtain ⟨c0, _, _, _, ao, cap, rfl⟩ := hI.open
  rcases eAny_cases h.cs i with ⟨h0, k, rfl, hk⟩ | h0
  · have hm : countR h k = (((cnt h.cs k : Nat) : Int), 0) := if_neg (fun e => e h0)
    rw [hm]
    have hb := cnt_le_phi h.cs h.ns k
    have hC := counted_any S r h.cs h.ns k w hs hk H.kind (H.ended k) (Nat.le_trans hb hp) H.few H.wide
    clear hm h0 hI hb hs
    generalize cnt h.cs k = q at *
    go_enter Try.func45, Try.ntmps45
    go_wp2_with fail
    refine hC.mono ?_
    rintro e w' ⟨rfl, hb⟩
    have HB := Lib.hid hb
    clear hb hC
    go_wp2
    go_ret2
    exact ⟨rfl, HB.out⟩
  · have hm : countR h i = (0, 4) := by
      unfold countR
      rw [h0]
      rfl
    rw [hm]
    have h4 : i < 0 ∨ ((h.cs.length : Nat) : Int) ≤ i := by
      unfold eAny at h0
      split at h0
      · assumption
      · omega
    clear hm h0 hI hs
    by_cases h1 : i < 0
    · clear h4
      go_enter Try.func45, Try.ntmps45
      go_wp2
      go_ret2
      exact ⟨rfl, Below.refl _ _⟩
    · have h2 := h4.resolve_left h1
      clear h4
      go_enter Try.func45, Try.ntmps45
      go_wp2
      go_ret2
      exact ⟨rfl, Below.refl _ _⟩
set_option maxRecDepth 100000 in
set_option maxHeartbeats 1600000 in
theorem rState_hp (S : Nat → Prop) (r : Nat) (h : Hp) (i : Int) (w : World) (hs : RH S r h w) :
    Calls Try.prog 46 #[.pointer (some ⟨r, 0, none⟩), .int .i64 i] w fun e w' => e = .returned (.tuple #[.int .i64 (stateR h i).1, .int .i64 (stateR h i).2]) ∧ Below w.heap.size w w' := by
  obtain ⟨vc, vn, fv, hI⟩ := hs
  obtain ⟨c0, _, _, _, ao, cap, rfl⟩ := hI.open
  rcases eAny_cases h.cs i with ⟨h0, k, rfl, hk⟩ | h0
  · have hm : stateR h k = (if (cl h.cs k).en = true then 2 else if (cl h.cs k).td = true then 1 else 0, 0) := if_neg (fun e => e h0)
    rw [hm]
    obtain ⟨g, capc, e, _, _, _, hcell, _⟩ := hI.cell hk
    rw [e] at c0
    have e3 : w.cell? ⟨g, k * 5 + 3, none⟩ = some (.bool (cl h.cs k).en) := hcell k 3 hk (by decide)
    have e2 : w.cell? ⟨g, k * 5 + 2, none⟩ = some (.bool (cl h.cs k).td) := hcell k 2 hk (by decide)
    clear hm h0 hI hcell e
    generalize (cl h.cs k).en = en at *
    generalize (cl h.cs k).td = td at *
    cases en
    · cases td
      all_goals
        simp only [Bool.false_eq_true, if_false, if_true]
        go_enter Try.func46, Try.ntmps46
        go_wp2
        go_ret2
        exact ⟨rfl, Below.refl _ _⟩
    · simp only [if_true]
      go_enter Try.func46, Try.ntmps46
      go_wp2
      go_ret2
      exact ⟨rfl, Below.refl _ _⟩
  · have hm : stateR h i = (0, 4) := by
      unfold stateR
      rw [h0]
      rfl
    rw [hm]
    have h4 : i < 0 ∨ ((h.cs.length : Nat) : Int) ≤ i := by
      unfold eAny at h0
      split at h0
      · assumption
      · omega
    clear hm h0 hI
    by_cases h1 : i < 0
    · clear h4
      go_enter Try.func46, Try.ntmps46
      go_wp2
      go_ret2
      exact ⟨rfl, Below.refl _ _⟩
    · have h2 := h4.resolve_left h1
      clear h4
      go_enter Try.func46, Try.ntmps46
      go_wp2
      go_ret2
      exact ⟨rfl, Below.refl _ _⟩

end Go.Proofs.Ytpedaompcjaahaa
