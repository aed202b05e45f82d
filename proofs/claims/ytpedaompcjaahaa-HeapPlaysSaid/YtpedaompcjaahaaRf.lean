/-
  Set, Clear, Get of the document's heap. Conditions: a heap's size (phi) below 2^20.
-/
import Derived.Test.YtpedaompcjaahaaRe
namespace Go.Proofs.Ytpedaompcjaahaa
open Go.RowKit

theorem RS.drewN {S : Nat → Prop} {r : Nat} {cs : List Cl} {ns : List Nat} {w : World} (h : RS S r cs ns w) {q : Nat} : RS S r cs ns (w.drewN q) := h.move fun _ a _ => ⟨rfl, a⟩
set_option maxRecDepth 100000 in
set_option maxHeartbeats 1600000 in
theorem rSet_hp (S : Nat → Prop) (r : Nat) (h : Hp) (i f t : Int) (wk : Bool) (w : World) (hs : RH S r h w) (H : Good h) (hp : phi h ≤ 1000000) :
    Calls Try.prog 39 #[.pointer (some ⟨r, 0, none⟩), .int .i64 i, .int .i64 f, .int .i64 t, .bool wk] w (RoP S r (setHR h i f t wk).1 (.int .i64 (setHR h i f t wk).2) w) := by
  have hE := field_any S r h.cs h.ns i f w hs
  have hL := there_any S r h.cs h.ns t w hs
  have hX : Hid (∀ v, RoP S r h v w (.returned v) w) := fun v => ⟨rfl, hs.wide fun g a _ => Or.inl a, Kp.refl S w⟩
  by_cases h0 : eField h.cs i f = 0
  · obtain ⟨i, k, rfl, rfl, hi, he, hk⟩ := eField_in h0
    rw [h0] at hE
    by_cases h2 : eLive h.cs t = 0
    · have hm : setHR h i k t wk = (referF h i k t.toNat wk, 0) := (if_neg (fun e => e h0)).trans (if_neg (fun e => e h2))
      rw [hm]
      rw [h2] at hL
      obtain ⟨t, rfl, ht, hte⟩ := eLive_in h2
      rw [Int.toNat_natCast]
      have hR := rEmpty_hp S r h i k w hs H hi hk hp
      have hew := empty_wide h i k i hi
      have hi' : i < (emptyF h i k).cs.length := by rw [hew.2.1]; exact hi
      have hk' : k < (cl (emptyF h i k).cs i).fs.length := by rw [hew.1]; exact hk
      have hF : Hid (referF h i k t wk = ⟨setF (emptyF h i k).cs i k (if wk then 2 else 1, t), (emptyF h i k).ns⟩) := rfl
      clear hm h0 h2 he hte hs hX hew
      generalize referF h i k t wk = h2 at *
      generalize emptyF h i k = h1 at *
      go_enter Try.func39, Try.ntmps39
      go_wp2_with (first | (go_at_call 72; refine (hE).mono ?_; rintro e w' ⟨rfl, rfl⟩) | (go_at_call 73; refine (hL).mono ?_; rintro e w' ⟨rfl, rfl⟩))
      refine hR.mono ?_
      rintro e w1 ⟨rfl, q1, q2⟩
      obtain ⟨vc, vn, fv, hI⟩ := q1
      obtain ⟨g, cap, rfl, hS, hgr, hgl, hcell, hfz⟩ := hI.cell hi'
      have c0 := hI.open.1
      have hfk : w1.cell? ⟨g, i * 5, none⟩ = some (fv i) := hcell i 0 hi' (by decide)
      obtain ⟨ao, capf, hfv, hff⟩ := hI.field hi'
      obtain ⟨gf, rfl, hSf, hgfr, hgfl, hown, hfc, hffz, _⟩ := hff (by omega)
      rw [hfv] at hfk
      obtain ⟨f0, f1, f2⟩ := hfc k hk'
      have hgg : g ≠ gf := hI.fieldNe (g := g) hi' rfl hown
      have a0 := hI.storeF hi' hk' hown (if wk then 2 else 1, t)
      have hX : Hid (RoP S r h2 (.int .i64 0) w (.returned (.int .i64 0)) (((w1.setCell ⟨gf, k * 3, none⟩ (.int .i64 (t : Int))).setCell ⟨gf, k * 3 + 1, none⟩ (.bool true)).setCell ⟨gf, k * 3 + 2, none⟩ (.bool wk))) := by
        rw [hF.out]
        have e1 : (((if wk then 2 else 1, t) : Nat × Nat).1 != 0) = true := by cases wk <;> rfl
        have e2 : (((if wk then 2 else 1, t) : Nat × Nat).1 == 2) = wk := by cases wk <;> rfl
        rw [e1, e2] at a0
        exact ⟨rfl, ⟨_, _, _, a0⟩, ((q2.set (p := ⟨gf, k * 3, none⟩) hSf _).set (p := ⟨gf, k * 3 + 1, none⟩) hSf _).set (p := ⟨gf, k * 3 + 2, none⟩) hSf _⟩
      clear a0 hI hcell hff hfc hfv q2 hF hR hE hL
      generalize (cl h1.cs i).fs.length = L at *
      go_wp2
      go_ret
      exact hX.out
    · have hm : setHR h i k t wk = (h, eLive h.cs t) := (if_neg (fun e => e h0)).trans (if_pos h2)
      rw [hm]
      rcases eLive_cases h.cs t with h1 | h1 | h1
      · exact absurd h1 h2
      all_goals
        rw [h1] at hL ⊢
        clear hm h0 h2 he h1 hs
        go_enter Try.func39, Try.ntmps39
        go_wp2_with (first | (go_at_call 72; refine (hE).mono ?_; rintro e w' ⟨rfl, rfl⟩) | (go_at_call 73; refine (hL).mono ?_; rintro e w' ⟨rfl, rfl⟩))
        go_ret
        exact hX.out _
  · have hm : setHR h i f t wk = (h, eField h.cs i f) := if_pos h0
    rw [hm]
    rcases eField_cases h.cs i f with h1 | h1 | h1 | h1
    · exact absurd h1 h0
    all_goals
      rw [h1] at hE ⊢
      clear hm h0 h1 hs
      go_enter Try.func39, Try.ntmps39
      go_wp2_with (go_at_call 72; refine (hE).mono ?_; rintro e w' ⟨rfl, rfl⟩)
      go_ret
      exact hX.out _
set_option maxRecDepth 100000 in
set_option maxHeartbeats 1600000 in
theorem rClear_hp (S : Nat → Prop) (r : Nat) (h : Hp) (i f : Int) (w : World) (hs : RH S r h w) (H : Good h) (hp : phi h ≤ 1000000) :
    Calls Try.prog 40 #[.pointer (some ⟨r, 0, none⟩), .int .i64 i, .int .i64 f] w (RoP S r (clearR h i f).1 (.int .i64 (clearR h i f).2) w) := by
  have hE := field_any S r h.cs h.ns i f w hs
  have hX : Hid (∀ v, RoP S r h v w (.returned v) w) := fun v => ⟨rfl, hs.wide fun g a _ => Or.inl a, Kp.refl S w⟩
  by_cases h0 : eField h.cs i f = 0
  · obtain ⟨i, k, rfl, rfl, hi, he, hk⟩ := eField_in h0
    rw [h0] at hE
    have hm : clearR h i k = (emptyF h i k, 0) := if_neg (fun e => e h0)
    rw [hm]
    have hR := rEmpty_hp S r h i k w hs H hi hk hp
    clear hm h0 he hs hX
    generalize emptyF h i k = h1 at *
    go_enter Try.func40, Try.ntmps40
    go_wp2_with (go_at_call 72; refine (hE).mono ?_; rintro e w' ⟨rfl, rfl⟩)
    refine hR.mono ?_
    rintro e w1 ⟨rfl, q1, q2⟩
    have HA := Lib.hid q1
    have HK := Lib.hid q2
    clear q1 q2 hR
    go_wp2
    go_ret
    exact ⟨rfl, HA.out, HK.out⟩
  · have hm : clearR h i f = (h, eField h.cs i f) := if_pos h0
    rw [hm]
    rcases eField_cases h.cs i f with h1 | h1 | h1 | h1
    · exact absurd h1 h0
    all_goals
      rw [h1] at hE ⊢
      clear hm h0 h1 hs
      go_enter Try.func40, Try.ntmps40
      go_wp2_with (go_at_call 72; refine (hE).mono ?_; rintro e w' ⟨rfl, rfl⟩)
      go_ret
      exact hX.out _
set_option maxRecDepth 100000 in
set_option maxHeartbeats 1600000 in
theorem rGet_hp (S : Nat → Prop) (r : Nat) (h : Hp) (i f : Int) (w : World) (hs : RH S r h w) :
    Calls Try.prog 47 #[.pointer (some ⟨r, 0, none⟩), .int .i64 i, .int .i64 f] w fun e w' => e = .returned (.tuple #[.int .i64 (getR h i f).1, .bool (getR h i f).2.1, .bool (getR h i f).2.2.1, .int .i64 (getR h i f).2.2.2]) ∧ Below w.heap.size w w' := by
  have hE := field_any S r h.cs h.ns i f w hs
  by_cases h0 : eField h.cs i f = 0
  · obtain ⟨i, k, rfl, rfl, hi, he, hk⟩ := eField_in h0
    rw [h0] at hE
    have hm : getR h i k = ((((fd h.cs i k).2 : Nat) : Int), (fd h.cs i k).1 != 0, (fd h.cs i k).1 == 2, 0) := if_neg (fun e => e h0)
    rw [hm]
    obtain ⟨vc, vn, fv, hI⟩ := hs
    obtain ⟨g, cap, rfl, hS, hgr, hgl, hcell, hfz⟩ := hI.cell hi
    have c0 := hI.open.1
    have hfk : w.cell? ⟨g, i * 5, none⟩ = some (fv i) := hcell i 0 hi (by decide)
    obtain ⟨ao, capf, hfv, hff⟩ := hI.field hi
    obtain ⟨gf, rfl, hSf, hgfr, hgfl, hown, hfc, hffz, _⟩ := hff (by omega)
    rw [hfv] at hfk
    obtain ⟨f0, f1, f2⟩ := hfc k hk
    clear hm h0 he hI hcell hff hfc hfv
    generalize ((fd h.cs i k).1 != 0) = b1 at *
    generalize ((fd h.cs i k).1 == 2) = b2 at *
    generalize (fd h.cs i k).2 = t at *
    generalize (cl h.cs i).fs.length = L at *
    go_enter Try.func47, Try.ntmps47
    go_wp2_with (go_at_call 72; refine (hE).mono ?_; rintro e w' ⟨rfl, rfl⟩)
    go_quiet (fail)
    go_wp2
    refine bodyPost_ret (v := .tuple #[.int .i64 (t : Int), .bool b1, .bool b2, .int .i64 0]) (by simp [results, Try.results47, go_sem]) rfl ?_
    exact ⟨rfl, ((Below.refl _ _).alloc (Nat.le_refl _) _).trans ⟨rfl, rfl, rfl, Nat.le_refl _, fun _ _ => rfl⟩⟩
  · have hm : getR h i f = (0, false, false, eField h.cs i f) := if_pos h0
    rw [hm]
    rcases eField_cases h.cs i f with h1 | h1 | h1 | h1
    · exact absurd h1 h0
    · rw [h1] at hE ⊢
      clear hm h0 h1
      go_enter Try.func47, Try.ntmps47
      go_wp2_with (go_at_call 72; refine (hE).mono ?_; rintro e w' ⟨rfl, rfl⟩)
      refine bodyPost_ret (v := .tuple #[.int .i64 0, .bool false, .bool false, .int .i64 1]) (by simp [results, Try.results47, go_sem]) rfl ?_
      exact ⟨rfl, Below.refl _ _⟩
    · rw [h1] at hE ⊢
      clear hm h0 h1
      go_enter Try.func47, Try.ntmps47
      go_wp2_with (go_at_call 72; refine (hE).mono ?_; rintro e w' ⟨rfl, rfl⟩)
      refine bodyPost_ret (v := .tuple #[.int .i64 0, .bool false, .bool false, .int .i64 4]) (by simp [results, Try.results47, go_sem]) rfl ?_
      exact ⟨rfl, Below.refl _ _⟩
    · rw [h1] at hE ⊢
      clear hm h0 h1
      go_enter Try.func47, Try.ntmps47
      go_wp2_with (go_at_call 72; refine (hE).mono ?_; rintro e w' ⟨rfl, rfl⟩)
      refine bodyPost_ret (v := .tuple #[.int .i64 0, .bool false, .bool false, .int .i64 9]) (by simp [results, Try.results47, go_sem]) rfl ?_
      exact ⟨rfl, Below.refl _ _⟩

end Go.Proofs.Ytpedaompcjaahaa
