/-
  New, Get, Next, Settle, Count, State of the program's heap. Conditions: a heap's size (phi) below 2^20.
-/
import Derived.Test.YtpedaompcjaahaaIc
namespace Go.Proofs.Ytpedaompcjaahaa
open Go.RowKit

theorem Kp.drewN {S : Nat → Prop} {w : World} {q : Nat} : Kp S w (w.drewN q) := ⟨rfl, rfl, rfl, Nat.le_refl _, fun _ _ _ => rfl⟩
theorem St.drewN {S : Nat → Prop} {b : Nat} {s1 s2 : Int} {cs : List Cl} {ct : Nat → Int} {ns : List Nat} {w : World} (h : St S b s1 s2 cs ct ns w) {q : Nat} : St S b s1 s2 cs ct ns (w.drewN q) := h.move fun _ a _ => ⟨rfl, a⟩
set_option maxRecDepth 100000 in
theorem New_hp (w : World) : Calls Try.prog 10 #[] w fun e w' => e = .returned (.pointer (some ⟨w.heap.size, 0, none⟩)) ∧ SH (fun g => w.heap.size = g) w.heap.size 0 0 ⟨[], []⟩ w' ∧ Kp (fun _ => False) w w' ∧ w'.heap.size = w.heap.size + 1 := by
  have hA : Hid (SH (fun g => w.heap.size = g) w.heap.size 0 0 ⟨[], []⟩ (w.alloc (.cells #[.int .i32 0, .int .u32 0, .int .i32 0, .int .u32 0, .slice none 0 0, .slice none 0 0] 72))) := by
    refine ⟨rfl, .slice none 0 0, .slice none 0 0, heap_alloc_new w _, ⟨[], World.ownsRow_nil _ _ _ _, fun i j hi => by simp at hi, fun g e => by simp [Value.ownBlock] at e⟩, Rn.nil _ _⟩
  go_enter Try.func10, Try.ntmps10
  go_wp2
  go_ret
  exact ⟨rfl, hA.out, (Kp.refl _ w).alloc _, by simp⟩
theorem good_nil : Good ⟨[], []⟩ := ⟨by simp, fun i => by simp [cl], fun i k => by simp [fd, cl], fun i k => by simp [fd, cl], fun i k => by simp [fd, cl], fun i k => by simp [fd, cl], fun i => by simp [cl], fun n hn => by simp at hn⟩
theorem phi_nil : phi ⟨[], []⟩ = 0 := rfl

def getR (h : Hp) (i f : Int) : Int × Bool × Bool × Int := if eField h.cs i f ≠ 0 then (0, false, false, eField h.cs i f) else (((fd h.cs i.toNat f.toNat).2 : Nat), (fd h.cs i.toNat f.toNat).1 != 0, (fd h.cs i.toNat f.toNat).1 == 2, 0)
set_option maxRecDepth 100000 in
set_option maxHeartbeats 1600000 in
theorem Get_hp (S : Nat → Prop) (b : Nat) (h : Hp) (i f : Int) (w : World) (hs : SH S b 0 0 h w) (H : Good h) :
    Calls Try.prog 35 #[.pointer (some ⟨b, 0, none⟩), .int .i64 i, .int .i64 f] w (ToP S b h (.tuple #[.int .i64 (getR h i f).1, .bool (getR h i f).2.1, .bool (getR h i f).2.2.1, .int .i64 (getR h i f).2.2.2]) w) := by
  obtain ⟨vc, vn, c0, c2, _, _, hf, hbl, hSb, _, _⟩ := hs.open
  obtain ⟨l1, k1, hz⟩ := lock_hp hs
  have hX : Hid (∀ w3 v, SH S b 0 0 h w3 → Kp S ((w.setCell ⟨b, 0, none⟩ (.int .i32 1)).setCell ⟨b, 2, none⟩ (.int .i32 1)) w3 → ToP S b h v w (.returned v) w3) := fun w3 v r1 r2 => ⟨rfl, r1.wide fun g a _ => Or.inl a, k1.trans r2 fun _ _ a => a⟩
  have hE := checkField_any S b 1 1 h.cs (cn h.cs) h.ns i f _ l1
  by_cases h0 : eField h.cs i f = 0
  · obtain ⟨i, f, rfl, rfl, hi, he, hfi⟩ := eField_in h0
    rw [h0] at hE
    have hm : getR h i f = ((((fd h.cs i f).2 : Nat) : Int), (fd h.cs i f).1 != 0, (fd h.cs i f).1 == 2, 0) := if_neg (fun e => e h0)
    rw [hm]
    have h8 : f < 8 := Nat.lt_of_lt_of_le hfi (H.wide i)
    obtain ⟨g, cap, h4, hS, hgb, hlt, hcell, hfz⟩ := l1.cell hi
    obtain ⟨hk, ht⟩ := fields_at hi hcell f h8
    have n1 : ¬ g = b := hgb
    have hbl1 : b < ((w.setCell ⟨b, 0, none⟩ (.int .i32 1)).setCell ⟨b, 2, none⟩ (.int .i32 1)).heap.size := by rw [hz]; exact hbl
    have hA : Hid (∀ o, SH S b 1 1 h (((w.setCell ⟨b, 0, none⟩ (.int .i32 1)).setCell ⟨b, 2, none⟩ (.int .i32 1)).alloc o)) := fun o => St.move l1 fun g a c => ⟨Below.heap_alloc _ _ g c, a⟩
    have hA2 : Hid (∀ o w3 v, SH S b 0 0 h w3 → Kp S (((w.setCell ⟨b, 0, none⟩ (.int .i32 1)).setCell ⟨b, 2, none⟩ (.int .i32 1)).alloc o) w3 → ToP S b h v w (.returned v) w3) := fun o w3 v r1 r2 => ⟨rfl, r1.wide fun g a _ => Or.inl a, (k1.alloc o).trans r2 fun _ _ a => a⟩
    have e1 : ((((fd h.cs i f).1 : Nat) : Int) != 0) = ((fd h.cs i f).1 != 0) := by
      rw [Bool.eq_iff_iff]
      simp
    have e2 : ((((fd h.cs i f).1 : Nat) : Int) == 2) = ((fd h.cs i f).1 == 2) := by
      rw [Bool.eq_iff_iff]
      simp
      omega
    clear hm hs k1 h0 he hfi hX hcell l1
    generalize hz1 : (fd h.cs i f).1 = x1 at *
    generalize hz2 : (fd h.cs i f).2 = x2 at *
    clear hz1 hz2
    have hE1 := Lib.hid e1
    have hE2 := Lib.hid e2
    clear e1 e2
    go_enter_defers Try.func35, Try.ntmps35
    go_wp2_with (first | (go_at_call 48; refine (lock_any b _ c0 c2 hf).mono ?_; rintro e w' ⟨rfl, rfl⟩) | (go_at_call 69; refine (hE).mono ?_; rintro e w' ⟨rfl, rfl⟩))
    go_quiet (fail)
    go_wp2
    refine leaves_cons (f := 49) (args := #[.pointer (some ⟨b, 0, none⟩)]) (by simp) (by simp [go_sem]) ?_
    refine (unlock_hp (hA.out (.cells #[.int .i64 ((x1 : Nat) : Int), .int .i64 ((x2 : Nat) : Int)] 82)).drewN _).mono ?_
    rintro e u' w3 ⟨rfl, rfl, r1, r2⟩
    refine ⟨.tuple #[.int .i64 ((x2 : Nat) : Int), .bool (((x1 : Nat) : Int) != 0), .bool (((x1 : Nat) : Int) == 2), .int .i64 0], (by simp [results, Try.results35, go_sem]), ?_⟩
    rw [hE1.out, hE2.out]
    exact hA2.out _ w3 _ r1 (Kp.drewN.trans r2 fun _ _ a => a)
  · have hm : getR h i f = (0, false, false, eField h.cs i f) := if_pos h0
    rw [hm]
    rcases eField_cases h.cs i f with h1 | h1 | h1 | h1
    · exact absurd h1 h0
    all_goals
      rw [h1] at hE ⊢
      clear hm hs k1 h0 h1
      go_enter_defers Try.func35, Try.ntmps35
      go_wp2_with (first | (go_at_call 48; refine (lock_any b _ c0 c2 hf).mono ?_; rintro e w' ⟨rfl, rfl⟩) | (go_at_call 69; refine (hE).mono ?_; rintro e w' ⟨rfl, rfl⟩))
      refine leaves_cons (f := 49) (args := #[.pointer (some ⟨b, 0, none⟩)]) (by simp) (by simp [go_sem]) ?_
      refine (unlock_hp l1 _).mono ?_
      rintro e u' w3 ⟨rfl, rfl, r1, r2⟩
      exact ⟨_, (by simp [results, Try.results35, go_sem]), hX.out w3 _ r1 r2⟩

end Go.Proofs.Ytpedaompcjaahaa
