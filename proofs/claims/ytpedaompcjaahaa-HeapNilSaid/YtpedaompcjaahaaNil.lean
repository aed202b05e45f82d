/-
  HeapNil's walk. Conditions: none.
-/
import Derived.Test.YtpedaompcjaahaaIg
namespace Go.Proofs.Ytpedaompcjaahaa
open Go.RowKit

set_option maxRecDepth 100000 in
set_option maxHeartbeats 1600000 in
theorem heapNil_walk (a b : Int) (w : World) : Calls Try.prog 8 #[.int .i64 a, .int .i64 b] w fun e w' => e = .returned (.bool true) ∧ Below w.heap.size w w' := by
  go_enter Try.func8, Try.ntmps8
  go_wp2_with (first
    | (go_at_call 34; refine (Make_nil _ _ _).mono ?_; rintro e w' ⟨rfl, rfl⟩)
    | (go_at_call 35; refine (Get_nil _ _ _).mono ?_; rintro e w' ⟨rfl, rfl⟩)
    | (go_at_call 24; refine (Count_nil _ _).mono ?_; rintro e w' ⟨rfl, rfl⟩)
    | (go_at_call 23; refine (State_nil _ _).mono ?_; rintro e w' ⟨rfl, rfl⟩)
    | (go_at_call 26; refine (Next_nil _).mono ?_; rintro e w' ⟨rfl, rfl⟩)
    | (go_at_call 36; refine (Set_nil _ _ _ _ _).mono ?_; rintro e w' ⟨rfl, rfl⟩)
    | (go_at_call 37; refine (Clear_nil _ _ _).mono ?_; rintro e w' ⟨rfl, rfl⟩)
    | (go_at_call 27; refine (Root_nil _ _).mono ?_; rintro e w' ⟨rfl, rfl⟩)
    | (go_at_call 28; refine (Drop_nil _ _).mono ?_; rintro e w' ⟨rfl, rfl⟩)
    | (go_at_call 22; refine (Settle_nil _).mono ?_; rintro e w' ⟨rfl, rfl⟩)
    | (go_at_call 19; refine (Cycles_nil _).mono ?_; rintro e w' ⟨rfl, rfl⟩)
    | (go_at_call 16; refine (Lost_nil _).mono ?_; rintro e w' ⟨rfl, rfl⟩)
    | (go_at_call 14; refine (Reached_nil _).mono ?_; rintro e w' ⟨rfl, rfl⟩)
    | (go_at_call 30; refine (Copy_nil _).mono ?_; rintro e w' ⟨rfl, rfl⟩)
    | (go_at_call 32; refine (Same_nils _).mono ?_; rintro e w' ⟨rfl, rfl⟩))
  refine (New_hp w).mono ?_
  rintro e w1 ⟨rfl, _, q2, _⟩
  have hB1 : Hid (Kp (fun g => w.heap.size ≤ g) w w1) := (Kp.refl _ w).trans q2 fun _ _ a => a.elim
  clear q2
  go_wp2_with (go_at_call 32; refine (Same_nil _ _).mono ?_; rintro e w' ⟨rfl, rfl⟩)
  refine (known_any _).mono ?_
  rintro e w2 ⟨rfl, k2⟩
  have hB2 : Hid (Below w.heap.size w w2) := Kp.lows (S := fun g => w.heap.size ≤ g) (hB1.out.trans k2 fun g a b => Nat.le_trans hB1.out.size b) (fun _ a => a) (Nat.le_refl _)
  clear k2 hB1
  go_wp2
  go_ret
  exact ⟨rfl, hB2.out⟩

end Go.Proofs.Ytpedaompcjaahaa
