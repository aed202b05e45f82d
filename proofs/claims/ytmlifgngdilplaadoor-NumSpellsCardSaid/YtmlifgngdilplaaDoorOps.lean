/-
  num.checked and num.operations: the map that it makes holds nine closures, each over its two functions and its reason. No condition.
-/
import Derived.Test.YtmlifgngdilplaaDoorMap
namespace Go.Proofs.YtmlifgngdilplaaDoor
open Go.RowKit Go.MapKept

def CkPost (w : World) (B : Nat) (x : Nat × Int × Nat) (e : Ending) (w' : World) : Prop :=
  ∃ v, e = .returned v ∧ Below w.heap.size w w' ∧ IsCk w' B v x

theorem three_cells (w : World) (o0 o1 o2 : Value) (t0 t1 t2 : TypeId) :
    (((w.alloc (.cells #[o0] t0)).alloc (.cells #[o1] t1)).alloc (.cells #[o2] t2)).cell? ⟨w.heap.size, 0, none⟩ = some o0 ∧
    (((w.alloc (.cells #[o0] t0)).alloc (.cells #[o1] t1)).alloc (.cells #[o2] t2)).cell? ⟨w.heap.size + 1, 0, none⟩ = some o1 ∧
    (((w.alloc (.cells #[o0] t0)).alloc (.cells #[o1] t1)).alloc (.cells #[o2] t2)).cell? ⟨w.heap.size + 2, 0, none⟩ = some o2 := by
  refine ⟨?_, ?_, ?_⟩
  · have b : Below (w.heap.size + 1) (w.alloc (.cells #[o0] t0)) (((w.alloc (.cells #[o0] t0)).alloc (.cells #[o1] t1)).alloc (.cells #[o2] t2)) := ((Below.refl _ _).alloc (by simp) _).alloc (by simp) _
    rw [b.cell (by simp), World.cell?_alloc_new]
    rfl
  · have b : Below (w.heap.size + 2) ((w.alloc (.cells #[o0] t0)).alloc (.cells #[o1] t1)) (((w.alloc (.cells #[o0] t0)).alloc (.cells #[o1] t1)).alloc (.cells #[o2] t2)) := (Below.refl _ _).alloc (by simp) _
    rw [b.cell (by simp), World.cell?_alloc_at _ _ _ _ (by simp)]
    rfl
  · rw [World.cell?_alloc_at _ _ _ _ (by simp)]
    rfl

theorem checked_any (r f : Nat) (why : Int) (B : Nat) (w : World) (hB : B < w.heap.size) :
    Calls Tryd.prog 85 #[.func (.func r) #[] #[], .int .i64 why, .func (.func f) #[] #[]] w (CkPost w B (r, why, f)) := by
  have hmf : ∀ (fn : Fn) (first cap : Array Value) (w : World), (Instr.makeFunc fn first cap).run Tryd.prog w = .ok (.func fn first cap) w := fun _ _ _ _ => rfl
  go_enter Tryd.func85, Tryd.ntmps85
  go_wp2
  go_ret
  have h3 := three_cells w (.func (.func r) #[] #[]) (.int .i64 why) (.func (.func f) #[] #[]) 41 3 42
  exact ⟨_, rfl, (((Below.refl _ _).alloc (Nat.le_refl _) _).alloc (by simp) _).alloc (by simp; omega) _, w.heap.size, hB, by simp, rfl, h3.1, h3.2.1, h3.2.2⟩

def opsL : List (Nat × Int × Nat) := [(81, 1, 86), (81, 1, 87), (81, 1, 88), (82, 2, 89), (82, 2, 90), (83, 1, 91), (84, 1, 92), (84, 1, 93), (84, 1, 94)]

def OpsPost (w : World) (e : Ending) (w' : World) : Prop :=
  e = .returned (.map (some w.heap.size)) ∧ Below w.heap.size w w' ∧ OpsIn w' w.heap.size opsL ∧ w.heap.size < w'.heap.size

theorem operations_any (w : World) : Calls Tryd.prog 58 #[] w (OpsPost w) := by
  have hmm := @run_makeMap Tryd.prog
  have ho0 := OpsIn.made w
  have hb0 : Below w.heap.size w (w.alloc (.map #[] 0)) := (Below.refl _ _).alloc (Nat.le_refl _) _
  have hs0 : w.heap.size < (w.alloc (.map #[] 0)).heap.size := by simp
  generalize hW : w.alloc (.map #[] 0) = W0 at ho0 hb0 hs0
  have HW := Lib.hid hW
  clear hW
  have hmm0 : (Instr.makeMap 68 none).run Tryd.prog w = .ok (.map (some w.heap.size)) W0 := by rw [← HW.out]; rfl
  clear hmm
  generalize hB : w.heap.size = B at *
  have HB := Lib.hid hB
  clear hB
  go_enter Tryd.func58, Tryd.ntmps58
  go_wp2_with fail
  refine (checked_any 81 86 1 B W0 hs0).mono ?_
  rintro e w' ⟨v0, rfl, hb, hc0⟩
  have hs1 : B < w'.heap.size := Nat.lt_of_lt_of_le hs0 hb.size
  have ho1 := ho0.later hb
  have hb1 := hb0.trans (hb.mono (Nat.le_of_lt hs0))
  clear hb ho0 hb0 hs0
  generalize w' = W1 at *
  go_wp2_with (refine wpList_insert_ops _ rfl _ _ _ 68 rfl 3 66 Tryd.underlying68 Tryd.underlying3 B _ _ rfl _ rfl _ rfl ho1 rfl hc0 ?_; intro w' ho hb)
  have hs2 : B < w'.heap.size := Nat.lt_of_lt_of_le hs1 hb.size
  have hb2 := hb1.trans hb
  have ho2 : OpsIn w' B [(81, 1, 86)] := ho
  clear hb ho hb1 ho1 hs1 hc0
  generalize w' = W2 at *
  go_wp2_with fail
  refine (checked_any 81 87 1 B W2 hs2).mono ?_
  rintro e w' ⟨v1, rfl, hb, hc1⟩
  have hs3 : B < w'.heap.size := Nat.lt_of_lt_of_le hs2 hb.size
  have ho3 := ho2.later hb
  have hb3 := hb2.trans (hb.mono (Nat.le_of_lt hs2))
  clear hb ho2 hb2 hs2
  generalize w' = W3 at *
  go_wp2_with (refine wpList_insert_ops _ rfl _ _ _ 68 rfl 3 66 Tryd.underlying68 Tryd.underlying3 B _ _ rfl _ rfl _ rfl ho3 rfl hc1 ?_; intro w' ho hb)
  have hs4 : B < w'.heap.size := Nat.lt_of_lt_of_le hs3 hb.size
  have hb4 := hb3.trans hb
  have ho4 : OpsIn w' B [(81, 1, 86), (81, 1, 87)] := ho
  clear hb ho hb3 ho3 hs3 hc1
  generalize w' = W4 at *
  go_wp2_with fail
  refine (checked_any 81 88 1 B W4 hs4).mono ?_
  rintro e w' ⟨v2, rfl, hb, hc2⟩
  have hs5 : B < w'.heap.size := Nat.lt_of_lt_of_le hs4 hb.size
  have ho5 := ho4.later hb
  have hb5 := hb4.trans (hb.mono (Nat.le_of_lt hs4))
  clear hb ho4 hb4 hs4
  generalize w' = W5 at *
  go_wp2_with (refine wpList_insert_ops _ rfl _ _ _ 68 rfl 3 66 Tryd.underlying68 Tryd.underlying3 B _ _ rfl _ rfl _ rfl ho5 rfl hc2 ?_; intro w' ho hb)
  have hs6 : B < w'.heap.size := Nat.lt_of_lt_of_le hs5 hb.size
  have hb6 := hb5.trans hb
  have ho6 : OpsIn w' B [(81, 1, 86), (81, 1, 87), (81, 1, 88)] := ho
  clear hb ho hb5 ho5 hs5 hc2
  generalize w' = W6 at *
  go_wp2_with fail
  refine (checked_any 82 89 2 B W6 hs6).mono ?_
  rintro e w' ⟨v3, rfl, hb, hc3⟩
  have hs7 : B < w'.heap.size := Nat.lt_of_lt_of_le hs6 hb.size
  have ho7 := ho6.later hb
  have hb7 := hb6.trans (hb.mono (Nat.le_of_lt hs6))
  clear hb ho6 hb6 hs6
  generalize w' = W7 at *
  go_wp2_with (refine wpList_insert_ops _ rfl _ _ _ 68 rfl 3 66 Tryd.underlying68 Tryd.underlying3 B _ _ rfl _ rfl _ rfl ho7 rfl hc3 ?_; intro w' ho hb)
  have hs8 : B < w'.heap.size := Nat.lt_of_lt_of_le hs7 hb.size
  have hb8 := hb7.trans hb
  have ho8 : OpsIn w' B [(81, 1, 86), (81, 1, 87), (81, 1, 88), (82, 2, 89)] := ho
  clear hb ho hb7 ho7 hs7 hc3
  generalize w' = W8 at *
  go_wp2_with fail
  refine (checked_any 82 90 2 B W8 hs8).mono ?_
  rintro e w' ⟨v4, rfl, hb, hc4⟩
  have hs9 : B < w'.heap.size := Nat.lt_of_lt_of_le hs8 hb.size
  have ho9 := ho8.later hb
  have hb9 := hb8.trans (hb.mono (Nat.le_of_lt hs8))
  clear hb ho8 hb8 hs8
  generalize w' = W9 at *
  go_wp2_with (refine wpList_insert_ops _ rfl _ _ _ 68 rfl 3 66 Tryd.underlying68 Tryd.underlying3 B _ _ rfl _ rfl _ rfl ho9 rfl hc4 ?_; intro w' ho hb)
  have hs10 : B < w'.heap.size := Nat.lt_of_lt_of_le hs9 hb.size
  have hb10 := hb9.trans hb
  have ho10 : OpsIn w' B [(81, 1, 86), (81, 1, 87), (81, 1, 88), (82, 2, 89), (82, 2, 90)] := ho
  clear hb ho hb9 ho9 hs9 hc4
  generalize w' = W10 at *
  go_wp2_with fail
  refine (checked_any 83 91 1 B W10 hs10).mono ?_
  rintro e w' ⟨v5, rfl, hb, hc5⟩
  have hs11 : B < w'.heap.size := Nat.lt_of_lt_of_le hs10 hb.size
  have ho11 := ho10.later hb
  have hb11 := hb10.trans (hb.mono (Nat.le_of_lt hs10))
  clear hb ho10 hb10 hs10
  generalize w' = W11 at *
  go_wp2_with (refine wpList_insert_ops _ rfl _ _ _ 68 rfl 3 66 Tryd.underlying68 Tryd.underlying3 B _ _ rfl _ rfl _ rfl ho11 rfl hc5 ?_; intro w' ho hb)
  have hs12 : B < w'.heap.size := Nat.lt_of_lt_of_le hs11 hb.size
  have hb12 := hb11.trans hb
  have ho12 : OpsIn w' B [(81, 1, 86), (81, 1, 87), (81, 1, 88), (82, 2, 89), (82, 2, 90), (83, 1, 91)] := ho
  clear hb ho hb11 ho11 hs11 hc5
  generalize w' = W12 at *
  go_wp2_with fail
  refine (checked_any 84 92 1 B W12 hs12).mono ?_
  rintro e w' ⟨v6, rfl, hb, hc6⟩
  have hs13 : B < w'.heap.size := Nat.lt_of_lt_of_le hs12 hb.size
  have ho13 := ho12.later hb
  have hb13 := hb12.trans (hb.mono (Nat.le_of_lt hs12))
  clear hb ho12 hb12 hs12
  generalize w' = W13 at *
  go_wp2_with (refine wpList_insert_ops _ rfl _ _ _ 68 rfl 3 66 Tryd.underlying68 Tryd.underlying3 B _ _ rfl _ rfl _ rfl ho13 rfl hc6 ?_; intro w' ho hb)
  have hs14 : B < w'.heap.size := Nat.lt_of_lt_of_le hs13 hb.size
  have hb14 := hb13.trans hb
  have ho14 : OpsIn w' B [(81, 1, 86), (81, 1, 87), (81, 1, 88), (82, 2, 89), (82, 2, 90), (83, 1, 91), (84, 1, 92)] := ho
  clear hb ho hb13 ho13 hs13 hc6
  generalize w' = W14 at *
  go_wp2_with fail
  refine (checked_any 84 93 1 B W14 hs14).mono ?_
  rintro e w' ⟨v7, rfl, hb, hc7⟩
  have hs15 : B < w'.heap.size := Nat.lt_of_lt_of_le hs14 hb.size
  have ho15 := ho14.later hb
  have hb15 := hb14.trans (hb.mono (Nat.le_of_lt hs14))
  clear hb ho14 hb14 hs14
  generalize w' = W15 at *
  go_wp2_with (refine wpList_insert_ops _ rfl _ _ _ 68 rfl 3 66 Tryd.underlying68 Tryd.underlying3 B _ _ rfl _ rfl _ rfl ho15 rfl hc7 ?_; intro w' ho hb)
  have hs16 : B < w'.heap.size := Nat.lt_of_lt_of_le hs15 hb.size
  have hb16 := hb15.trans hb
  have ho16 : OpsIn w' B [(81, 1, 86), (81, 1, 87), (81, 1, 88), (82, 2, 89), (82, 2, 90), (83, 1, 91), (84, 1, 92), (84, 1, 93)] := ho
  clear hb ho hb15 ho15 hs15 hc7
  generalize w' = W16 at *
  go_wp2_with fail
  refine (checked_any 84 94 1 B W16 hs16).mono ?_
  rintro e w' ⟨v8, rfl, hb, hc8⟩
  have hs17 : B < w'.heap.size := Nat.lt_of_lt_of_le hs16 hb.size
  have ho17 := ho16.later hb
  have hb17 := hb16.trans (hb.mono (Nat.le_of_lt hs16))
  clear hb ho16 hb16 hs16
  generalize w' = W17 at *
  go_wp2_with (refine wpList_insert_ops _ rfl _ _ _ 68 rfl 3 66 Tryd.underlying68 Tryd.underlying3 B _ _ rfl _ rfl _ rfl ho17 rfl hc8 ?_; intro w' ho hb)
  have hs18 : B < w'.heap.size := Nat.lt_of_lt_of_le hs17 hb.size
  have hb18 := hb17.trans hb
  have ho18 : OpsIn w' B [(81, 1, 86), (81, 1, 87), (81, 1, 88), (82, 2, 89), (82, 2, 90), (83, 1, 91), (84, 1, 92), (84, 1, 93), (84, 1, 94)] := ho
  clear hb ho hb17 ho17 hs17 hc8
  generalize w' = W18 at *
  go_wp2
  go_ret
  rw [← HB.out] at ho18 hb18 hs18
  exact ⟨by rw [HB.out]; rfl, hb18, ho18, hs18⟩

end Go.Proofs.YtmlifgngdilplaaDoor
