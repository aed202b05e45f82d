/-
  Same, on both sides, and the law's walk. Conditions: the row of signs holds what the program's text lays.
-/
import Derived.Test.YtnfoafcpcabpmaaDoorTr
namespace Go.Proofs.YtnfoafcpcabpmaaDoor
open Go.RowKit

/-- Whether two rows of tokens are the same. -/
def saB (n m : Nat) (f h : Nat → Tkc) : Bool := decide (n = m) && decide (preF f h 0 n = n)
theorem saB_self (n : Nat) (f : Nat → Tkc) : saB n n f f = true := by
  unfold saB
  rw [preF_self]
  simp
set_option maxRecDepth 100000 in
set_option maxHeartbeats 4000000 in
theorem Same_any (sa sb : Option Addr) (n m c d : Nat) (f h : Nat → Tkc) (w : World) (hk : TkRow sa n f w) (hl : TkRow sb m h w) :
    Calls Tryd.prog 11 #[.slice sa n c, .slice sb m d] w (BoP (saB n m f h) w) := by
  have HP : Hid (∀ b w', b = saB n m f h → Below w.heap.size w w' → BoP (saB n m f h) w (.returned (.bool b)) w') := fun b w' h1 h2 => by
    rw [h1]
    exact ⟨rfl, h2⟩
  have HA := Lib.hid (alike_any sa sb n m c d f h w hk hl)
  have HB0 := Lib.hid (Below.refl w.heap.size w)
  clear hk hl
  by_cases he : n = m
  · subst he
    have f1 : ((n : Int) == (n : Int)) = true := by simp
    have HX : Hid (decide (preF f h 0 n = n) = saB n n f h) := by
      show _ = _
      unfold saB
      simp
    rw [Nat.min_self] at HA
    generalize preF f h 0 n = q at *
    go_enter Tryd.func11, Tryd.ntmps11
    go_wp2_with fail
    refine HA.out.mono ?_
    rintro e w1 ⟨rfl, hb⟩
    have HB := Lib.hid hb
    clear hb
    by_cases hq : q = n
    · have f2 : ((q : Int) == (n : Int)) = true := by rw [hq]; simp
      have HX2 : Hid (true = saB n n f h) := by
        show _ = _
        rw [← HX.out, decide_eq_true hq]
      clear hq HX
      go_wp2
      go_ret
      exact HP.out _ _ HX2.out HB.out
    · have f2 : ((q : Int) == (n : Int)) = false := by rw [beq_eq_false_iff_ne]; omega
      have HX2 : Hid (false = saB n n f h) := by
        show _ = _
        rw [← HX.out, decide_eq_false hq]
      clear hq HX
      go_wp2
      go_ret
      exact HP.out _ _ HX2.out HB.out
  · have f1 : ((n : Int) == (m : Int)) = false := by rw [beq_eq_false_iff_ne]; omega
    have HX : Hid (false = saB n m f h) := by
      show _ = _
      unfold saB
      rw [decide_eq_false he]
      rfl
    clear he
    go_enter Tryd.func11, Tryd.ntmps11
    go_wp2
    go_ret
    exact HP.out _ _ HX.out HB0.out

def Tkc.agg (t : Tkc) : Value := .agg #[.int .i64 t.k, .int .i64 t.a, .string t.x, .string t.y, .string t.z, .int .i64 t.o]
set_option maxRecDepth 100000 in
set_option maxHeartbeats 4000000 in
theorem ralike_any (s t : Tkc) (w : World) : Calls Tryd.prog 20 #[s.agg, t.agg] w (BoP (eqT s t) w) := by
  have HP : Hid (∀ b w', b = eqT s t → Below w.heap.size w w' → BoP (eqT s t) w (.returned (.bool b)) w') := fun b w' h1 h2 => by
    rw [h1]
    exact ⟨rfl, h2⟩
  have HB : Hid (Below w.heap.size w ((w.alloc (.cells #[.int .i64 s.k, .int .i64 s.a, .string s.x, .string s.y, .string s.z, .int .i64 s.o] 33)).alloc (.cells #[.int .i64 t.k, .int .i64 t.a, .string t.x, .string t.y, .string t.z, .int .i64 t.o] 33))) := ((Below.refl _ _).alloc (Nat.le_refl _) _).alloc (by simp) _
  obtain ⟨k1, a1, x1, y1, z1, o1⟩ := s
  obtain ⟨k2, a2, x2, y2, z2, o2⟩ := t
  unfold Tkc.agg
  unfold eqT at HP ⊢
  dsimp only at HP HB ⊢
  have HE : ∀ b, Hid (b = (k1 == k2 && (x1.toList == x2.toList && (y1.toList == y2.toList && (z1.toList == z2.toList && o1 == o2))))) → Hid (b = (k1 == k2 && (x1.toList == x2.toList && (y1.toList == y2.toList && (z1.toList == z2.toList && o1 == o2))))) := fun _ h => h
  generalize hQ : (k1 == k2 && (x1.toList == x2.toList && (y1.toList == y2.toList && (z1.toList == z2.toList && o1 == o2)))) = Q at *
  have HQ := Lib.hid hQ
  clear hQ HE
  cases h1 : (k1 == k2) with
  | false =>
    have HX : Hid (false = Q) := by show _ = _; rw [← HQ.out, h1]; rfl
    clear HQ
    go_enter Tryd.func20, Tryd.ntmps20
    go_wp2
    go_ret
    exact HP.out _ _ HX.out HB.out
  | true =>
  cases h2 : (x1.toList == x2.toList) with
  | false =>
    have HX : Hid (false = Q) := by show _ = _; rw [← HQ.out, h1, h2]; rfl
    clear HQ
    go_enter Tryd.func20, Tryd.ntmps20
    go_wp2
    go_ret
    exact HP.out _ _ HX.out HB.out
  | true =>
  cases h3 : (y1.toList == y2.toList) with
  | false =>
    have HX : Hid (false = Q) := by show _ = _; rw [← HQ.out, h1, h2, h3]; rfl
    clear HQ
    go_enter Tryd.func20, Tryd.ntmps20
    go_wp2
    go_ret
    exact HP.out _ _ HX.out HB.out
  | true =>
  cases h4 : (z1.toList == z2.toList) with
  | false =>
    have HX : Hid (false = Q) := by show _ = _; rw [← HQ.out, h1, h2, h3, h4]; rfl
    clear HQ
    go_enter Tryd.func20, Tryd.ntmps20
    go_wp2
    go_ret
    exact HP.out _ _ HX.out HB.out
  | true =>
  have HX : Hid ((o1 == o2) = Q) := by show _ = _; rw [← HQ.out, h1, h2, h3, h4]; rfl
  clear HQ
  cases h5 : (o1 == o2) with
  | false =>
    rw [h5] at HX
    go_enter Tryd.func20, Tryd.ntmps20
    go_wp2
    go_ret
    exact HP.out _ _ HX.out HB.out
  | true =>
    rw [h5] at HX
    go_enter Tryd.func20, Tryd.ntmps20
    go_wp2
    go_ret
    exact HP.out _ _ HX.out HB.out

end Go.Proofs.YtnfoafcpcabpmaaDoor
