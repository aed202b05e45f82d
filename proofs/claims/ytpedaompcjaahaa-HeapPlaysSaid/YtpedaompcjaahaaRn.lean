/-
  played: one act with both heaps. Conditions: a heap's size (phi) below 2^20.
-/
import Derived.Test.YtpedaompcjaahaaRl
import Derived.Deep.RegionHeld3
namespace Go.Proofs.Ytpedaompcjaahaa
open Go.RowKit

/-- Both heaps, and a block that is neither's. -/
def TwK (x B b r : Nat) (h1 h2 : Hp) (w : World) : Prop := ∃ S1 S2, Tv B b r h1 h2 S1 S2 w ∧ ¬ S1 x ∧ ¬ S2 x ∧ x < w.heap.size
def TwKP (x B b r : Nat) (h1 h2 : Hp) (v : Value) (w : World) (e : Ending) (w' : World) : Prop := e = .returned v ∧ TwK x B b r h1 h2 w' ∧ Below B w w' ∧ w'.heap[x]? = w.heap[x]?
theorem TwK.tw {x B b r : Nat} {h1 h2 : Hp} {w : World} (t : TwK x B b r h1 h2 w) : Tw B b r h1 h2 w := by
  obtain ⟨S1, S2, t, _⟩ := t
  exact ⟨S1, S2, t⟩
theorem TwK.callP {x B b r : Nat} {h1 h2 h1' : Hp} {w : World} {F : Nat} {args : Array Value} {v : Value} (t : TwK x B b r h1 h2 w) (hc : ∀ S, SH S b 0 0 h1 w → Calls Try.prog F args w (ToP S b h1' v w)) : Calls Try.prog F args w (TwKP x B b r h1' h2 v w) := by
  obtain ⟨S1, S2, t, x1, x2, x3⟩ := t
  refine (hc S1 t.prog).mono ?_
  rintro e w' ⟨rfl, q1, q2⟩
  have := t.prog' q1 q2
  exact ⟨rfl, ⟨_, _, this.1, fun a => a.1.elim x1 (fun a => by omega), x2, Nat.lt_of_lt_of_le x3 q2.size⟩, this.2, q2.block x x3 x1⟩
theorem TwK.callR {x B b r : Nat} {h1 h2 h2' : Hp} {w : World} {F : Nat} {args : Array Value} {v : Value} (t : TwK x B b r h1 h2 w) (hc : ∀ S, RH S r h2 w → Calls Try.prog F args w (RoP S r h2' v w)) : Calls Try.prog F args w (TwKP x B b r h1 h2' v w) := by
  obtain ⟨S1, S2, t, x1, x2, x3⟩ := t
  refine (hc S2 t.ref).mono ?_
  rintro e w' ⟨rfl, q1, q2⟩
  have := t.ref' q1 q2
  exact ⟨rfl, ⟨_, _, this.1, x1, fun a => a.1.elim x2 (fun a => by omega), Nat.lt_of_lt_of_le x3 q2.size⟩, this.2, q2.block x x3 x2⟩
theorem TwK.of {B b r : Nat} {h1 h2 : Hp} {w : World} (t : Tw B b r h1 h2 w) (o : Obj) : TwK w.heap.size B b r h1 h2 (w.alloc o) := by
  obtain ⟨S1, S2, t⟩ := t
  exact ⟨S1, S2, ⟨t.prog.move fun g a c => ⟨Below.heap_alloc w o g c, a⟩, t.ref.move fun g a c => ⟨Below.heap_alloc w o g c, a⟩, t.apart, fun g a => ⟨(t.lo1 g a).1, by have := (t.lo1 g a).2; simp; omega⟩, fun g a => ⟨(t.lo2 g a).1, by have := (t.lo2 g a).2; simp; omega⟩, by have := t.size; simp; omega⟩, fun a => by have := (t.lo1 _ a).2; omega, fun a => by have := (t.lo2 _ a).2; omega, by simp⟩
theorem TwK.drew {x B b r : Nat} {h1 h2 : Hp} {w : World} (t : TwK x B b r h1 h2 w) : TwK x B b r h1 h2 w.drew := by
  obtain ⟨S1, S2, t, h⟩ := t
  exact ⟨S1, S2, ⟨t.prog.move fun _ a _ => ⟨rfl, a⟩, t.ref.move fun _ a _ => ⟨rfl, a⟩, t.apart, t.lo1, t.lo2, t.size⟩, h⟩

set_option maxRecDepth 100000 in
set_option maxHeartbeats 4000000 in
theorem played_set (B b r : Nat) (h : Hp) (a1 a2 a3 : Int) (s : ByteArray) (w : World) (t : Tw B b r h h w) (H : Good h) (hp : phi h ≤ 1000000) :
    Calls Try.prog 11 #[.pointer (some ⟨b, 0, none⟩), .pointer (some ⟨r, 0, none⟩), .agg #[.int .i64 1, .int .i64 a1, .int .i64 a2, .int .i64 a3, .string s]] w (TwP B b r (setHR h a1 a2 a3 (!s.toList.isEmpty)).1 (setHR h a1 a2 a3 (!s.toList.isEmpty)).1 (.bool true) w) := by
  have T0 := TwK.of t (.cells #[.int .i64 1, .int .i64 a1, .int .i64 a2, .int .i64 a3, .string s] 33)
  have HL : Hid ((w.alloc (.cells #[.int .i64 1, .int .i64 a1, .int .i64 a2, .int .i64 a3, .string s] 33)).heap[w.heap.size]? = some (.cells #[.int .i64 1, .int .i64 a1, .int .i64 a2, .int .i64 a3, .string s] 33 (0, 0))) := heap_alloc_new w _
  have HB : Hid (Below B w (w.alloc (.cells #[.int .i64 1, .int .i64 a1, .int .i64 a2, .int .i64 a3, .string s] 33))) := ((Below.refl _ _).alloc (Nat.le_refl _) _).mono (by obtain ⟨_, _, t⟩ := t; exact t.size)
  have CP : ∀ W, TwK w.heap.size B b r h h W → Calls Try.prog 36 #[.pointer (some ⟨b, 0, none⟩), .int .i64 a1, .int .i64 a2, .int .i64 a3, .bool (!s.toList.isEmpty)] W (TwKP w.heap.size B b r (setHR h a1 a2 a3 (!s.toList.isEmpty)).1 h (.int .i64 (setHR h a1 a2 a3 (!s.toList.isEmpty)).2) W) := fun W t => TwK.callP t (fun S hs => Set_hp S b h a1 a2 a3 (!s.toList.isEmpty) W hs H hp)
  have CR : ∀ W, TwK w.heap.size B b r (setHR h a1 a2 a3 (!s.toList.isEmpty)).1 h W → Calls Try.prog 39 #[.pointer (some ⟨r, 0, none⟩), .int .i64 a1, .int .i64 a2, .int .i64 a3, .bool (!s.toList.isEmpty)] W (TwKP w.heap.size B b r (setHR h a1 a2 a3 (!s.toList.isEmpty)).1 (setHR h a1 a2 a3 (!s.toList.isEmpty)).1 (.int .i64 (setHR h a1 a2 a3 (!s.toList.isEmpty)).2) W) := fun W t => TwK.callR t (fun S hs => rSet_hp S r h a1 a2 a3 (!s.toList.isEmpty) W hs H hp)
  have HT := Lib.hid T0.drew
  clear T0 t H hp
  generalize (setHR h a1 a2 a3 (!s.toList.isEmpty)).2 = v at *
  generalize (setHR h a1 a2 a3 (!s.toList.isEmpty)).1 = h' at *
  go_enter Try.func11, Try.ntmps11
  go_wp2
  generalize hW1 : w.alloc (.cells #[.int .i64 1, .int .i64 a1, .int .i64 a2, .int .i64 a3, .string s] 33) = w1 at *
  have HQ : Hid (∀ W : World, W.heap[w.heap.size]? = w1.heap[w.heap.size]? → W.cell? ⟨w.heap.size, 1, none⟩ = some (.int .i64 a1) ∧ W.cell? ⟨w.heap.size, 2, none⟩ = some (.int .i64 a2) ∧ W.cell? ⟨w.heap.size, 3, none⟩ = some (.int .i64 a3)) := fun W e => by
    refine ⟨?_, ?_, ?_⟩
    all_goals
      rw [cell_of_row _ _ _ _ _ _ (e.trans HL.out)]
      rfl
  clear hW1
  go_region_held3 (fun W => W.cell? ⟨w.heap.size, 1, none⟩ = some (.int .i64 a1) ∧ W.cell? ⟨w.heap.size, 2, none⟩ = some (.int .i64 a2) ∧ W.cell? ⟨w.heap.size, 3, none⟩ = some (.int .i64 a3)) (first | exact HQ.out _ (x3.trans x2) | exact HQ.out _ x2 | exact HQ.out _ rfl) (first | (go_at_call 36; refine (CP _ HT.out).mono ?_; rintro e W2 ⟨rfl, t2, b2, x2⟩) | (go_at_call 39; refine (CR _ t2).mono ?_; rintro e W3 ⟨rfl, t3, b3, x3⟩))
  all_goals
    have H3 := Lib.hid t3.tw
    have B3 := Lib.hid ((HB.out.drew.trans b2).trans b3)
    clear t2 t3 b2 b3 x2 x3
    go_wp2
    go_ret
    exact ⟨by simp, H3.out, B3.out⟩
set_option maxRecDepth 100000 in
set_option maxHeartbeats 4000000 in
theorem played_clear (B b r : Nat) (h : Hp) (a1 a2 a3 : Int) (s : ByteArray) (w : World) (t : Tw B b r h h w) (H : Good h) (hp : phi h ≤ 1000000) :
    Calls Try.prog 11 #[.pointer (some ⟨b, 0, none⟩), .pointer (some ⟨r, 0, none⟩), .agg #[.int .i64 2, .int .i64 a1, .int .i64 a2, .int .i64 a3, .string s]] w (TwP B b r (clearR h a1 a2).1 (clearR h a1 a2).1 (.bool true) w) := by
  have T0 := TwK.of t (.cells #[.int .i64 2, .int .i64 a1, .int .i64 a2, .int .i64 a3, .string s] 33)
  have HL : Hid ((w.alloc (.cells #[.int .i64 2, .int .i64 a1, .int .i64 a2, .int .i64 a3, .string s] 33)).heap[w.heap.size]? = some (.cells #[.int .i64 2, .int .i64 a1, .int .i64 a2, .int .i64 a3, .string s] 33 (0, 0))) := heap_alloc_new w _
  have HB : Hid (Below B w (w.alloc (.cells #[.int .i64 2, .int .i64 a1, .int .i64 a2, .int .i64 a3, .string s] 33))) := ((Below.refl _ _).alloc (Nat.le_refl _) _).mono (by obtain ⟨_, _, t⟩ := t; exact t.size)
  have CP : ∀ W, TwK w.heap.size B b r h h W → Calls Try.prog 37 #[.pointer (some ⟨b, 0, none⟩), .int .i64 a1, .int .i64 a2] W (TwKP w.heap.size B b r (clearR h a1 a2).1 h (.int .i64 (clearR h a1 a2).2) W) := fun W t => TwK.callP t (fun S hs => Clear_hp S b h a1 a2 W hs H hp)
  have CR : ∀ W, TwK w.heap.size B b r (clearR h a1 a2).1 h W → Calls Try.prog 40 #[.pointer (some ⟨r, 0, none⟩), .int .i64 a1, .int .i64 a2] W (TwKP w.heap.size B b r (clearR h a1 a2).1 (clearR h a1 a2).1 (.int .i64 (clearR h a1 a2).2) W) := fun W t => TwK.callR t (fun S hs => rClear_hp S r h a1 a2 W hs H hp)
  have HT := Lib.hid T0.drew
  clear T0 t H hp
  generalize (clearR h a1 a2).2 = v at *
  generalize (clearR h a1 a2).1 = h' at *
  go_enter Try.func11, Try.ntmps11
  go_wp2
  generalize hW1 : w.alloc (.cells #[.int .i64 2, .int .i64 a1, .int .i64 a2, .int .i64 a3, .string s] 33) = w1 at *
  have HQ : Hid (∀ W : World, W.heap[w.heap.size]? = w1.heap[w.heap.size]? → W.cell? ⟨w.heap.size, 1, none⟩ = some (.int .i64 a1) ∧ W.cell? ⟨w.heap.size, 2, none⟩ = some (.int .i64 a2)) := fun W e => by
    refine ⟨?_, ?_⟩
    all_goals
      rw [cell_of_row _ _ _ _ _ _ (e.trans HL.out)]
      rfl
  clear hW1
  go_region_held3 (fun W => W.cell? ⟨w.heap.size, 1, none⟩ = some (.int .i64 a1) ∧ W.cell? ⟨w.heap.size, 2, none⟩ = some (.int .i64 a2)) (first | exact HQ.out _ (x3.trans x2) | exact HQ.out _ x2 | exact HQ.out _ rfl) (first | (go_at_call 37; refine (CP _ HT.out).mono ?_; rintro e W2 ⟨rfl, t2, b2, x2⟩) | (go_at_call 40; refine (CR _ t2).mono ?_; rintro e W3 ⟨rfl, t3, b3, x3⟩))
  all_goals
    have H3 := Lib.hid t3.tw
    have B3 := Lib.hid ((HB.out.drew.trans b2).trans b3)
    clear t2 t3 b2 b3 x2 x3
    go_wp2
    go_ret
    exact ⟨by simp, H3.out, B3.out⟩
set_option maxRecDepth 100000 in
set_option maxHeartbeats 4000000 in
theorem played_root (B b r : Nat) (h : Hp) (a1 a2 a3 : Int) (s : ByteArray) (w : World) (t : Tw B b r h h w) (_ : Good h) (hp : phi h ≤ 1000000) :
    Calls Try.prog 11 #[.pointer (some ⟨b, 0, none⟩), .pointer (some ⟨r, 0, none⟩), .agg #[.int .i64 3, .int .i64 a1, .int .i64 a2, .int .i64 a3, .string s]] w (TwP B b r (rootR h a1).1 (rootR h a1).1 (.bool true) w) := by
  have T0 := TwK.of t (.cells #[.int .i64 3, .int .i64 a1, .int .i64 a2, .int .i64 a3, .string s] 33)
  have HL : Hid ((w.alloc (.cells #[.int .i64 3, .int .i64 a1, .int .i64 a2, .int .i64 a3, .string s] 33)).heap[w.heap.size]? = some (.cells #[.int .i64 3, .int .i64 a1, .int .i64 a2, .int .i64 a3, .string s] 33 (0, 0))) := heap_alloc_new w _
  have HB : Hid (Below B w (w.alloc (.cells #[.int .i64 3, .int .i64 a1, .int .i64 a2, .int .i64 a3, .string s] 33))) := ((Below.refl _ _).alloc (Nat.le_refl _) _).mono (by obtain ⟨_, _, t⟩ := t; exact t.size)
  have CP : ∀ W, TwK w.heap.size B b r h h W → Calls Try.prog 27 #[.pointer (some ⟨b, 0, none⟩), .int .i64 a1] W (TwKP w.heap.size B b r (rootR h a1).1 h (.int .i64 (rootR h a1).2) W) := fun W t => TwK.callP t (fun S hs => Root_hp S b h a1 W hs hp)
  have CR : ∀ W, TwK w.heap.size B b r (rootR h a1).1 h W → Calls Try.prog 41 #[.pointer (some ⟨r, 0, none⟩), .int .i64 a1] W (TwKP w.heap.size B b r (rootR h a1).1 (rootR h a1).1 (.int .i64 (rootR h a1).2) W) := fun W t => TwK.callR t (fun S hs => rRoot_hp S r h a1 W hs hp)
  have HT := Lib.hid T0.drew
  clear T0 t hp
  generalize (rootR h a1).2 = v at *
  generalize (rootR h a1).1 = h' at *
  go_enter Try.func11, Try.ntmps11
  go_wp2
  generalize hW1 : w.alloc (.cells #[.int .i64 3, .int .i64 a1, .int .i64 a2, .int .i64 a3, .string s] 33) = w1 at *
  have HQ : Hid (∀ W : World, W.heap[w.heap.size]? = w1.heap[w.heap.size]? → W.cell? ⟨w.heap.size, 1, none⟩ = some (.int .i64 a1)) := fun W e => by
    rw [cell_of_row _ _ _ _ _ _ (e.trans HL.out)]
    rfl
  clear hW1
  go_region_held3 (fun W => W.cell? ⟨w.heap.size, 1, none⟩ = some (.int .i64 a1)) (first | exact HQ.out _ (x3.trans x2) | exact HQ.out _ x2 | exact HQ.out _ rfl) (first | (go_at_call 27; refine (CP _ HT.out).mono ?_; rintro e W2 ⟨rfl, t2, b2, x2⟩) | (go_at_call 41; refine (CR _ t2).mono ?_; rintro e W3 ⟨rfl, t3, b3, x3⟩))
  all_goals
    have H3 := Lib.hid t3.tw
    have B3 := Lib.hid ((HB.out.drew.trans b2).trans b3)
    clear t2 t3 b2 b3 x2 x3
    go_wp2
    go_ret
    exact ⟨by simp, H3.out, B3.out⟩
set_option maxRecDepth 100000 in
set_option maxHeartbeats 4000000 in
theorem played_drop (B b r : Nat) (h : Hp) (a1 a2 a3 : Int) (s : ByteArray) (w : World) (t : Tw B b r h h w) (H : Good h) (hp : phi h ≤ 1000000) :
    Calls Try.prog 11 #[.pointer (some ⟨b, 0, none⟩), .pointer (some ⟨r, 0, none⟩), .agg #[.int .i64 4, .int .i64 a1, .int .i64 a2, .int .i64 a3, .string s]] w (TwP B b r (dropR h a1).1 (dropR h a1).1 (.bool true) w) := by
  have T0 := TwK.of t (.cells #[.int .i64 4, .int .i64 a1, .int .i64 a2, .int .i64 a3, .string s] 33)
  have HL : Hid ((w.alloc (.cells #[.int .i64 4, .int .i64 a1, .int .i64 a2, .int .i64 a3, .string s] 33)).heap[w.heap.size]? = some (.cells #[.int .i64 4, .int .i64 a1, .int .i64 a2, .int .i64 a3, .string s] 33 (0, 0))) := heap_alloc_new w _
  have HB : Hid (Below B w (w.alloc (.cells #[.int .i64 4, .int .i64 a1, .int .i64 a2, .int .i64 a3, .string s] 33))) := ((Below.refl _ _).alloc (Nat.le_refl _) _).mono (by obtain ⟨_, _, t⟩ := t; exact t.size)
  have CP : ∀ W, TwK w.heap.size B b r h h W → Calls Try.prog 28 #[.pointer (some ⟨b, 0, none⟩), .int .i64 a1] W (TwKP w.heap.size B b r (dropR h a1).1 h (.int .i64 (dropR h a1).2) W) := fun W t => TwK.callP t (fun S hs => Drop_hp S b h a1 W hs hp)
  have CR : ∀ W, TwK w.heap.size B b r (dropR h a1).1 h W → Calls Try.prog 42 #[.pointer (some ⟨r, 0, none⟩), .int .i64 a1] W (TwKP w.heap.size B b r (dropR h a1).1 (dropR h a1).1 (.int .i64 (dropR h a1).2) W) := fun W t => TwK.callR t (fun S hs => rDrop_hp S r h a1 W hs H hp)
  have HT := Lib.hid T0.drew
  clear T0 t H hp
  generalize (dropR h a1).2 = v at *
  generalize (dropR h a1).1 = h' at *
  go_enter Try.func11, Try.ntmps11
  go_wp2
  generalize hW1 : w.alloc (.cells #[.int .i64 4, .int .i64 a1, .int .i64 a2, .int .i64 a3, .string s] 33) = w1 at *
  have HQ : Hid (∀ W : World, W.heap[w.heap.size]? = w1.heap[w.heap.size]? → W.cell? ⟨w.heap.size, 1, none⟩ = some (.int .i64 a1)) := fun W e => by
    rw [cell_of_row _ _ _ _ _ _ (e.trans HL.out)]
    rfl
  clear hW1
  go_region_held3 (fun W => W.cell? ⟨w.heap.size, 1, none⟩ = some (.int .i64 a1)) (first | exact HQ.out _ (x3.trans x2) | exact HQ.out _ x2 | exact HQ.out _ rfl) (first | (go_at_call 28; refine (CP _ HT.out).mono ?_; rintro e W2 ⟨rfl, t2, b2, x2⟩) | (go_at_call 42; refine (CR _ t2).mono ?_; rintro e W3 ⟨rfl, t3, b3, x3⟩))
  all_goals
    have H3 := Lib.hid t3.tw
    have B3 := Lib.hid ((HB.out.drew.trans b2).trans b3)
    clear t2 t3 b2 b3 x2 x3
    go_wp2
    go_ret
    exact ⟨by simp, H3.out, B3.out⟩
set_option maxRecDepth 100000 in
set_option maxHeartbeats 4000000 in
theorem played_make (B b r : Nat) (h : Hp) (a1 a2 a3 : Int) (s : ByteArray) (w : World) (t : Tw B b r h h w) (H : Good h) (hp : phi h ≤ 1000000) :
    Calls Try.prog 11 #[.pointer (some ⟨b, 0, none⟩), .pointer (some ⟨r, 0, none⟩), .agg #[.int .i64 0, .int .i64 a1, .int .i64 a2, .int .i64 a3, .string s]] w (TwP B b r (makeR h a1 (!s.toList.isEmpty)).1 (makeR h a1 (!s.toList.isEmpty)).1 (.bool true) w) := by
  have T0 := TwK.of t (.cells #[.int .i64 0, .int .i64 a1, .int .i64 a2, .int .i64 a3, .string s] 33)
  have HL : Hid ((w.alloc (.cells #[.int .i64 0, .int .i64 a1, .int .i64 a2, .int .i64 a3, .string s] 33)).heap[w.heap.size]? = some (.cells #[.int .i64 0, .int .i64 a1, .int .i64 a2, .int .i64 a3, .string s] 33 (0, 0))) := heap_alloc_new w _
  have HB : Hid (Below B w (w.alloc (.cells #[.int .i64 0, .int .i64 a1, .int .i64 a2, .int .i64 a3, .string s] 33))) := ((Below.refl _ _).alloc (Nat.le_refl _) _).mono (by obtain ⟨_, _, t⟩ := t; exact t.size)
  have CP : ∀ W, TwK w.heap.size B b r h h W → Calls Try.prog 34 #[.pointer (some ⟨b, 0, none⟩), .int .i64 a1, .bool (!s.toList.isEmpty)] W (TwKP w.heap.size B b r (makeR h a1 (!s.toList.isEmpty)).1 h (.tuple #[.int .i64 (makeR h a1 (!s.toList.isEmpty)).2.1, .int .i64 (makeR h a1 (!s.toList.isEmpty)).2.2]) W) := fun W t => TwK.callP t (fun S hs => Make_hp S b h a1 (!s.toList.isEmpty) W hs H hp)
  have CR : ∀ W, TwK w.heap.size B b r (makeR h a1 (!s.toList.isEmpty)).1 h W → Calls Try.prog 38 #[.pointer (some ⟨r, 0, none⟩), .int .i64 a1, .bool (!s.toList.isEmpty)] W (TwKP w.heap.size B b r (makeR h a1 (!s.toList.isEmpty)).1 (makeR h a1 (!s.toList.isEmpty)).1 (.tuple #[.int .i64 (makeR h a1 (!s.toList.isEmpty)).2.1, .int .i64 (makeR h a1 (!s.toList.isEmpty)).2.2]) W) := fun W t => TwK.callR t (fun S hs => rMake_hp S r h a1 (!s.toList.isEmpty) W hs H hp)
  have HT := Lib.hid T0
  clear T0 t H hp
  generalize (makeR h a1 (!s.toList.isEmpty)).2.1 = v at *
  generalize (makeR h a1 (!s.toList.isEmpty)).2.2 = v2 at *
  generalize (makeR h a1 (!s.toList.isEmpty)).1 = h' at *
  go_enter Try.func11, Try.ntmps11
  go_wp2_with fail
  refine (CP _ HT.out).mono ?_
  rintro e W2 ⟨rfl, t2, b2, x2⟩
  have HB2 := Lib.hid (HB.out.trans b2)
  have q1 : W2.cell? ⟨w.heap.size, 1, none⟩ = some (.int .i64 a1) := by
    rw [cell_of_row _ _ _ _ _ _ (x2.trans HL.out)]
    rfl
  have HT2 := Lib.hid t2
  clear t2 b2 x2 HT HB HL
  go_wp2_with fail
  refine (CR _ HT2.out).mono ?_
  rintro e W3 ⟨rfl, t3, b3, x3⟩
  have H3 := Lib.hid t3.tw
  have B3 := Lib.hid (HB2.out.trans b3)
  clear t3 b3 x3 HT2 HB2 q1
  have ee : (v == v) = true := by simp
  have ee2 : (v2 == v2) = true := by simp
  go_wp2
  go_ret
  exact ⟨by simp, H3.out, B3.out⟩
set_option maxRecDepth 100000 in
set_option maxHeartbeats 4000000 in
theorem played_next (B b r : Nat) (h : Hp) (a1 a2 a3 : Int) (s : ByteArray) (w : World) (t : Tw B b r h h w) (H : Good h) (hp : phi h ≤ 1000000) :
    Calls Try.prog 11 #[.pointer (some ⟨b, 0, none⟩), .pointer (some ⟨r, 0, none⟩), .agg #[.int .i64 5, .int .i64 a1, .int .i64 a2, .int .i64 a3, .string s]] w (TwP B b r (nextH h).1 (nextH h).1 (.bool true) w) := by
  have T0 := TwK.of t (.cells #[.int .i64 5, .int .i64 a1, .int .i64 a2, .int .i64 a3, .string s] 33)
  have HL : Hid ((w.alloc (.cells #[.int .i64 5, .int .i64 a1, .int .i64 a2, .int .i64 a3, .string s] 33)).heap[w.heap.size]? = some (.cells #[.int .i64 5, .int .i64 a1, .int .i64 a2, .int .i64 a3, .string s] 33 (0, 0))) := heap_alloc_new w _
  have HB : Hid (Below B w (w.alloc (.cells #[.int .i64 5, .int .i64 a1, .int .i64 a2, .int .i64 a3, .string s] 33))) := ((Below.refl _ _).alloc (Nat.le_refl _) _).mono (by obtain ⟨_, _, t⟩ := t; exact t.size)
  have CP : ∀ W, TwK w.heap.size B b r h h W → Calls Try.prog 26 #[.pointer (some ⟨b, 0, none⟩)] W (TwKP w.heap.size B b r (nextH h).1 h (.tuple #[.int .i64 (((nextH h).2.getD 0 : Nat) : Int), .bool (nextH h).2.isSome]) W) := fun W t => TwK.callP t (fun S hs => Next_hp S b h W hs H hp)
  have CR : ∀ W, TwK w.heap.size B b r (nextH h).1 h W → Calls Try.prog 43 #[.pointer (some ⟨r, 0, none⟩)] W (TwKP w.heap.size B b r (nextH h).1 (nextH h).1 (.tuple #[.int .i64 (((nextH h).2.getD 0 : Nat) : Int), .bool (nextH h).2.isSome]) W) := fun W t => TwK.callR t (fun S hs => rNext_hp S r h W hs H hp)
  have HT := Lib.hid T0
  clear T0 t H hp HL
  generalize (((nextH h).2.getD 0 : Nat) : Int) = v at *
  generalize (nextH h).2.isSome = v2 at *
  generalize (nextH h).1 = h' at *
  go_enter Try.func11, Try.ntmps11
  go_wp2_with fail
  refine (CP _ HT.out).mono ?_
  rintro e W2 ⟨rfl, t2, b2, x2⟩
  have HB2 := Lib.hid (HB.out.trans b2)
  have HT2 := Lib.hid t2
  clear t2 b2 x2 HT HB
  go_wp2_with fail
  refine (CR _ HT2.out).mono ?_
  rintro e W3 ⟨rfl, t3, b3, x3⟩
  have H3 := Lib.hid t3.tw
  have B3 := Lib.hid (HB2.out.trans b3)
  clear t3 b3 x3 HT2 HB2
  have ee : (v == v) = true := by simp
  have ee2 : (v2 == v2) = true := by simp
  go_wp2
  go_ret
  exact ⟨by simp, H3.out, B3.out⟩
set_option maxRecDepth 100000 in
set_option maxHeartbeats 4000000 in
theorem played_other (B b r : Nat) (h : Hp) (o a1 a2 a3 : Int) (s : ByteArray) (h0 : o ≠ 0) (h1 : o ≠ 1) (h2 : o ≠ 2) (h3 : o ≠ 3) (h4 : o ≠ 4) (h5 : o ≠ 5) (h6 : o ≠ 6) (w : World) (t : Tw B b r h h w) :
    Calls Try.prog 11 #[.pointer (some ⟨b, 0, none⟩), .pointer (some ⟨r, 0, none⟩), .agg #[.int .i64 o, .int .i64 a1, .int .i64 a2, .int .i64 a3, .string s]] w (TwP B b r h h (.bool true) w) := by
  have T0 := TwK.of t (.cells #[.int .i64 o, .int .i64 a1, .int .i64 a2, .int .i64 a3, .string s] 33)
  have HL : Hid ((w.alloc (.cells #[.int .i64 o, .int .i64 a1, .int .i64 a2, .int .i64 a3, .string s] 33)).heap[w.heap.size]? = some (.cells #[.int .i64 o, .int .i64 a1, .int .i64 a2, .int .i64 a3, .string s] 33 (0, 0))) := heap_alloc_new w _
  have HB : Hid (Below B w (w.alloc (.cells #[.int .i64 o, .int .i64 a1, .int .i64 a2, .int .i64 a3, .string s] 33))) := ((Below.refl _ _).alloc (Nat.le_refl _) _).mono (by obtain ⟨_, _, t⟩ := t; exact t.size)
  have HT := Lib.hid T0.tw
  clear T0 t HL
  have e0 : (o == 0) = false := by rw [beq_eq_false_iff_ne]; exact h0
  have e1 : (o == 1) = false := by rw [beq_eq_false_iff_ne]; exact h1
  have e2 : (o == 2) = false := by rw [beq_eq_false_iff_ne]; exact h2
  have e3 : (o == 3) = false := by rw [beq_eq_false_iff_ne]; exact h3
  have e4 : (o == 4) = false := by rw [beq_eq_false_iff_ne]; exact h4
  have e5 : (o == 5) = false := by rw [beq_eq_false_iff_ne]; exact h5
  have e6 : (o == 6) = false := by rw [beq_eq_false_iff_ne]; exact h6
  clear h0 h1 h2 h3 h4 h5 h6
  go_enter Try.func11, Try.ntmps11
  go_wp2
  go_ret
  exact ⟨rfl, HT.out, HB.out⟩

end Go.Proofs.Ytpedaompcjaahaa
