/-
  HeapPlays' walk. Conditions: none.
-/
import Derived.Test.YtpedaompcjaahaaRo
namespace Go.Proofs.Ytpedaompcjaahaa
open Go.RowKit

structure Ac where
  o : Int
  a : Int
  b : Int
  c : Int
  s : ByteArray
structure AcCells (g p : Nat) (x : Ac) (w : World) : Prop where
  c0 : w.cell? ⟨g, p, none⟩ = some (.int .i64 x.o)
  c1 : w.cell? ⟨g, p + 1, none⟩ = some (.int .i64 x.a)
  c2 : w.cell? ⟨g, p + 2, none⟩ = some (.int .i64 x.b)
  c3 : w.cell? ⟨g, p + 3, none⟩ = some (.int .i64 x.c)
  c4 : w.cell? ⟨g, p + 4, none⟩ = some (.string x.s)
structure AcRow (sa : Option Addr) (n : Nat) (f : Nat → Ac) (w : World) : Prop where
  small : n ≤ maxLen
  row : 0 < n → ∃ g p, sa = some ⟨g, p, none⟩ ∧ g < w.heap.size ∧ ∀ i, i < n → AcCells g (p + i * 5) (f i) w
def actF (h : Hp) (x : Ac) : Hp :=
  if x.o = 0 then (makeR h x.a (!x.s.toList.isEmpty)).1 else if x.o = 1 then (setHR h x.a x.b x.c (!x.s.toList.isEmpty)).1 else if x.o = 2 then (clearR h x.a x.b).1 else if x.o = 3 then (rootR h x.a).1
  else if x.o = 4 then (dropR h x.a).1 else if x.o = 5 then (nextH h).1 else if x.o = 6 then (settleH h).1 else h
theorem actF_ok {h : Hp} (H : Good h) (x : Ac) : Ok h (actF h x) := by
  unfold actF
  split
  · exact makeR_ok H _ _
  · split
    · exact setHR_ok H _ _ _ _
    · split
      · exact clearR_ok H _ _
      · split
        · exact rootR_ok H _
        · split
          · exact dropR_ok H _
          · split
            · exact nextH_ok H
            · split
              · exact settleH_ok H
              · exact Ok.refl H
def play (f : Nat → Ac) : Nat → Hp
  | 0 => ⟨[], []⟩
  | k + 1 => actF (play f k) (f k)
theorem play_ok (f : Nat → Ac) : ∀ k, Good (play f k) ∧ phi (play f k) ≤ k
  | 0 => ⟨good_nil, Nat.le_refl _⟩
  | k + 1 => by
    obtain ⟨h1, h2⟩ := play_ok f k
    have := actF_ok h1 (f k)
    exact ⟨this.good, Nat.le_trans this.phi (Nat.succ_le_succ h2)⟩
theorem played_any (B b r : Nat) (h : Hp) (x : Ac) (w : World) (t : Tw B b r h h w) (H : Good h) (hp : phi h ≤ 1000000) :
    Calls Try.prog 11 #[.pointer (some ⟨b, 0, none⟩), .pointer (some ⟨r, 0, none⟩), .agg #[.int .i64 x.o, .int .i64 x.a, .int .i64 x.b, .int .i64 x.c, .string x.s]] w (TwP B b r (actF h x) (actF h x) (.bool true) w) := by
  obtain ⟨o, a, bb, c, s⟩ := x
  unfold actF
  dsimp only
  by_cases h0 : o = 0
  · subst h0
    exact played_make B b r h a bb c s w t H hp
  · rw [if_neg h0]
    by_cases h1 : o = 1
    · subst h1
      exact played_set B b r h a bb c s w t H hp
    · rw [if_neg h1]
      by_cases h2 : o = 2
      · subst h2
        exact played_clear B b r h a bb c s w t H hp
      · rw [if_neg h2]
        by_cases h3 : o = 3
        · subst h3
          exact played_root B b r h a bb c s w t H hp
        · rw [if_neg h3]
          by_cases h4 : o = 4
          · subst h4
            exact played_drop B b r h a bb c s w t H hp
          · rw [if_neg h4]
            by_cases h5 : o = 5
            · subst h5
              exact played_next B b r h a bb c s w t H hp
            · rw [if_neg h5]
              by_cases h6 : o = 6
              · subst h6
                exact played_settle B b r h a bb c s w t H hp
              · rw [if_neg h6]
                exact played_other B b r h o a bb c s h0 h1 h2 h3 h4 h5 h6 w t
/-- The document's new heap. -/
theorem rnew (w : World) (S : Nat → Prop) (hS : S w.heap.size) : RH S w.heap.size ⟨[], []⟩ (w.alloc (.cells #[.slice none 0 0, .slice none 0 0] 30)) :=
  ⟨.slice none 0 0, .slice none 0 0, fun _ => .slice none 0 0, hS, heap_alloc_new w _, ⟨[], World.ownsRow_nil _ _ _ _, fun i j hi => by simp at hi, fun g e => by simp [Value.ownBlock] at e⟩, fun i hi => by simp at hi, fun i j g hi => by simp at hi, Rn.nil _ _⟩

set_option maxRecDepth 100000 in
set_option maxHeartbeats 4000000 in
theorem heapPlays_walk (sa : Option Addr) (n c : Nat) (f : Nat → Ac) (w : World) (hl : AcRow sa n f w) : Calls Try.prog 3 #[.slice sa n c] w fun e w' => e = .returned (.bool true) ∧ Below w.heap.size w w' := by
  have hsm : n ≤ 9223372036854775807 := by have := hl.small; simp [maxLen] at this; omega
  by_cases hbig : 300 < n
  · have hbi : (300 : Int) < (n : Int) := by omega
    have hKn := known_any w
    clear hl
    go_enter Try.func3, Try.ntmps3
    go_wp2_with fail
    refine hKn.mono ?_
    rintro e w2 ⟨rfl, k2⟩
    have hB2 : Hid (Below w.heap.size w w2) := k2.lows (fun _ a => a) (Nat.le_refl _)
    clear k2 hKn
    go_wp2
    go_ret
    exact ⟨rfl, hB2.out⟩
  · have hbi : ¬ (300 : Int) < (n : Int) := by omega
    have hRow := Lib.hid hl.row
    clear hl
    go_enter Try.func3, Try.ntmps3
    go_wp2_with fail
    refine (New_hp w).mono ?_
    rintro e w1 ⟨rfl, q1, q2, q3⟩
    have hT : Hid (Tw w.heap.size w.heap.size w1.heap.size ⟨[], []⟩ ⟨[], []⟩ (w1.alloc (.cells #[.slice none 0 0, .slice none 0 0] 30))) := by
      refine ⟨fun g => w.heap.size = g, fun g => w1.heap.size = g, q1.move fun g a c => ⟨Below.heap_alloc w1 _ g c, a⟩, rnew w1 _ rfl, fun g a e => by omega, fun g a => by simp; omega, fun g a => by simp; omega, by simp; omega⟩
    have hB : Hid (Below w.heap.size w (w1.alloc (.cells #[.slice none 0 0, .slice none 0 0] 30))) := (Kp.lows (S := fun g => w.heap.size ≤ g) ((Kp.refl _ w).trans q2 fun _ _ a => a.elim) (fun _ a => a) (Nat.le_refl _)).alloc (by omega) _
    have hP0 : Hid (play f 0 = ⟨[], []⟩) := rfl
    clear q1 q2 q3
    generalize hR : w1.heap.size = r at *
    go_wp2
    generalize hW2 : w1.alloc (.cells #[.slice none 0 0, .slice none 0 0] 30) = w2 at *
    clear hW2 hR
    go_loopw [5] (fun iv wr => ∃ k : Nat, k ≤ n ∧ iv = .int .i64 k ∧ Hid (Tw w.heap.size w.heap.size r (play f k) (play f k) wr) ∧ Hid (Below w.heap.size w wr)) (fun iv _ => n - (intOf iv).toNat)
    case atStart => exact ⟨0, Nat.zero_le _, rfl, by rw [hP0.out]; exact hT, hB⟩
    case round =>
      clear hT hB hP0
      obtain ⟨k, hk, rfl, hT, hB⟩ := hrel
      have hkn1 : k ≤ n → k + 1 ≤ 1000000 := fun h => by omega
      have hkn := hkn1 hk
      clear hkn1
      by_cases hlt : k < n
      · obtain ⟨g, p, rfl, hg, hcells⟩ := hRow.out (by omega)
        have hx := hcells k hlt
        have hc : ∀ j, wr.cell? ⟨g, j, none⟩ = w.cell? ⟨g, j, none⟩ := fun j => hB.out.cell (p := ⟨g, j, none⟩) hg
        have e0 : wr.cell? ⟨g, p + k * 5, none⟩ = some (.int .i64 (f k).o) := (hc _).trans hx.c0
        have e1 : wr.cell? ⟨g, p + k * 5 + 1, none⟩ = some (.int .i64 (f k).a) := (hc _).trans hx.c1
        have e2 : wr.cell? ⟨g, p + k * 5 + 2, none⟩ = some (.int .i64 (f k).b) := (hc _).trans hx.c2
        have e3 : wr.cell? ⟨g, p + k * 5 + 3, none⟩ = some (.int .i64 (f k).c) := (hc _).trans hx.c3
        have e4 : wr.cell? ⟨g, p + k * 5 + 4, none⟩ = some (.string (f k).s) := (hc _).trans hx.c4
        have hPl := played_any w.heap.size w.heap.size r (play f k) (f k) wr hT.out (play_ok f k).1 (Nat.le_trans (play_ok f k).2 (Nat.le_trans (Nat.le_succ k) hkn))
        have hSeen := Lib.hid (fun w' (t : Tw w.heap.size w.heap.size r (play f (k + 1)) (play f (k + 1)) w') => seen_any w.heap.size w.heap.size r (play f (k + 1)) w' t (play_ok f (k + 1)).1 (Nat.le_trans (play_ok f (k + 1)).2 hkn))
        have hs1 : Hid (actF (play f k) (f k) = play f (k + 1)) := rfl
        have hw1 : IntKind.wrap .i64 (((k : Nat) : Int) + 1) = ((k : Nat) : Int) + 1 := wrap_ok (by omega) (by omega)
        rw [hs1.out] at hPl
        clear hx hc hcells hs1 hT hkn
        generalize (f k).o = xo at *
        generalize (f k).a = xa at *
        generalize (f k).b = xb at *
        generalize (f k).c = xc at *
        generalize (f k).s = xs at *
        generalize hh1 : play f (k + 1) = h1 at *
        replace hh1 := Lib.hid hh1
        go_wp2_with fail
        refine hPl.mono ?_
        rintro e w3 ⟨rfl, t3, b3⟩
        have hT3 := Lib.hid t3
        have hB3 := Lib.hid (hB.out.trans b3)
        clear t3 b3 hPl hB e0 e1 e2 e3 e4
        by_cases hmod : ((k : Nat) : Int) % 16 = 0
        · go_wp2_with fail
          refine (hSeen.out _ hT3.out).mono ?_
          rintro e w4 ⟨rfl, t4, b4⟩
          have hT4 := Lib.hid t4
          have hB4 := Lib.hid (hB3.out.trans b4)
          clear t4 b4 hSeen hT3 hB3
          go_wp2
          go_roundw
          case rel => exact ⟨k + 1, by omega, rfl, by rw [hh1.out]; exact hT4, hB4⟩
          case measure => simp [intOf]; omega
        · clear hSeen
          go_wp2
          go_roundw
          case rel => exact ⟨k + 1, by omega, rfl, by rw [hh1.out]; exact hT3, hB3⟩
          case measure => simp [intOf]; omega
      · have hkn2 : k = n := by omega
        have hkx : k ≤ 1000000 := by omega
        have hSeen := seen_any w.heap.size w.heap.size r (play f k) wr hT.out (play_ok f k).1 (Nat.le_trans (play_ok f k).2 hkx)
        have hKn := Lib.hid (fun w => known_any w)
        clear hT hkn hkx hRow
        generalize play f k = h0 at *
        subst hkn2
        go_wp2_with fail
        refine hSeen.mono ?_
        rintro e w4 ⟨rfl, _, b4⟩
        have hB4 := Lib.hid (hB.out.trans b4)
        clear b4 hSeen hB
        go_wp2_with fail
        refine (hKn.out _).mono ?_
        rintro e w5 ⟨rfl, k5⟩
        have hB5 : Hid (Below w.heap.size w w5) := hB4.out.trans (k5.lows (fun g a => Nat.le_trans hB4.out.size a) hB4.out.size)
        clear k5 hB4 hKn
        go_wp2
        go_ret
        exact ⟨rfl, hB5.out⟩

end Go.Proofs.Ytpedaompcjaahaa
