/-
  Heaps in memory: rows of numbers from a place on, the program's cells, its state. Conditions: none.
-/
import Derived.Test.YtpedaompcjaahaaHq
import Derived.ArgAppend
import Derived.OwnWalk
import Derived.OneCell
import Derived.Maps.AppendAt
import Derived.Deep.AppendLies
import Derived.Carry
import Derived.OpenShut
import Derived.Defers
import Derived.WalkSpells
import Derived.BigRegion
import Derived.BigQuiet
import Derived.IntWalk
import Derived.WalkKit
import Derived.Lib.Hide
namespace Go.Proofs.Ytpedaompcjaahaa
open Go.RowKit

/-- Of the blocks that there were only those of S may have turned. -/
structure Kp (S : Nat → Prop) (w w' : World) : Prop where
  os : w'.os = w.os
  tape : w'.tape = w.tape
  output : w'.output = w.output
  size : w.heap.size ≤ w'.heap.size
  block : ∀ k, k < w.heap.size → ¬ S k → w'.heap[k]? = w.heap[k]?
def New (S : Nat → Prop) (E : Nat) : Nat → Prop := fun g => S g ∨ E ≤ g
theorem Kp.refl (S : Nat → Prop) (w : World) : Kp S w w := ⟨rfl, rfl, rfl, Nat.le_refl _, fun _ _ _ => rfl⟩
theorem Kp.trans {S S' : Nat → Prop} {a b c : World} (h : Kp S a b) (k : Kp S' b c) (hS : ∀ g, g < a.heap.size → S' g → S g) : Kp S a c :=
  ⟨k.os.trans h.os, k.tape.trans h.tape, k.output.trans h.output, Nat.le_trans h.size k.size, fun g h1 h2 => (k.block g (Nat.lt_of_lt_of_le h1 h.size) (fun e => h2 (hS g h1 e))).trans (h.block g h1 h2)⟩
theorem Kp.then {S : Nat → Prop} {a b c : World} (h : Kp S a b) (k : Kp (New S a.heap.size) b c) : Kp S a c :=
  h.trans k fun g h1 h2 => h2.resolve_right (by omega)
theorem Kp.set {S : Nat → Prop} {a w : World} (h : Kp S a w) {p : Addr} (hp : S p.block ∨ a.heap.size ≤ p.block) (u : Value) : Kp S a (w.setCell p u) :=
  ⟨h.os, h.tape, h.output, by simpa [World.setCell] using h.size, fun k h1 h2 => by
    rw [Below.heap_setCell w p u k (fun e => by subst e; rcases hp with hp | hp; exact h2 hp; omega)]
    exact h.block k h1 h2⟩
theorem Kp.alloc {S : Nat → Prop} {a w : World} (h : Kp S a w) (o : Obj) : Kp S a (w.alloc o) :=
  ⟨h.os, h.tape, h.output, Nat.le_trans h.size (by simp), fun k h1 h2 => by
    rw [Below.heap_alloc w o k (Nat.lt_of_lt_of_le h1 h.size)]
    exact h.block k h1 h2⟩
theorem Kp.grown {S : Nat → Prop} {a w w' : World} {row : Option Nat} (h : Kp S a w) (hg : w.grownBy w' row) (hr : ∀ k, row = some k → k < a.heap.size → S k) : Kp S a w' :=
  ⟨hg.os.trans h.os, hg.tape.trans h.tape, hg.output.trans h.output, Nat.le_trans h.size hg.size, fun k h1 h2 => by
    rw [hg.block k (Nat.lt_of_lt_of_le h1 h.size) (fun e => h2 (hr k e.symm h1))]
    exact h.block k h1 h2⟩
theorem Kp.below {S : Nat → Prop} {w w' : World} (h : Below w.heap.size w w') : Kp S w w' := ⟨h.os, h.tape, h.output, h.size, fun k hk _ => h.block k hk⟩
theorem Kp.wide {S S' : Nat → Prop} {w w' : World} (h : Kp S w w') (hS : ∀ g, g < w.heap.size → S g → S' g) : Kp S' w w' :=
  ⟨h.os, h.tape, h.output, h.size, fun k h1 h2 => h.block k h1 (fun e => h2 (hS k h1 e))⟩
theorem Kp.lows {S : Nat → Prop} {B : Nat} {w w' : World} (h : Kp S w w') (hS : ∀ g, S g → B ≤ g) (hB : B ≤ w.heap.size) : Below B w w' :=
  ⟨h.os, h.tape, h.output, h.size, fun k hk => h.block k (by omega) (fun e => by have := hS k e; omega)⟩

/-- A row of numbers, from a place of its block on. -/
def Rn (S : Nat → Prop) (v : Value) (l : List Nat) (w : World) : Prop :=
  (v = .slice none 0 0 ∧ l = []) ∨
  ∃ g o cap cur, v = .slice (some ⟨g, o, none⟩) l.length cap ∧ S g ∧ w.heap[g]? = some (.cells cur 3 (0, 0)) ∧ l.length ≤ cap ∧ cap ≤ maxLen ∧ o + cap ≤ cur.size ∧ ∀ j (h : j < l.length), cur[o + j]? = some (.int .i64 (l[j] : Nat))
theorem Rn.nil (S : Nat → Prop) (w : World) : Rn S (.slice none 0 0) [] w := .inl ⟨rfl, rfl⟩
theorem Rn.form {S : Nat → Prop} {v : Value} {l : List Nat} {w : World} (h : Rn S v l w) : ∃ ao cap, v = .slice ao l.length cap := by
  rcases h with ⟨h1, h2⟩ | ⟨g, o, cap, cur, h1, _⟩
  · exact ⟨none, 0, by rw [h1, h2]; rfl⟩
  · exact ⟨_, _, h1⟩
theorem Rn.move {S S' : Nat → Prop} {v : Value} {l : List Nat} {w w' : World} (h : Rn S v l w) (hk : ∀ g, S g → g < w.heap.size → v.ownBlock = some g → w'.heap[g]? = w.heap[g]? ∧ S' g) : Rn S' v l w' := by
  rcases h with h | ⟨g, o, cap, cur, h1, h2, h3, h4⟩
  · exact .inl h
  · have := hk g h2 (Array.getElem?_eq_some_iff.1 h3).1 (by rw [h1]; rfl)
    exact .inr ⟨g, o, cap, cur, h1, this.2, this.1.trans h3, h4⟩
theorem Rn.type {S : Nat → Prop} {v : Value} {l : List Nat} {w : World} (h : Rn S v l w) {g : Nat} (hv : v.ownBlock = some g) : S g ∧ ∃ cur, w.heap[g]? = some (.cells cur 3 (0, 0)) := by
  rcases h with h | ⟨g', o, cap, cur, h1, h2, h3, h4⟩
  · rw [h.1] at hv
    simp [Value.ownBlock] at hv
  · rw [h1] at hv
    simp only [Value.ownBlock, Option.some.injEq] at hv
    subst hv
    exact ⟨h2, cur, h3⟩
theorem info_int : (Try.prog.info? 3).map (fun i => (i.zero, i.size, i.bytes)) = some (some (.int .i64 0), 1, 8) := by kernel_rfl
theorem info_of {P : Program} {t : TypeId} {z : Value} {s b : Nat} (h : (P.info? t).map (fun i => (i.zero, i.size, i.bytes)) = some (some z, s, b)) : ∃ i, P.info? t = some i ∧ i.zero = some z ∧ i.size = s ∧ i.bytes = b := by
  cases hi : P.info? t with
  | none => rw [hi] at h; simp at h
  | some i =>
    rw [hi] at h
    simp at h
    exact ⟨i, rfl, h.1, h.2.1, h.2.2⟩
/-- One number more. -/
theorem rn_append (S : Nat → Prop) (v : Value) (l : List Nat) (x : Nat) (w : World) (h : Rn S v l w) (ad : Addr) (c : Nat) (hx : w.cell? ad = some (.int .i64 (x : Nat))) (hl : l.length ≤ 1000000) :
    ∃ v' w', (Builtin.append_ #[28, 28] 28 #[v, .slice (some ad) 1 c]).run Try.prog w = .ok v' w' ∧ Rn (New S w.heap.size) v' (l ++ [x]) w' ∧ w.grownBy w' v.ownBlock := by
  obtain ⟨i, hi, hz, hs, hb⟩ := info_of info_int
  have hnews : ∀ j u, [Value.int .i64 (x : Nat)][j]? = some u → w.cell? (ad.add j) = some u := by
    intro j u hj
    match j, hj with
    | 0, hj =>
      simp at hj
      subst hj
      rw [Addr.add_zero']
      exact hx
    | j + 1, hj => simp at hj
  have of_own : ∀ v' w', w'.ownsRow w.heap.size 3 1 v' (l.length + 1) (l.map (fun n : Nat => Value.int .i64 n) ++ [Value.int .i64 (x : Nat)]) → Rn (New S w.heap.size) v' (l ++ [x]) w' := by
    intro v' w' ho
    rcases ho.2 with ⟨_, h0⟩ | ⟨g, cap, cur, h1, h2, h3, h4, h5, h6, h7⟩
    · omega
    · refine .inr ⟨g, 0, cap, cur, by rw [h1, List.length_append]; rfl, Or.inr h2, h3, by rw [List.length_append]; exact h4, h5, by omega, fun j hj => ?_⟩
      have h8 : (l ++ [x]).map (fun n : Nat => Value.int .i64 n) = cur.toList.take (l.length + 1) := by
        rw [List.map_append]
        simpa using h7.symm
      have h9 : ((l ++ [x]).map (fun n : Nat => Value.int .i64 n))[j]? = some (Value.int .i64 ((l ++ [x])[j] : Nat)) := by
        rw [List.getElem?_map, List.getElem?_eq_getElem hj]
        rfl
      rw [h8, List.getElem?_take_of_lt (by simpa using hj)] at h9
      rw [Nat.zero_add]
      simpa using h9
  rcases h with ⟨h1, h2⟩ | ⟨g, o, cap, cur, h1, h2, h3, h4, h5, h6, h7⟩
  · subst h1
    subst h2
    obtain ⟨v', w', hr, h2, h3, _⟩ := run_append_own (P := Try.prog) w w.heap.size 28 28 3 i (.int .i64 0) 1 8 Try.underlying28 hi hz hs hb rfl (by decide) (.slice none 0 0) 0 [] (World.ownsRow_nil w _ 3 1) ad 1 c _ rfl hnews (by simp [Value.oneCell']) (by simp [maxLen]) (by omega) (Nat.le_refl _)
    exact ⟨v', w', hr, of_own v' w' (by simpa using h2), h3⟩
  · have hcell : ∀ j (hj : j < l.length), w.cell? ⟨g, o + j, none⟩ = some (.int .i64 (l[j] : Nat)) := by
      intro j hj
      have := h7 j hj
      simp [World.cell?, h3, this]
    by_cases hroom : l.length + 1 ≤ cap
    · have hr := run_append_room_cells (P := Try.prog) w 28 28 3 i Try.underlying28 hi g o l.length cap ad 1 c [.int .i64 (x : Nat)] (by simp [hs]) hnews (by simp [Value.oneCell']) hroom
        (fun j hj => by
          have : j = 0 := by simpa using hj
          subst this
          have hlt : o + l.length * i.size < cur.size := by rw [hs]; omega
          simp [World.cell?, h3, hlt])
        (fun j hj => by simp [World.frozen?, h3])
      rw [hs] at hr
      refine ⟨_, _, by rw [h1]; exact hr, ?_, ?_⟩
      · refine .inr ⟨g, o, cap, cur.setIfInBounds (o + l.length) (.int .i64 (x : Nat)), by rw [List.length_append]; rfl, Or.inl h2, ?_, by rw [List.length_append]; exact hroom, h5, by simpa using h6, fun j hj => ?_⟩
        · simp [World.setCells]
          exact heap_setCell_same w g (o + l.length) cur 3 _ h3
        · rw [Array.getElem?_setIfInBounds]
          by_cases hjl : j = l.length
          · subst hjl
            rw [if_pos rfl, if_pos (by omega)]
            simp
          · rw [if_neg (by omega)]
            have hj' : j < l.length := by simp at hj; omega
            rw [h7 j hj', List.getElem_append_left hj']
      · rw [h1]
        simp [World.setCells]
        exact ⟨rfl, rfl, rfl, by simp [World.setCell], fun k hk hne => Below.heap_setCell w ⟨g, o + l.length, none⟩ _ k (fun e => hne (by rw [e]; rfl))⟩
    · obtain ⟨v', w', hr, r1, r2⟩ := run_append_arg_grows (P := Try.prog) w 28 28 3 i (.int .i64 0) 1 8 Try.underlying28 hi hz hs hb rfl (by decide) ⟨g, o, none⟩ l.length cap (l.map (fun n : Nat => Value.int .i64 n)) (by simp)
        (fun j u hj => by
          rw [List.getElem?_map] at hj
          by_cases hjl : j < l.length
          · rw [List.getElem?_eq_getElem hjl] at hj
            rw [Addr.add_lit]
            simp at hj
            rw [← hj]
            exact hcell j hjl
          · rw [List.getElem?_eq_none (by omega)] at hj
            simp at hj)
        ad 1 c [.int .i64 (x : Nat)] rfl hnews (by omega) (by simp [maxLen]; omega) (by omega)
      refine ⟨v', w', by rw [h1]; exact hr, of_own v' w' r1, ⟨r2.os, r2.tape, r2.output, r2.size, fun k hk _ => r2.block k hk (by simp)⟩⟩

end Go.Proofs.Ytpedaompcjaahaa
