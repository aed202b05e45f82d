/-
  What the law's own loop finds and writes in a row of trees that Copy has made. Conditions: texts and rows are within the platform's room.
-/
import Derived.Test.YtaocbhfehncdcaaGreatDoorXM20
namespace Go.Proofs.YtaocbhfehncdcaaGreatDoor
open Go.RowKit Go.Deep

structure Tw (W0 b n i : Nat) (A : Nat → Option Addr) (M C : Nat → Nat) (w : World) : Prop where
  ge : 0 < n → W0 ≤ b
  fz : 0 < n → ∀ p, w.frozen? ⟨b, p, none⟩ = false
  txt : ∀ j, i ≤ j → j < n → ∃ x : ByteArray, x.size ≤ Rm ∧ w.cell? ⟨b, j * 5 + 1, none⟩ = some (.string x)
  kid : ∀ j, j < n → M j ≤ Rm ∧ w.cell? ⟨b, j * 5 + 4, none⟩ = some (.slice (A j) (M j) (C j)) ∧ ∀ k, k < M j → ∃ (g o : Nat) (x : Int), A j = some ⟨g, o, none⟩ ∧ W0 ≤ g ∧ g ≠ b ∧ w.cell? ⟨g, o + k * 5 + 3, none⟩ = some (.int .i64 x) ∧ w.frozen? ⟨g, o + k * 5 + 3, none⟩ = false
theorem off_ne {b p q : Nat} (h : p ≠ q) : (⟨b, p, none⟩ : Addr) ≠ ⟨b, q, none⟩ := fun e => h (congrArg Addr.off e)
theorem block_ne {b g p q : Nat} (h : b ≠ g) : (⟨b, p, none⟩ : Addr) ≠ ⟨g, q, none⟩ := fun e => h (congrArg Addr.block e)
theorem Tw.text {W0 b n i : Nat} {A : Nat → Option Addr} {M C : Nat → Nat} {w : World} (h : Tw W0 b n i A M C w) (v : Value) : Tw W0 b n (i + 1) A M C (w.setCell ⟨b, i * 5 + 1, none⟩ v) := by
  refine ⟨h.ge, fun h0 p => by rw [World.frozen?_setCell]; exact h.fz h0 p, fun j h1 h2 => ?_, fun j hj => ?_⟩
  · obtain ⟨x, hx, hc⟩ := h.txt j (by omega) h2
    exact ⟨x, hx, by rw [World.cell?_setCell_other w _ _ _ (off_ne (by omega))]; exact hc⟩
  · obtain ⟨h1, h2, h3⟩ := h.kid j hj
    refine ⟨h1, by rw [World.cell?_setCell_other w _ _ _ (off_ne (by omega))]; exact h2, fun k hk => ?_⟩
    obtain ⟨g, o, x, h4, h5, h6, h7, h8⟩ := h3 k hk
    exact ⟨g, o, x, h4, h5, h6, by rw [World.cell?_setCell_other w _ _ _ (block_ne (Ne.symm h6))]; exact h7, by rw [World.frozen?_setCell]; exact h8⟩
theorem Tw.num {W0 b n i : Nat} {A : Nat → Option Addr} {M C : Nat → Nat} {w : World} (h : Tw W0 b n i A M C w) {g p : Nat} {x : Int} (hg : g ≠ b) (hc : w.cell? ⟨g, p, none⟩ = some (.int .i64 x)) (y : Int) : Tw W0 b n i A M C (w.setCell ⟨g, p, none⟩ (.int .i64 y)) := by
  refine ⟨h.ge, fun h0 p => by rw [World.frozen?_setCell]; exact h.fz h0 p, fun j h1 h2 => ?_, fun j hj => ?_⟩
  · obtain ⟨z, hz, hc2⟩ := h.txt j h1 h2
    exact ⟨z, hz, by rw [World.cell?_setCell_other w _ _ _ (block_ne hg)]; exact hc2⟩
  · obtain ⟨h1, h2, h3⟩ := h.kid j hj
    refine ⟨h1, by rw [World.cell?_setCell_other w _ _ _ (block_ne hg)]; exact h2, fun k hk => ?_⟩
    obtain ⟨g', o, z, h4, h5, h6, h7, h8⟩ := h3 k hk
    by_cases he : (⟨g, p, none⟩ : Addr) = ⟨g', o + k * 5 + 3, none⟩
    · exact ⟨g', o, y, h4, h5, h6, by rw [← he]; exact World.cell?_setCell_same' w _ _ (by rw [hc]; rfl), by rw [World.frozen?_setCell]; exact h8⟩
    · exact ⟨g', o, z, h4, h5, h6, by rw [World.cell?_setCell_other w _ _ _ he]; exact h7, by rw [World.frozen?_setCell]; exact h8⟩
theorem ns_kids {S : Nat → Prop} {w : World} {l : List Nd} {a : Option Addr} {n c : Nat} (h : NsAt S w l (.slice a n c)) : n = l.length ∧ ∀ k, k < n → ∃ (g o : Nat) (x : Int), a = some ⟨g, o, none⟩ ∧ S g ∧ w.cell? ⟨g, o + k * 5 + 3, none⟩ = some (.int .i64 x) := by
  cases h with
  | none => exact ⟨rfl, fun k hk => absurd hk (Nat.not_lt_zero _)⟩
  | some hS hg hc hn hm =>
    refine ⟨hn, fun k hk => ?_⟩
    obtain ⟨e⟩ := hc.el _ (fun j x hx => by
      rw [Lib.cell_of_heap hg]
      rw [List.getElem?_drop] at hx
      simpa using hx) k (by omega)
    exact ⟨_, _, e.n, rfl, hS, e.c3⟩
instance : Inhabited (Option Addr × Nat × Nat) := ⟨none, 0, 0⟩
theorem Tw.of {W0 : Nat} {va : Option Addr} {vc : Nat} {l : List Nd} {xs : List Value} {w : World} (hown : w.ownsRow W0 28 5 (.slice va l.length vc) l.length xs) (hnc : NcAt (Fz W0 (.slice va l.length vc) w) w l xs) (hsh : shL l) :
    ∃ b A M C, (0 < l.length → va = some ⟨b, 0, none⟩) ∧ Tw W0 b l.length 0 A M C w := by
  rcases hown.2 with ⟨h0, h1⟩ | ⟨b, cap, cur, h0, hb, hg, _⟩
  · exact ⟨0, fun _ => none, fun _ => 0, fun _ => 0, fun h => by omega, fun h => by omega, fun h => by omega, fun j _ h => by omega, fun j h => by omega⟩
  · simp only [Value.slice.injEq, true_and] at h0
    obtain ⟨rfl, rfl⟩ := h0
    have hcell : ∀ (j : Nat) (x : Value), xs[j]? = some x → w.cell? ⟨b, 0 + j, none⟩ = some x := fun j x hx => by
      have := hown.cells (g := b) rfl j x hx
      rwa [add_at] at this
    have hel : ∀ i (h : i < l.length), Nonempty (El (Fz W0 (.slice (some ⟨b, 0, none⟩) l.length vc) w) w b (i * 5) l[i]) := fun i h => by
      have := hnc.el 0 hcell i h
      rwa [Nat.zero_add] at this
    have hkid : ∀ j, j < l.length → ∃ K : Option Addr × Nat × Nat, K.2.1 ≤ Rm ∧ w.cell? ⟨b, j * 5 + 4, none⟩ = some (.slice K.1 K.2.1 K.2.2) ∧ ∀ k, k < K.2.1 → ∃ (g o : Nat) (x : Int), K.1 = some ⟨g, o, none⟩ ∧ W0 ≤ g ∧ g ≠ b ∧ w.cell? ⟨g, o + k * 5 + 3, none⟩ = some (.int .i64 x) ∧ w.frozen? ⟨g, o + k * 5 + 3, none⟩ = false := fun j hj => by
      obtain ⟨e⟩ := hel j hj
      have h5 := shL_at hj hsh
      rw [e.eq] at h5
      obtain ⟨h6, h7⟩ := ns_kids e.ns
      have h8 := e.c4
      have h9 := h5.2.1
      refine ⟨(e.a, e.k, e.c), by show e.k ≤ Rm; omega, h8, fun k hk => ?_⟩
      obtain ⟨g, o, x, k1, k2, k3⟩ := h7 k hk
      exact ⟨g, o, x, k1, k2.1.1, fun h => k2.1.2 (by rw [h]; rfl), k3, k2.2 _⟩
    obtain ⟨K, hK⟩ := choose_lt hkid
    refine ⟨b, fun j => (K j).1, fun j => (K j).2.1, fun j => (K j).2.2, fun _ => rfl, fun _ => hb, fun _ p => hown.frozenAt p, fun j _ hj => ?_, hK⟩
    obtain ⟨e⟩ := hel j hj
    have h5 := shL_at hj hsh
    rw [e.eq] at h5
    have h8 := e.c1
    exact ⟨e.s, h5.1, h8⟩

end Go.Proofs.YtaocbhfehncdcaaGreatDoor
