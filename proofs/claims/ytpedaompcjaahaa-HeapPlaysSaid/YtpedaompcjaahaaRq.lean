/-
  Slices of acts that a law is handed: what their reading says of memory. No condition beside.
-/
import Derived.Test.YtpedaompcjaahaaRp
import Derived.Deep.Slices
import Derived.OpenShut
import Derived.ShutString
namespace Go.Proofs.Ytpedaompcjaahaa
open Go.RowKit Go.Deep Go.WideShapes

theorem cellsI : Try.prog.cellsOf 3 = 1 := by kernel_rfl
theorem cellsS : Try.prog.cellsOf 9 = 1 := by kernel_rfl
theorem cellsA : Try.prog.cellsOf 33 = 5 := by kernel_rfl
instance : Inhabited Ac := ⟨⟨0, 0, 0, 0, ⟨#[]⟩⟩⟩
set_option maxRecDepth 100000 in
theorem act_open {H : Type} {enc : TypeId × Value → H} {w : World} {base : Nat} {sp : Nat → Bool} {held : Bool} {fuel : Nat} {cs : List Value} {x : DataW H × List MemPlace} (h : DataW.trod enc Try.prog w base sp held fuel 33 cs = some x) :
    ∃ t : Ac, cs = [.int .i64 t.o, .int .i64 t.a, .int .i64 t.b, .int .i64 t.c, .string t.s] := by
  obtain ⟨xs, n, rfl, hx, hlen, hxs, hf⟩ := DataW.trod_struct Try.underlying33 h
  rw [cellsA] at hlen
  have hxl : xs.length = 5 := hxs
  match cs, hlen with
  | [v0, v1, v2, v3, v4], _ =>
    match xs, hxl with
    | [y0, y1, y2, y3, y4], _ =>
      have g0 : DataW.trod enc Try.prog w base sp held n 3 [v0] = some y0 := by
        have := hf 0 _ rfl
        simpa [cellsI] using this
      have g1 : DataW.trod enc Try.prog w base sp held n 3 [v1] = some y1 := by
        have := hf 1 _ rfl
        simpa [cellsI] using this
      have g2 : DataW.trod enc Try.prog w base sp held n 3 [v2] = some y2 := by
        have := hf 2 _ rfl
        simpa [cellsI] using this
      have g3 : DataW.trod enc Try.prog w base sp held n 3 [v3] = some y3 := by
        have := hf 3 _ rfl
        simpa [cellsI] using this
      have g4 : DataW.trod enc Try.prog w base sp held n 9 [v4] = some y4 := by
        have := hf 4 _ rfl
        simpa [cellsS] using this
      obtain ⟨n0, e0, _, _⟩ := DataW.trod_int Try.underlying3 g0
      obtain ⟨n1, e1, _, _⟩ := DataW.trod_int Try.underlying3 g1
      obtain ⟨n2, e2, _, _⟩ := DataW.trod_int Try.underlying3 g2
      obtain ⟨n3, e3, _, _⟩ := DataW.trod_int Try.underlying3 g3
      obtain ⟨s4, e4, _, _⟩ := DataW.trod_string Try.underlying9 g4
      simp only [List.cons.injEq, and_true] at e0 e1 e2 e3 e4
      exact ⟨⟨n0, n1, n2, n3, s4⟩, by rw [e0, e1, e2, e3, e4]⟩
theorem add_none (g p k : Nat) : (⟨g, p, none⟩ : Addr).add k = ⟨g, p + k, none⟩ := by
  unfold Addr.add
  split
  · simp_all
  · rfl
theorem cell_lt {w : World} {a : Addr} {v : Value} (h : w.cell? a = some v) : a.block < w.heap.size := by
  by_cases hh : a.block < w.heap.size
  · exact hh
  · have : w.heap[a.block]? = none := Array.getElem?_eq_none (by omega)
    simp [World.cell?, this] at h
theorem cell_spot {w : World} {a : Addr} {v : Value} (h : w.cell? a = some v) : a.spot = none := by
  unfold World.cell? at h
  split at h
  · split at h
    · cases h
    · rename_i hs
      simpa using hs
  · cases h
set_option maxRecDepth 100000 in
theorem acrow_open {H : Type} {enc : TypeId × Value → H} {W : World} {base b0 : Nat} {r : Reach} {sp : Nat → Bool} {held : Bool} {v : Value} {d : DataW H} {ps : List MemPlace} (hval : Value.okWide Try.prog W r b0 22 v) (h : DataW.Trod enc Try.prog W base sp held 22 v d ps) :
    ∃ sa n c f, v = .slice sa n c ∧ AcRow sa n f W := by
  obtain ⟨a, len, cap, rfl⟩ := okWide_slice Try.underlying22 hval
  obtain ⟨fuel, hf⟩ := h
  refine ⟨a, len, cap, ?_⟩
  rcases open_slice Try.underlying22 hf with ⟨hc, _⟩ | ⟨a', len', cap', m, n, D, Pl, hc, hb, hl, hm, hmm, _, hx⟩
  · simp [Value.cells] at hc
    obtain ⟨rfl, rfl, rfl⟩ := hc
    exact ⟨fun _ => default, rfl, ⟨by simp [maxLen], fun h => absurd h (by omega)⟩⟩
  · simp [Value.cells] at hc
    obtain ⟨rfl, rfl, rfl⟩ := hc
    have hlm : len ≤ m := by
      rw [hmm]
      split <;> omega
    have hone : ∀ i, i < len → ∃ t : Ac, ∀ j, j < 5 → W.cell? (a'.add (i * 5 + j)) = ([.int .i64 t.o, .int .i64 t.a, .int .i64 t.b, .int .i64 t.c, .string t.s] : List Value)[j]? := fun i hi => by
      obtain ⟨cs', h1, h2⟩ := hx i (by omega)
      rw [cellsA] at h1
      obtain ⟨t, rfl⟩ := act_open h2
      obtain ⟨_, _, h3⟩ := World.cells?_some h1
      exact ⟨t, fun j hj => by rw [← h3 j hj, add_add]⟩
    obtain ⟨f, hff⟩ := choose_lt hone
    refine ⟨f, rfl, ⟨by omega, fun hn => ?_⟩⟩
    have h0 := hff 0 hn 0 (by omega)
    have h00 : a'.add (0 * 5 + 0) = a' := by simp [Addr.add]
    rw [h00] at h0
    have hs := cell_spot h0
    have hg := cell_lt h0
    obtain ⟨g, p, s⟩ := a'
    dsimp only at hs hg
    subst hs
    refine ⟨g, p, rfl, hg, fun i hi => ?_⟩
    have hc : ∀ j, j < 5 → W.cell? ⟨g, p + i * 5 + j, none⟩ = ([.int .i64 (f i).o, .int .i64 (f i).a, .int .i64 (f i).b, .int .i64 (f i).c, .string (f i).s] : List Value)[j]? := fun j hj => by
      have := hff i hi j hj
      rwa [add_none, show p + (i * 5 + j) = p + i * 5 + j by omega] at this
    exact ⟨hc 0 (by omega), hc 1 (by omega), hc 2 (by omega), hc 3 (by omega), hc 4 (by omega)⟩

end Go.Proofs.Ytpedaompcjaahaa
