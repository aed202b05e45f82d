/-
  Slices of tokens that a law is handed: what their reading says of memory. No condition beside.
-/
import Derived.Test.YtnfoafcpcabpmaaDoorTr
import Derived.Test.YtnfoafcpcabpmaaDoorSl
import Derived.Deep.Slices
namespace Go.Proofs.YtnfoafcpcabpmaaDoor
open Go.RowKit Go.Deep Go.WideShapes

theorem cellsI : Tryd.prog.cellsOf 3 = 1 := by kernel_rfl
theorem cellsT : Tryd.prog.cellsOf 33 = 6 := by kernel_rfl
instance : Inhabited Tkc := ⟨⟨0, 0, ⟨#[]⟩, ⟨#[]⟩, ⟨#[]⟩, 0⟩⟩
set_option maxRecDepth 100000 in
theorem tok_open {H : Type} {enc : TypeId × Value → H} {w : World} {base : Nat} {sp : Nat → Bool} {held : Bool} {fuel : Nat} {cs : List Value} {x : DataW H × List MemPlace} (h : DataW.trod enc Tryd.prog w base sp held fuel 33 cs = some x) :
    ∃ t : Tkc, cs = [.int .i64 t.k, .int .i64 t.a, .string t.x, .string t.y, .string t.z, .int .i64 t.o] := by
  obtain ⟨xs, n, rfl, hx, hlen, hxs, hf⟩ := DataW.trod_struct Tryd.underlying33 h
  rw [cellsT] at hlen
  have hxl : xs.length = 6 := hxs
  match cs, hlen with
  | [v0, v1, v2, v3, v4, v5], _ =>
    match xs, hxl with
    | [y0, y1, y2, y3, y4, y5], _ =>
      have g0 : DataW.trod enc Tryd.prog w base sp held n 3 [v0] = some y0 := by
        have := hf 0 _ rfl
        simpa [cellsI] using this
      have g1 : DataW.trod enc Tryd.prog w base sp held n 3 [v1] = some y1 := by
        have := hf 1 _ rfl
        simpa [cellsI] using this
      have g2 : DataW.trod enc Tryd.prog w base sp held n 9 [v2] = some y2 := by
        have := hf 2 _ rfl
        simpa [cellsStr1] using this
      have g3 : DataW.trod enc Tryd.prog w base sp held n 9 [v3] = some y3 := by
        have := hf 3 _ rfl
        simpa [cellsStr1] using this
      have g4 : DataW.trod enc Tryd.prog w base sp held n 9 [v4] = some y4 := by
        have := hf 4 _ rfl
        simpa [cellsStr1] using this
      have g5 : DataW.trod enc Tryd.prog w base sp held n 3 [v5] = some y5 := by
        have := hf 5 _ rfl
        simpa [cellsI] using this
      obtain ⟨n0, e0, _, _⟩ := DataW.trod_int Tryd.underlying3 g0
      obtain ⟨n1, e1, _, _⟩ := DataW.trod_int Tryd.underlying3 g1
      obtain ⟨s2, e2, _, _⟩ := DataW.trod_string Tryd.underlying9 g2
      obtain ⟨s3, e3, _, _⟩ := DataW.trod_string Tryd.underlying9 g3
      obtain ⟨s4, e4, _, _⟩ := DataW.trod_string Tryd.underlying9 g4
      obtain ⟨n5, e5, _, _⟩ := DataW.trod_int Tryd.underlying3 g5
      simp only [List.cons.injEq, and_true] at e0 e1 e2 e3 e4 e5
      exact ⟨⟨n0, n1, s2, s3, s4, n5⟩, by rw [e0, e1, e2, e3, e4, e5]⟩
theorem add_none (g p k : Nat) : (⟨g, p, none⟩ : Addr).add k = ⟨g, p + k, none⟩ := by
  unfold Addr.add
  split
  · simp_all
  · rfl
theorem cell_lt {w : World} {a : Addr} {v : Value} (h : w.cell? a = some v) : a.block < w.heap.size := by
  by_cases hh : a.block < w.heap.size
  · exact hh
  · have : w.heap[a.block]? = none := Array.getElem?_eq_none (by omega)
    simp [World.cell?, this] at h
theorem cell_spot {w : World} {a : Addr} {v : Value} (h : w.cell? a = some v) : a.spot = none := by
  unfold World.cell? at h
  split at h
  · split at h
    · cases h
    · rename_i hs
      simpa using hs
  · cases h
set_option maxRecDepth 100000 in
theorem tkrow_open {H : Type} {enc : TypeId × Value → H} {W : World} {base b0 : Nat} {r : Reach} {sp : Nat → Bool} {held : Bool} {v : Value} {d : DataW H} {ps : List MemPlace} (hval : Value.okWide Tryd.prog W r b0 24 v) (h : DataW.Trod enc Tryd.prog W base sp held 24 v d ps) :
    ∃ sa n c f, v = .slice sa n c ∧ TkRow sa n f W := by
  obtain ⟨a, len, cap, rfl⟩ := okWide_slice Tryd.underlying24 hval
  obtain ⟨fuel, hf⟩ := h
  refine ⟨a, len, cap, ?_⟩
  rcases open_slice Tryd.underlying24 hf with ⟨hc, _⟩ | ⟨a', len', cap', m, n, D, Pl, hc, hb, hl, hm, hmm, _, hx⟩
  · simp [Value.cells] at hc
    obtain ⟨rfl, rfl, rfl⟩ := hc
    exact ⟨fun _ => default, rfl, ⟨by simp [maxLen], fun h => absurd h (by omega)⟩⟩
  · simp [Value.cells] at hc
    obtain ⟨rfl, rfl, rfl⟩ := hc
    have hlm : len ≤ m := by
      rw [hmm]
      split <;> omega
    have hone : ∀ i, i < len → ∃ t : Tkc, ∀ j, j < 6 → W.cell? (a'.add (i * 6 + j)) = ([.int .i64 t.k, .int .i64 t.a, .string t.x, .string t.y, .string t.z, .int .i64 t.o] : List Value)[j]? := fun i hi => by
      obtain ⟨cs', h1, h2⟩ := hx i (by omega)
      rw [cellsT] at h1
      obtain ⟨t, rfl⟩ := tok_open h2
      obtain ⟨_, _, h3⟩ := World.cells?_some h1
      exact ⟨t, fun j hj => by rw [← h3 j hj, add_add]⟩
    obtain ⟨f, hff⟩ := choose_lt hone
    refine ⟨f, rfl, ⟨by omega, fun hn => ?_⟩⟩
    have h0 := hff 0 hn 0 (by omega)
    have h00 : a'.add (0 * 6 + 0) = a' := by simp [Addr.add]
    rw [h00] at h0
    have hs := cell_spot h0
    have hg := cell_lt h0
    obtain ⟨g, p, s⟩ := a'
    dsimp only at hs hg
    subst hs
    refine ⟨g, p, rfl, hg, fun i hi => ?_⟩
    have hc : ∀ j, j < 6 → W.cell? ⟨g, p + i * 6 + j, none⟩ = ([.int .i64 (f i).k, .int .i64 (f i).a, .string (f i).x, .string (f i).y, .string (f i).z, .int .i64 (f i).o] : List Value)[j]? := fun j hj => by
      have := hff i hi j hj
      rwa [add_none, show p + (i * 6 + j) = p + i * 6 + j by omega] at this
    exact ⟨hc 0 (by omega), hc 1 (by omega), hc 2 (by omega), hc 3 (by omega), hc 4 (by omega), hc 5 (by omega)⟩

end Go.Proofs.YtnfoafcpcabpmaaDoor
