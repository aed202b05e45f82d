/-
  The texts from one to another one, as a list; and the document's SameTexts over two equal lists.
-/
import Derived.Test.YtmlifgngdilplaaDoorNxt
namespace Go.Proofs.YtmlifgngdilplaaDoor
open Go.RowKit

theorem info9 : (Tryd.prog.info? 9).map (fun i => (i.zero, i.size, i.bytes)) = some (some (.string ByteArray.empty), 1, 16) := by kernel_rfl

def nxB (s : ByteArray) : ByteArray := bs (nxT s.data.toList)
/-- The texts from s on: at most f more, behind acc. -/
def rng : Nat → ByteArray → ByteArray → List ByteArray → List ByteArray × Int
  | 0, s, tt, acc => if s.size ≤ tt.size then ([], 3) else (acc, 0)
  | f + 1, s, tt, acc => if s.size ≤ tt.size then (if s = tt then (acc ++ [s], 0) else rng f (nxB s) tt (acc ++ [s])) else (acc, 0)
theorem rng_out (f : Nat) (s tt : ByteArray) (acc : List ByteArray) (h : ¬ s.size ≤ tt.size) : rng f s tt acc = (acc, 0) := by
  cases f <;> simp [rng, h]
theorem rng_full (s tt : ByteArray) (acc : List ByteArray) (h : s.size ≤ tt.size) : rng 0 s tt acc = ([], 3) := by
  simp [rng, h]
theorem rng_last (f : Nat) (s : ByteArray) (acc : List ByteArray) : rng (f + 1) s s acc = (acc ++ [s], 0) := by
  simp [rng]
theorem rng_more (f : Nat) (s tt : ByteArray) (acc : List ByteArray) (h : s.size ≤ tt.size) (hn : s ≠ tt) : rng (f + 1) s tt acc = rng f (nxB s) tt (acc ++ [s]) := by
  simp [rng, h, hn]

def rngR (s tt : ByteArray) : List ByteArray × Int := if 4096 < s.size ∨ 4096 < tt.size then ([], 3) else rng 200 s tt []

def sliceLen : Value → Nat | .slice _ n _ => n | _ => 0

def Texts (b : Nat) (v : Value) (L : List ByteArray) (w : World) : Prop := w.ownsRow b 9 1 v L.length (L.map Value.string) ∧ ∃ ao cv, v = .slice ao L.length cv
def RngP (R : List ByteArray × Int) (w : World) (e : Ending) (w' : World) : Prop := ∃ v, e = .returned (.tuple #[v, .int .i64 R.2]) ∧ Below w.heap.size w w' ∧ Texts w.heap.size v R.1 w'

theorem owns_below {w w' : World} {base : Nat} {e : TypeId} {size : Nat} {v : Value} {n : Nat} {xs : List Value} (h : w.ownsRow base e size v n xs) (hb : Below w.heap.size w w') : w'.ownsRow base e size v n xs := by
  refine ⟨h.1, ?_⟩
  rcases h.2 with hn | ⟨g, cap, cur, rfl, hb0, hgg, rest⟩
  · exact .inl hn
  · refine .inr ⟨g, cap, cur, rfl, hb0, ?_, rest⟩
    rw [hb.block g (Array.getElem?_eq_some_iff.1 hgg).1]
    exact hgg
theorem Texts.later {b : Nat} {v : Value} {L : List ByteArray} {w w' : World} (h : Texts b v L w) (hb : Below w.heap.size w w') : Texts b v L w' := ⟨owns_below h.1 hb, h.2⟩
theorem Texts.nil (b : Nat) (w : World) : Texts b (.slice none 0 0) [] w := ⟨World.ownsRow_nil _ _ _ _, none, 0, rfl⟩
theorem Texts.cell {b : Nat} {v : Value} {L : List ByteArray} {w : World} (h : Texts b v L w) (hp : 0 < L.length) : ∃ g cv, v = .slice (some ⟨g, 0, none⟩) L.length cv ∧ ∀ j (hj : j < L.length), w.cell? ⟨g, j, none⟩ = some (.string L[j]) := by
  rcases h.1.2 with ⟨_, h0⟩ | ⟨g, cap, cur, rfl, _, _, _⟩
  · omega
  · refine ⟨g, cap, rfl, fun j hj => ?_⟩
    have := h.1.cells (g := g) rfl j (.string L[j]) (by rw [List.getElem?_map, List.getElem?_eq_getElem hj]; rfl)
    rwa [show ((⟨g, 0, none⟩ : Addr).add j) = ⟨g, j, none⟩ by cases j <;> simp [Addr.add]] at this

set_option maxHeartbeats 800000 in
theorem SameTexts_any (L : List ByteArray) (b1 b2 : Nat) (v1 v2 : Value) (w : World) (h1 : Texts b1 v1 L w) (h2 : Texts b2 v2 L w) (hl : L.length ≤ 200) :
    Calls Tryd.prog 38 #[v1, v2] w fun e w' => e = .returned (.bool true) ∧ Below w.heap.size w w' := by
  have hb0 : Hid (Below w.heap.size w w) := Below.refl _ _
  by_cases hp : 0 < L.length
  · obtain ⟨g1, c1, rfl, hc1⟩ := h1.cell hp
    obtain ⟨g2, c2, rfl, hc2⟩ := h2.cell hp
    have HC1 := Lib.hid hc1
    have HC2 := Lib.hid hc2
    clear h1 h2 hc1 hc2
    go_enter Tryd.func38, Tryd.ntmps38
    go_wp2
    go_loopw [5] (fun i wr => ∃ (k q : Nat), k ≤ L.length ∧ i = .int .i64 k ∧ wr = w.drewN q) (fun i _ => L.length - (intOf i).toNat)
    case atStart => exact ⟨0, 0, by omega, rfl, rfl⟩
    case round =>
      obtain ⟨k, q, hk, rfl, rfl⟩ := hrel
      by_cases hlt : k < L.length
      · have hx1 : (w.drewN q).cell? ⟨g1, k, none⟩ = some (.string L[k]) := HC1.out k hlt
        have hx2 : (w.drewN q).cell? ⟨g2, k, none⟩ = some (.string L[k]) := HC2.out k hlt
        generalize L[k] = T at *
        generalize hwq : w.drewN q = wq at *
        have HWQ := Lib.hid hwq
        clear hwq
        go_wp2
        go_quiet (fail)
        go_wp2
        go_roundw
        case rel => exact ⟨k + 1, q + nq, by omega, by go_num, by rw [← HWQ.out, World.drewN_drewN]⟩
        case measure => simp [intOf]; omega
      · go_wp2
        go_ret
        exact ⟨rfl, below_drewN hb0.out _⟩
  · obtain ⟨_, ao1, c1, rfl⟩ := h1
    obtain ⟨_, ao2, c2, rfl⟩ := h2
    have h0 : L.length = 0 := by omega
    rw [h0]
    clear hl hp h0
    go_enter Tryd.func38, Tryd.ntmps38
    go_wp2
    go_loopw [5] (fun i wr => i = .int .i64 0 ∧ wr = w) (fun _ _ => 0)
    case atStart => exact ⟨rfl, rfl⟩
    case round =>
      obtain ⟨rfl, rfl⟩ := hrel
      go_wp2
      go_ret
      exact ⟨rfl, hb0.out⟩

end Go.Proofs.YtmlifgngdilplaaDoor
