/-
  scan and Lex of a text whose tokens are foretold. Conditions: a text of at most 4000 bytes of sources' own, at most 1000 tokens; each token is read and added as foretold. Lex of a text whose tokens are foretold. Conditions: as of scan.
-/
import Derived.Test.YtaocbhfehncdcaaGreatDoorXM09
namespace Go.Proofs.YtaocbhfehncdcaaGreatDoor
open Go.RowKit

/-- A row that is one's own is a slice of its length. -/
theorem row_val {w : World} {W0 : Nat} {E : TypeId} {size n : Nat} {v : Value} {xs : List Value} (h : w.ownsRow W0 E size v n xs) : ∃ a c, v = .slice a n c := by
  rcases h.2 with ⟨h0, h1⟩ | ⟨g, cap, cur, h0, _⟩
  · exact ⟨none, 0, by rw [h0, h1]⟩
  · exact ⟨_, _, h0⟩
theorem row_cell {w : World} {W0 : Nat} {E : TypeId} {size n c : Nat} {a : Option Addr} {xs : List Value} (h : w.ownsRow W0 E size (.slice a n c) n xs) (hn : n ≠ 0) : ∃ g, a = some ⟨g, 0, none⟩ ∧ n ≤ c ∧ ∀ (i : Nat) (x : Value), xs[i]? = some x → w.cell? ⟨g, i, none⟩ = some x := by
  rcases h.2 with ⟨h0, h1⟩ | ⟨g, cap, cur, h0, _, hg, hc, _, _, ht⟩
  · exact absurd h1 hn
  · simp only [Value.slice.injEq] at h0
    obtain ⟨rfl, _, rfl⟩ := h0
    refine ⟨g, rfl, hc, fun i x hx => ?_⟩
    rw [Lib.cell_of_heap hg]
    rw [← ht, List.getElem?_take] at hx
    split at hx
    · simpa using hx
    · cases hx

theorem makeMap_run (w : World) : (Instr.makeMap 94 none).run Tryz.prog w = .ok (.map (some w.heap.size)) (w.alloc (.map #[] 0)) := by kernel_rfl
/-- What scan leaves. -/
def SkP (p : Plan) (w : World) (en : Ending) (w' : World) : Prop :=
  ∃ B M b e tk tm op, en = .returned (.tuple #[.pointer (some ⟨B, 0, none⟩), .int .i64 0, .int .i64 0]) ∧ IsSc w.heap.size B ⟨p.s, p.s.size, b, e, p.T p.k, tk, tm, op, M⟩ (p.R p.k) w' ∧ Below w.heap.size w w'
/-- A scanner that begins. -/
theorem sc_fresh (s : ByteArray) (w : World) : IsSc w.heap.size (w.alloc (.map #[] 0)).heap.size ⟨s, 0, 0, 0, true, .slice none 0 0, .slice none 0 0, .slice none 0 0, w.heap.size⟩ ⟨[], 0, [], [], []⟩
    ((w.alloc (.map #[] 0)).alloc (.cells #[.string s, .int .i64 0, .int .i64 0, .int .i64 0, .bool true, .slice none 0 0, .slice none 0 0, .slice none 0 0, .map (some w.heap.size)] 96)) := by
  have h1 : w.heap.size < (w.alloc (.map #[] 0)).heap.size := by simp
  exact ⟨Nat.le_of_lt h1, (Go.MapKept.heap_alloc _ _).1, ⟨rfl, .inl ⟨rfl, rfl⟩⟩, ⟨rfl, .inl ⟨rfl, rfl⟩⟩, ⟨rfl, .inl ⟨rfl, rfl⟩⟩, (IMap.made w).block (((Below.refl _ _).alloc (Nat.le_refl _) _).block _ h1), Nat.le_refl _⟩

set_option maxRecDepth 100000 in
set_option maxHeartbeats 4000000 in
theorem scan_plan (p : Plan) (hp : p.Ok) (hs : p.s.size ≤ 4000) (hn : (p.R p.k).n ≤ 1000) (h0 : p.T 0 = true) (hR : p.R 0 = ⟨[], 0, [], [], []⟩) (hf : fgN p.s.data.toList = p.s.size) (w : World) (hg : SigAt w) :
    Calls Tryz.prog 74 #[.string p.s] w (SkP p w) := by
  have hi : IsSc w.heap.size (w.alloc (.map #[] 0)).heap.size ⟨p.s, 0, 0, 0, p.T 0, .slice none 0 0, .slice none 0 0, .slice none 0 0, w.heap.size⟩ (p.R 0) ((w.alloc (.map #[] 0)).alloc (.cells #[.string p.s, .int .i64 0, .int .i64 0, .int .i64 0, .bool true, .slice none 0 0, .slice none 0 0, .slice none 0 0, .map (some w.heap.size)] 96)) := by
    rw [h0, hR]
    exact sc_fresh p.s w
  have hb : Below w.heap.size w ((w.alloc (.map #[] 0)).alloc (.cells #[.string p.s, .int .i64 0, .int .i64 0, .int .i64 0, .bool true, .slice none 0 0, .slice none 0 0, .slice none 0 0, .map (some w.heap.size)] 96)) := ((Below.refl _ _).alloc (Nat.le_refl _) _).alloc (by simp) _
  rw [show (w.alloc (.map #[] 0)).heap.size = w.heap.size + 1 from by simp] at hi
  have HRU := Lib.hid (run_plan p hp w.heap.size _ w.heap.size _ _ _ _ hi (hg.block (hb.block _ hg.lt)) hg.lt)
  have HFO := Lib.hid (fun w => foreign_any p.s w (by omega))
  rw [hf] at HFO
  have HB := Lib.hid hb
  have HP : Hid (∀ B M b e tk tm op w', IsSc w.heap.size B ⟨p.s, p.s.size, b, e, p.T p.k, tk, tm, op, M⟩ (p.R p.k) w' → Below w.heap.size w w' → SkP p w (.returned (.tuple #[.pointer (some ⟨B, 0, none⟩), .int .i64 0, .int .i64 0])) w') := fun B M b e tk tm op w' h1 h2 => ⟨B, M, b, e, tk, tm, op, rfl, h1, h2⟩
  have hsi : (p.s.size : Int) ≤ 4000 := by omega
  have hni : ((p.R p.k).n : Int) ≤ 1000 := by omega
  have HN := Lib.hid hn
  have hmm := makeMap_run
  clear hi hb hg h0 hR hf hp hs hn
  go_enter Tryz.func74, Tryz.ntmps74
  go_wp2_with fail
  refine HRU.out.mono ?_
  rintro e1 w1 ⟨rfl, ⟨b, e, tk, tm, op, hsc⟩, hb1⟩
  have HB1 : Hid (Below w.heap.size w w1) := HB.out.trans hb1
  obtain ⟨ta, tc, rfl⟩ := row_val hsc.tk
  have HSC := Lib.hid hsc
  obtain ⟨c0, c1, c2, c3, c4, c5, c6, c7, c8⟩ := hsc.sc.fields
  dsimp only at c0 c1 c2 c3 c4 c5 c6 c7 c8
  clear c0 c1 c2 c3 c4 c6 c7 c8 hsc hb1
  generalize w.heap.size + 1 = B at *
  go_wp2_with fail
  refine (HFO.out _).mono ?_
  rintro e1 w2 ⟨rfl, rfl⟩
  go_wp2
  refine bodyPost_ret (v := .tuple #[.pointer (some ⟨B, 0, none⟩), .int .i64 0, .int .i64 0]) ?_ rfl (HP.out _ _ _ _ _ _ _ _ HSC.out HB1.out)
  simp [results, Tryz.results74, go_sem]

end Go.Proofs.YtaocbhfehncdcaaGreatDoor

namespace Go.Proofs.YtaocbhfehncdcaaGreatDoor
open Go.RowKit

/-- What Lex leaves: a row of tokens of the call's own. -/
def LxP (p : Plan) (w : World) (en : Ending) (w' : World) : Prop :=
  ∃ a c, en = .returned (.tuple #[.slice a (p.R p.k).n c, .int .i64 ((p.R p.k).n : Int), .int .i64 0]) ∧ w'.ownsRow w.heap.size 101 6 (.slice a (p.R p.k).n c) (p.R p.k).n (p.R p.k).tc ∧ Below w.heap.size w w'

set_option maxRecDepth 100000 in
set_option maxHeartbeats 4000000 in
theorem lex_plan (p : Plan) (hp : p.Ok) (hs : p.s.size ≤ 4000) (hn : (p.R p.k).n ≤ 1000) (h0 : p.T 0 = true) (hR : p.R 0 = ⟨[], 0, [], [], []⟩) (hf : fgN p.s.data.toList = p.s.size) (w : World) (hg : SigAt w) :
    Calls Tryz.prog 49 #[.string p.s] w (LxP p w) := by
  have HSC := Lib.hid (scan_plan p hp hs hn h0 hR hf w hg)
  have HP : Hid (∀ a c w', w'.ownsRow w.heap.size 101 6 (.slice a (p.R p.k).n c) (p.R p.k).n (p.R p.k).tc → Below w.heap.size w w' → LxP p w (.returned (.tuple #[.slice a (p.R p.k).n c, .int .i64 ((p.R p.k).n : Int), .int .i64 0])) w') := fun a c w' h1 h2 => ⟨a, c, rfl, h1, h2⟩
  clear hg hf hR h0 hp
  go_enter Tryz.func49, Tryz.ntmps49
  go_wp2_with fail
  refine HSC.out.mono ?_
  rintro e1 w1 ⟨B, M, b, e, tk, tm, op, rfl, hsc, hb⟩
  obtain ⟨a, c, rfl⟩ := row_val hsc.tk
  have H1 := Lib.hid hsc
  have HB := Lib.hid hb
  obtain ⟨c0, c1, c2, c3, c4, c5, c6, c7, c8⟩ := hsc.sc.fields
  dsimp only at c0 c1 c2 c3 c4 c5 c6 c7 c8
  clear c0 c1 c2 c3 c4 c6 c7 c8 hsc hb
  go_wp2
  go_quiet (fail)
  go_wp2
  refine bodyPost_ret (v := .tuple #[.slice a (p.R p.k).n c, .int .i64 ((p.R p.k).n : Int), .int .i64 0]) ?_ rfl (HP.out _ _ _ (H1.out.drew _).tk (bl_drewN HB.out _))
  simp [results, Tryz.results49, go_sem]

end Go.Proofs.YtaocbhfehncdcaaGreatDoor
