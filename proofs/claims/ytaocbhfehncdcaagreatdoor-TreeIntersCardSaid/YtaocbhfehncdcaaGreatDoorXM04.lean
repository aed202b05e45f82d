/-
  What run defers: it recovers from wrong, and goes on where there is no panic. Conditions: none. strings.Builder.WriteByte at this program. Conditions: what is written fits in 2^47 bytes. What stands between the delimiters of a quote: partner, part. Conditions: a text of at most 100000 bytes; what is left out lies ahead.
-/
import Derived.Test.YtaocbhfehncdcaaGreatDoorXM03
import Derived.Recover
import Derived.Test.YtaocbhfehncdcaaGreatDoorXM01
namespace Go.Proofs.YtaocbhfehncdcaaGreatDoor
open Go.RowKit

theorem assert_wrong (b : Int) (w : World) : (Instr.typeAssert (.iface 130 (.int .i64 b)) 20 130 true).run Tryz.prog w = .ok (.tuple #[.int .i64 b, .bool true]) w := by kernel_rfl
theorem assert_nil (w : World) : (Instr.typeAssert Value.nilIface 20 130 true).run Tryz.prog w = .ok (.tuple #[.int .i64 0, .bool false]) w := by kernel_rfl

set_option maxRecDepth 100000 in
theorem catch_wrong (p : Addr) (x : Value) (b : Nat) (w : World) (hc : w.cell? p = some x) (hz : w.frozen? p = false) :
    CallsD Tryz.prog 130 #[.pointer (some p)] (.panicking [{ v := .iface 130 (.int .i64 (b : Int)), recovered := false }]) w fun e u' w' =>
      e = .returned (.tuple #[]) ∧ u' = .panicking [{ v := .iface 130 (.int .i64 (b : Int)), recovered := true }] ∧ w' = w.setCell p (.int .i64 (b : Int)) := by
  refine callsD_of_wpS Tryz.func130 rfl fun c₀ cs hu => ?_
  apply wpS_seq
  apply wpS_region
  simp [wpOpsS, go_sem, recoverD, hu, assert_wrong, Tryz.ntmps130, Exit.thenS]
  apply wpS_seq
  apply wpS_region
  simp [wpOpsS, go_sem, Exit.thenS]
  refine wpS_cond (t := true) (by simp [Act.eval, Array.replicate]) ?_
  simp only [if_true]
  apply wpS_region
  simp [wpOpsS, go_sem, hc, hz, bodyPostS, results, Tryz.results130]

set_option maxRecDepth 100000 in
theorem catch_idle (p : Addr) (w : World) :
    CallsD Tryz.prog 130 #[.pointer (some p)] .returning w fun e u' w' => e = .returned (.tuple #[]) ∧ u' = .returning ∧ w' = w := by
  refine callsD_of_wpS Tryz.func130 rfl fun c₀ cs hu => ?_
  apply wpS_seq
  apply wpS_region
  simp [wpOpsS, go_sem, recoverD, hu, assert_nil, Tryz.ntmps130, Exit.thenS]
  apply wpS_seq
  apply wpS_region
  simp [wpOpsS, go_sem, Exit.thenS]
  refine wpS_cond (t := false) (by simp [Act.eval, Array.replicate]) ?_
  simp only [Bool.false_eq_true, if_false]
  refine wpS_of_wp (wp_skip ?_)
  cases c₀
  simp_all [bodyPostS, results, Tryz.results130]

end Go.Proofs.YtaocbhfehncdcaaGreatDoor

namespace Go.Proofs.YtaocbhfehncdcaaGreatDoor
open Go.RowKit

theorem cell_one_newF (w : World) (x : Value) (T : TypeId) : ∀ j u, [x][j]? = some u → (w.alloc (.cells #[x] T)).cell? ((⟨w.heap.size, 0, none⟩ : Addr).add j) = some u := by
  intro j u h
  cases j with
  | zero =>
    simp at h
    subst h
    show (w.alloc (.cells #[x] T)).cell? ⟨w.heap.size, 0, none⟩ = _
    rw [World.cell?_alloc_mark]
    simp
  | succ j => simp at h
def WbP (B b : Nat) (l : List UInt8) (w : World) (e : Ending) (w' : World) : Prop := e = .returned .nilIface ∧ BldKept B b l w w'

set_option maxHeartbeats 2000000 in
set_option maxRecDepth 100000 in
theorem WriteByte_any (B b : Nat) (l : List UInt8) (c : UInt8) (w : World) (h : Bld B b l w) (hlen : l.length + 1 ≤ 140737488355328) (hBw : B ≤ w.heap.size) :
    Calls Tryz.prog 200 #[.pointer (some ⟨b, 0, none⟩), .int .u8 c.toNat] w (WbP B b (l ++ [c]) w) := by
  obtain ⟨i0, hi, hz0, hz1, hz2⟩ := info_parts infoB
  have hl2 : (Lib.byteCells l).length + 1 ≤ 140737488355328 := by rw [Lib.byteCells_length]; exact hlen
  have hcells : Hid (Lib.byteCells (l ++ [c]) = Lib.byteCells l ++ [.int .u8 (c.toNat : Int)]) := by
    show _ = _
    simp [Lib.byteCells]
  have HP : Hid (∀ w', (Lib.BuilderAtF 54 5 B b (.pointer (some ⟨b, 0, none⟩)) (Lib.byteCells l ++ [.int .u8 (c.toNat : Int)]) w' ∧ Below B w w' ∧ Lib.OthersKept 5 (some b) w w') → WbP B b (l ++ [c]) w (.returned .nilIface) w') := by
    rintro w' ⟨h1, h2, h3⟩
    refine ⟨rfl, ?_, h2, h3⟩
    show Lib.IsBuilderF _ _ _ _ _ _
    rw [hcells.out]
    exact .inr h1
  clear hcells hlen
  unfold Bld at h
  generalize Lib.byteCells l = xs at *
  generalize c.toNat = x at *
  go_enter Tryz.func200, Tryz.ntmps200
  go_wp2_with fail
  refine (copyCheck_any B b xs _ h).mono ?_
  rintro e w1 ⟨rfl, h1, hb1, hk1⟩
  obtain ⟨hB, v, hbk, hown, hne⟩ := h1
  obtain ⟨ao, cap, rfl⟩ : ∃ ao cap, v = .slice ao xs.length cap := by
    rcases hown.2 with ⟨hv, h0⟩ | ⟨g, cap, cur, fz, hv, _⟩
    · exact ⟨none, 0, by rw [hv, h0]⟩
    · exact ⟨_, _, hv⟩
  have c0 : w1.cell? ⟨b, 0, none⟩ = some (.pointer (some ⟨b, 0, none⟩)) := by rw [Lib.cell_of_heap hbk]; rfl
  have c1 : w1.cell? ⟨b, 1, none⟩ = some (.slice ao xs.length cap) := by rw [Lib.cell_of_heap hbk]; rfl
  have hbs := hb1.size
  go_wp2_with (at_builtin; refine wpList_append_ownF _ rfl _ _ 52 rfl B 5 i0 (.int .u8 0) 1 1 Tryz.underlying52 hi hz0 hz1 hz2 rfl (by decide) _ _ _ rfl (hown.alloc _) ⟨w1.heap.size, 0, none⟩ 1 1 [.int .u8 (x : Int)] rfl rfl (cell_one_newF _ _ _) (fun x hx => by simp at hx; subst hx; rfl) (by unfold maxLen; omega) (by omega) (by simp; omega) ?_)
  intro v' w2 hown' hgrow _
  have hlt : b < w1.heap.size := (Array.getElem?_eq_some_iff.1 hbk).1
  have hb2 : w2.heap[b]? = some (.cells #[.pointer (some ⟨b, 0, none⟩), .slice ao xs.length cap] 54 (0, 0)) := by
    rw [hgrow.block b (by simp; omega) (fun e => hne e.symm), Lib.alloc_old w1 _ b hlt]
    exact hbk
  have d0 : w2.cell? ⟨b, 0, none⟩ = some (.pointer (some ⟨b, 0, none⟩)) := by rw [Lib.cell_of_heap hb2]; rfl
  have d1 : w2.cell? ⟨b, 1, none⟩ = some (.slice ao xs.length cap) := by rw [Lib.cell_of_heap hb2]; rfl
  have f1 : w2.frozen? ⟨b, 1, none⟩ = false := Lib.frozen_of_heap hb2 1
  obtain ⟨ao', n', cap', rfl⟩ : ∃ ao n' cap, v' = .slice ao n' cap := by
    rcases hown'.2 with ⟨hv, _⟩ | ⟨g, cap, cur, fz, hv, _⟩
    · exact ⟨_, _, _, hv⟩
    · exact ⟨_, _, _, hv⟩
  go_wp2
  go_ret
  refine HP.out _ ⟨?_, ?_, ((hk1.alloc _).grown hgrow (Lib.ownsRowF_kind (hown.alloc _))).setCell ⟨b, 1, none⟩ rfl _⟩
  · exact Lib.BuilderAtF.put hB hb2 (by simpa using hown') (by decide)
  · exact ((hb1.alloc (by omega) _).grown hgrow (by simp; omega) (fun k hk => (hown.lt k hk).1)).setCell (p := ⟨b, 1, none⟩) hB _

end Go.Proofs.YtaocbhfehncdcaaGreatDoor

namespace Go.Proofs.YtaocbhfehncdcaaGreatDoor
open Go.RowKit

theorem ownsF_kept {w w' : World} {base : Nat} {e : TypeId} {size : Nat} {v : Value} {n : Nat} {xs : List Value} (h : w.ownsRowF base e size v n xs) (hb : ∀ k, base ≤ k → k < w.heap.size → w'.heap[k]? = w.heap[k]?) : w'.ownsRowF base e size v n xs := by
  refine ⟨h.1, ?_⟩
  rcases h.2 with hn | ⟨g, cap, cur, fz, rfl, hb0, hgg, rest⟩
  · exact .inl hn
  · refine .inr ⟨g, cap, cur, fz, rfl, hb0, ?_, rest⟩
    rw [hb g hb0 (Array.getElem?_eq_some_iff.1 hgg).1]
    exact hgg
theorem bldF_kept {B b : Nat} {p : Value} {xs : List Value} {w w' : World} (h : Lib.BuilderAtF 54 5 B b p xs w) (hb : ∀ k, B ≤ k → k < w.heap.size → w'.heap[k]? = w.heap[k]?) : Lib.BuilderAtF 54 5 B b p xs w' := by
  obtain ⟨h1, v, h2, h3, h4⟩ := h
  refine ⟨h1, v, ?_, ownsF_kept h3 hb, h4⟩
  rw [hb b h1 (Array.getElem?_eq_some_iff.1 h2).1]
  exact h2
theorem Bld.kept {B b : Nat} {l : List UInt8} {w w' : World} (h : Bld B b l w) (hb : ∀ k, B ≤ k → k < w.heap.size → w'.heap[k]? = w.heap[k]?) : Bld B b l w' :=
  h.elim (fun x => .inl (bldF_kept x hb)) (fun x => .inr (bldF_kept x hb))
theorem Bld.but {base b : Nat} {l : List UInt8} {w w' : World} {B : Nat} (h : Bld base b l w) (hB : B < base) (hk : But B w w') : Bld base b l w' :=
  h.kept fun k h1 h2 => hk.block k h2 (by omega)
theorem But.more {B : Nat} {w w1 w2 : World} (h : But B w w1) (hb : Below w.heap.size w1 w2) : But B w w2 :=
  ⟨hb.os.trans h.os, hb.tape.trans h.tape, hb.output.trans h.output, Nat.le_trans h.size hb.size, fun k hk hB => (hb.block k hk).trans (h.block k hk hB)⟩
/-- All blocks of a scanner lie below base. -/
structure ScLt (base B : Nat) (σ : Sf) : Prop where
  b : B < base
  tk : ∀ g, σ.tk.ownBlock = some g → g < base
  tm : ∀ g, σ.tm.ownBlock = some g → g < base
  op : ∀ g, σ.op.ownBlock = some g → g < base
  m : σ.M < base
theorem row_lt {w : World} {base : Nat} {e : TypeId} {size : Nat} {v : Value} {n : Nat} {xs : List Value} (h : w.ownsRow base e size v n xs) (g : Nat) (hg : v.ownBlock = some g) : g < w.heap.size := by
  rcases h.2 with ⟨hv, _⟩ | ⟨g', cap, cur, hv, _, hgg, _⟩
  · rw [hv] at hg
    cases hg
  · rw [hv] at hg
    cases hg
    exact (Array.getElem?_eq_some_iff.1 hgg).1
theorem IsSc.ltSize {W0 B : Nat} {σ : Sf} {ρ : Sr} {w : World} (h : IsSc W0 B σ ρ w) : ScLt w.heap.size B σ := ⟨h.sc.lt, row_lt h.tk, row_lt h.tm, row_lt h.op, h.mp.lt⟩
theorem ScLt.withA {base B : Nat} {σ : Sf} (h : ScLt base B σ) (a : Nat) : ScLt base B { σ with a := a } := ⟨h.b, h.tk, h.tm, h.op, h.m⟩
theorem row_kept {w w' : World} {base : Nat} {e : TypeId} {size : Nat} {v : Value} {n : Nat} {xs : List Value} (h : w.ownsRow base e size v n xs) (hk : ∀ g, v.ownBlock = some g → w'.heap[g]? = w.heap[g]?) : w'.ownsRow base e size v n xs := by
  refine ⟨h.1, ?_⟩
  rcases h.2 with hv | ⟨g, cap, cur, hv, h1, hg, h2⟩
  · exact .inl hv
  · exact .inr ⟨g, cap, cur, hv, h1, (hk g (by rw [hv]; rfl)).trans hg, h2⟩
theorem IsSc.below {W0 B base : Nat} {σ : Sf} {ρ : Sr} {w w' : World} (h : IsSc W0 B σ ρ w) (hl : ScLt base B σ) (hb : Below base w w') : IsSc W0 B σ ρ w' :=
  ⟨h.base, (hb.block B hl.b).trans h.sc, row_kept h.tk fun g hg => hb.block g (hl.tk g hg), row_kept h.tm fun g hg => hb.block g (hl.tm g hg), row_kept h.op fun g hg => hb.block g (hl.op g hg), h.mp.block (hb.block _ hl.m), h.mb⟩

def prN (x : Nat) : Nat := if x = 40 then 41 else if x = 91 then 93 else if x = 123 then 125 else if x = 60 then 62 else x
/-- The delimiter with which a quote ends. -/
def prB (b : UInt8) : UInt8 := if b = 40 then 41 else if b = 91 then 93 else if b = 123 then 125 else if b = 60 then 62 else b
theorem partner_any (o : UInt8) (w : World) : Calls Tryz.prog 199 #[.int .u8 o.toNat] w fun e w' => e = .returned (.int .u8 (prB o).toNat) ∧ w = w' := by
  by_cases h1 : o = 40
  · subst h1
    rw [show (((40 : UInt8).toNat : Nat) : Int) = 40 from rfl, show (((prB 40).toNat : Nat) : Int) = 41 from rfl]
    go_enter Tryz.func199, Tryz.ntmps199
    go_wp2
    go_ret
    exact ⟨rfl, rfl⟩
  by_cases h2 : o = 91
  · subst h2
    rw [show (((91 : UInt8).toNat : Nat) : Int) = 91 from rfl, show (((prB 91).toNat : Nat) : Int) = 93 from rfl]
    go_enter Tryz.func199, Tryz.ntmps199
    go_wp2
    go_ret
    exact ⟨rfl, rfl⟩
  by_cases h3 : o = 123
  · subst h3
    rw [show (((123 : UInt8).toNat : Nat) : Int) = 123 from rfl, show (((prB 123).toNat : Nat) : Int) = 125 from rfl]
    go_enter Tryz.func199, Tryz.ntmps199
    go_wp2
    go_ret
    exact ⟨rfl, rfl⟩
  by_cases h4 : o = 60
  · subst h4
    rw [show (((60 : UInt8).toNat : Nat) : Int) = 60 from rfl, show (((prB 60).toNat : Nat) : Int) = 62 from rfl]
    go_enter Tryz.func199, Tryz.ntmps199
    go_wp2
    go_ret
    exact ⟨rfl, rfl⟩
  have hne : ∀ c : UInt8, o ≠ c → ((o.toNat : Int) == (c.toNat : Int)) = false := fun c h => by
    rw [beq_eq_false_iff_ne]
    intro e
    exact h (UInt8.toNat_inj.1 (by omega))
  have f1 : ((o.toNat : Int) == 40) = false := hne 40 h1
  have f2 : ((o.toNat : Int) == 91) = false := hne 91 h2
  have f3 : ((o.toNat : Int) == 123) = false := hne 123 h3
  have f4 : ((o.toNat : Int) == 60) = false := hne 60 h4
  have e : prB o = o := by
    unfold prB
    rw [if_neg h1, if_neg h2, if_neg h3, if_neg h4]
  rw [e]
  clear e hne h1 h2 h3 h4
  go_enter Tryz.func199, Tryz.ntmps199
  go_wp2
  go_ret
  exact ⟨rfl, rfl⟩

/-- What is read up to a closing delimiter: behind it, and what stood before it. -/
def ptF (s : ByteArray) (ml : List (Nat × Nat)) (o : UInt8) : Nat → Nat → Nat → List UInt8 → Option (Nat × List UInt8)
  | 0, _, _, _ => none
  | k + 1, a, d, out =>
    if a < s.size then
      if by0 s.data.toList a = prB o then
        if d = 1 then some (stp ml a, out) else ptF s ml o k (stp ml a) (d - 1) (out ++ [by0 s.data.toList a])
      else if by0 s.data.toList a = o then ptF s ml o k (stp ml a) (d + 1) (out ++ [by0 s.data.toList a])
      else if by0 s.data.toList a = 92 then
        if stp ml a < s.size then ptF s ml o k (stp ml (stp ml a)) d (out ++ [92] ++ [by0 s.data.toList (stp ml a)]) else none
      else ptF s ml o k (stp ml a) d (out ++ [by0 s.data.toList a])
    else none
def pt (s : ByteArray) (ml : List (Nat × Nat)) (o : UInt8) (a d : Nat) (out : List UInt8) : Option (Nat × List UInt8) := ptF s ml o (s.size + 1 - a) a d out
theorem ptF_more {s : ByteArray} {ml : List (Nat × Nat)} {o : UInt8} (hg : Gd s.size ml) : ∀ (k m a d : Nat) (out : List UInt8), s.size + 1 - a ≤ k → s.size + 1 - a ≤ m → ptF s ml o k a d out = ptF s ml o m a d out
  | 0, 0, a, d, out, _, _ => rfl
  | 0, m + 1, a, d, out, h1, _ => by
    unfold ptF
    rw [if_neg (by omega)]
  | k + 1, 0, a, d, out, _, h2 => by
    unfold ptF
    rw [if_neg (by omega)]
  | k + 1, m + 1, a, d, out, h1, h2 => by
    have g1 := (stp_gt hg a).1
    have g2 := (stp_gt hg (stp ml a)).1
    unfold ptF
    by_cases ha : a < s.size
    · rw [if_pos ha, if_pos ha, ptF_more hg k m (stp ml a) (d - 1) _ (by omega) (by omega), ptF_more hg k m (stp ml a) (d + 1) _ (by omega) (by omega), ptF_more hg k m (stp ml (stp ml a)) d _ (by omega) (by omega), ptF_more hg k m (stp ml a) d _ (by omega) (by omega)]
    · rw [if_neg ha, if_neg ha]
theorem pt_end {s : ByteArray} {ml : List (Nat × Nat)} {o : UInt8} {a d : Nat} {out : List UInt8} (h : s.size ≤ a) : pt s ml o a d out = none := by
  unfold pt
  cases s.size + 1 - a with
  | zero => rfl
  | succ k =>
    unfold ptF
    rw [if_neg (by omega)]
theorem pt_step {s : ByteArray} {ml : List (Nat × Nat)} {o : UInt8} (hg : Gd s.size ml) {a : Nat} (d : Nat) (out : List UInt8) (h : a < s.size) :
    pt s ml o a d out = if s[a] = prB o then (if d = 1 then some (stp ml a, out) else pt s ml o (stp ml a) (d - 1) (out ++ [s[a]]))
      else if s[a] = o then pt s ml o (stp ml a) (d + 1) (out ++ [s[a]])
      else if s[a] = 92 then (if stp ml a < s.size then pt s ml o (stp ml (stp ml a)) d (out ++ [92] ++ [by0 s.data.toList (stp ml a)]) else none)
      else pt s ml o (stp ml a) d (out ++ [s[a]]) := by
  have g1 := (stp_gt hg a).1
  have g2 := (stp_gt hg (stp ml a)).1
  unfold pt
  obtain ⟨k, hk⟩ : ∃ k, s.size + 1 - a = k + 1 := ⟨s.size - a, by omega⟩
  rw [hk]
  show (if a < s.size then _ else _) = _
  rw [if_pos h, by0_at s a h, ptF_more hg k (s.size + 1 - stp ml a) (stp ml a) (d - 1) _ (by omega) (by omega), ptF_more hg k (s.size + 1 - stp ml a) (stp ml a) (d + 1) _ (by omega) (by omega), ptF_more hg k (s.size + 1 - stp ml (stp ml a)) (stp ml (stp ml a)) d _ (by omega) (by omega), ptF_more hg k (s.size + 1 - stp ml a) (stp ml a) d _ (by omega) (by omega)]

end Go.Proofs.YtaocbhfehncdcaaGreatDoor
