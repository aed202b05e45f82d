/-
  SameInts of equal rows; played: Settle. Conditions: a heap's size (phi) below 2^20; rows of at most 1000 numbers.
-/
import Derived.Test.YtpedaompcjaahaaRn
namespace Go.Proofs.Ytpedaompcjaahaa
open Go.RowKit

theorem Rn.cells {S : Nat → Prop} {ao : Option Addr} {n c : Nat} {l : List Nat} {w : World} (h : Rn S (.slice ao n c) l w) : n = l.length ∧ (0 < l.length → ∃ g o, ao = some ⟨g, o, none⟩ ∧ ∀ j (hj : j < l.length), w.cell? ⟨g, o + j, none⟩ = some (.int .i64 (l[j] : Nat))) := by
  rcases h with ⟨h1, h2⟩ | ⟨g, o, cap, cur, h1, h2, h3, h4, h5, h6, h7⟩
  · subst h2
    injection h1 with a b c
    exact ⟨by simp [b], fun h => by simp at h⟩
  · injection h1 with a b c
    refine ⟨b, fun _ => ⟨g, o, a, fun j hj => ?_⟩⟩
    rw [cell_of_row _ _ _ _ _ _ h3]
    exact h7 j hj
set_option maxRecDepth 100000 in
set_option maxHeartbeats 4000000 in
theorem same_any (S T : Nat → Prop) (v1 v2 : Value) (l : List Nat) (w : World) (h1 : Rn S v1 l w) (h2 : Rn T v2 l w) (hl : l.length ≤ 1000000) :
    Calls Try.prog 13 #[v1, v2] w fun e w' => e = .returned (.bool true) ∧ Below w.heap.size w w' := by
  obtain ⟨ao1, c1, rfl⟩ := h1.form
  obtain ⟨ao2, c2, rfl⟩ := h2.form
  have HR1 := Lib.hid h1.cells.2
  have HR2 := Lib.hid h2.cells.2
  clear h1 h2
  go_enter Try.func13, Try.ntmps13
  go_wp2
  go_loopw [5] (fun i wr => ∃ (k q : Nat), k ≤ l.length ∧ i = .int .i64 k ∧ wr = w.drewN q) (fun i _ => l.length - (intOf i).toNat)
  case atStart => exact ⟨0, 0, by omega, rfl, rfl⟩
  case round =>
    obtain ⟨k, q, hk, rfl, rfl⟩ := hrel
    by_cases hlt : k < l.length
    · obtain ⟨b1, o1, rfl, hx1⟩ := HR1.out (by omega)
      obtain ⟨b2, o2, rfl, hx2⟩ := HR2.out (by omega)
      have hc1 : (w.drewN q).cell? ⟨b1, o1 + k, none⟩ = some (.int .i64 (l[k] : Nat)) := hx1 k hlt
      have hc2 : (w.drewN q).cell? ⟨b2, o2 + k, none⟩ = some (.int .i64 (l[k] : Nat)) := hx2 k hlt
      have hw1 : IntKind.wrap .i64 (((k : Nat) : Int) + 1) = ((k : Nat) : Int) + 1 := wrap_ok (by omega) (by omega)
      clear hx1 hx2
      generalize l[k] = x at *
      generalize hwq : w.drewN q = wq at *
      have HWQ := Lib.hid hwq
      clear hwq
      go_wp2
      go_quiet (fail)
      go_wp2
      go_roundw
      case rel => exact ⟨k + 1, q + nq, by omega, by go_num, by rw [← HWQ.out, World.drewN_drewN]⟩
      case measure => simp [intOf]; omega
    · go_wp2
      go_ret
      exact ⟨rfl, rfl, rfl, rfl, Nat.le_refl _, fun _ _ => rfl⟩

set_option maxRecDepth 100000 in
set_option maxHeartbeats 4000000 in
theorem played_settle (B b r : Nat) (h : Hp) (a1 a2 a3 : Int) (s : ByteArray) (w : World) (t : Tw B b r h h w) (H : Good h) (hp : phi h ≤ 1000000) :
    Calls Try.prog 11 #[.pointer (some ⟨b, 0, none⟩), .pointer (some ⟨r, 0, none⟩), .agg #[.int .i64 6, .int .i64 a1, .int .i64 a2, .int .i64 a3, .string s]] w (TwP B b r (settleH h).1 (settleH h).1 (.bool true) w) := by
  have hlen : (settleH h).2.length ≤ 1000000 := by
    have hu : untold h ≤ h.cs.length := List.countP_le_length
    have hf : ∀ f h, (settleF f h).2.length ≤ f := fun f => by
      induction f with
      | zero => intro h; exact Nat.le_refl _
      | succ f ih =>
        intro h
        generalize hr : nextH h = x
        obtain ⟨h2, o⟩ := x
        cases o with
        | none => rw [settleF_none f h h2 hr]; exact Nat.zero_le _
        | some n =>
          rw [settleF_some f h h2 n hr]
          exact Nat.succ_le_succ (ih _)
    have := hf (untold h + 1) h
    have := H.few
    show (settleF (untold h + 1) h).2.length ≤ 1000000
    omega
  obtain ⟨S1, S2, t0⟩ := t
  have ha : ∀ g, g < w.heap.size → (w.alloc (.cells #[.int .i64 6, .int .i64 a1, .int .i64 a2, .int .i64 a3, .string s] 33)).heap[g]? = w.heap[g]? := fun g c => Below.heap_alloc w _ g c
  have hsz : (w.alloc (.cells #[.int .i64 6, .int .i64 a1, .int .i64 a2, .int .i64 a3, .string s] 33)).heap.size = w.heap.size + 1 := by simp
  have t1 : Tv B b r h h S1 S2 (w.alloc (.cells #[.int .i64 6, .int .i64 a1, .int .i64 a2, .int .i64 a3, .string s] 33)) :=
    ⟨t0.prog.move fun g a c => ⟨ha g c, a⟩, t0.ref.move fun g a c => ⟨ha g c, a⟩, t0.apart, fun g a => ⟨(t0.lo1 g a).1, by have := (t0.lo1 g a).2; omega⟩, fun g a => ⟨(t0.lo2 g a).1, by have := (t0.lo2 g a).2; omega⟩, by have := t0.size; omega⟩
  have HB : Hid (Below B w (w.alloc (.cells #[.int .i64 6, .int .i64 a1, .int .i64 a2, .int .i64 a3, .string s] 33))) := ((Below.refl _ _).alloc (Nat.le_refl _) _).mono t0.size
  have CP := Settle_hp S1 b h _ t1.prog H hp
  have CR : ∀ W, RH S2 r h W → Calls Try.prog 44 #[.pointer (some ⟨r, 0, none⟩)] W (SfP S2 r (settleH h) W) := fun W hs => rSettle_hp S2 r h W hs H hp
  have HT := Lib.hid t1
  clear t0 t1 ha hsz H hp
  generalize settleH h = x at *
  go_enter Try.func11, Try.ntmps11
  go_wp2_with fail
  refine CP.mono ?_
  rintro e w2 ⟨v1, F1, T1, rfl, q⟩
  have hR2 : RH S2 r h w2 := HT.out.ref.move fun g a c => ⟨q.kept.block g c fun e => HT.out.apart g e a, a⟩
  have hq := Lib.hid q
  have HC := Lib.hid (CR w2 hR2)
  clear q hR2 CP CR
  obtain ⟨ao1, c1, hv1⟩ := hq.out.row.form
  subst hv1
  go_wp2_with fail
  refine HC.out.mono ?_
  rintro e w3 ⟨v2, F2, T2, rfl, q2⟩
  have hrow1 : Rn T1 (.slice ao1 x.2.length c1) x.2 w3 := hq.out.row.move fun g a c _ => ⟨q2.kept.block g c fun e => by have := (hq.out.new g a).1; have := (HT.out.lo2 g e).2; omega, a⟩
  have hrow2 := q2.row
  have hS := same_any T1 T2 _ _ x.2 w3 hrow1 hrow2 hlen
  have hz12 := hq.out.kept.size
  have hz23 := q2.kept.size
  have hTv : Tv B b r x.1 x.1 F1 F2 w3 := by
    refine ⟨hq.out.heap.move fun g a c => ⟨q2.kept.block g c fun e => ?_, a⟩, q2.heap, fun g a e => ?_, fun g a => ?_, fun g a => ?_, by have := HT.out.size; omega⟩
    · rcases (hq.out.foot g a).1 with a1 | a1
      · exact HT.out.apart g a1 e
      · have := (HT.out.lo2 g e).2
        omega
    · have hl1 := (hq.out.foot g a).2
      rcases (q2.foot g e).1 with e1 | e1
      · rcases (hq.out.foot g a).1 with a1 | a1
        · exact HT.out.apart g a1 e1
        · have := (HT.out.lo2 g e1).2
          omega
      · omega
    · refine ⟨?_, Nat.lt_of_lt_of_le (hq.out.foot g a).2 hz23⟩
      rcases (hq.out.foot g a).1 with a1 | a1
      · exact (HT.out.lo1 g a1).1
      · exact Nat.le_trans HT.out.size a1
    · refine ⟨?_, (q2.foot g a).2⟩
      rcases (q2.foot g a).1 with a1 | a1
      · exact (HT.out.lo2 g a1).1
      · exact Nat.le_trans HT.out.size (Nat.le_trans hz12 a1)
  have hBw : Hid (Below B w w3) := (HB.out.trans (hq.out.kept.lows (fun g a => (HT.out.lo1 g a).1) HT.out.size)).trans (q2.kept.lows (fun g a => (HT.out.lo2 g a).1) (Nat.le_trans HT.out.size hz12))
  have hTw : Hid (Tw B b r x.1 x.1 w3) := ⟨_, _, hTv⟩
  clear q2 hrow1 hrow2 hTv hq HC HT HB
  go_wp2_with fail
  refine hS.mono ?_
  rintro e w4 ⟨rfl, hb⟩
  have hf := Lib.hid (hTw.out.low hb)
  clear hb hS hTw
  go_wp2
  go_ret
  exact ⟨rfl, hf.out.1, hBw.out.trans hf.out.2⟩

end Go.Proofs.Ytpedaompcjaahaa
