/-
  Both heaps side by side; SameInts of equal rows; seen. Conditions: a heap's size (phi) below 2^20.
-/
import Derived.Test.YtpedaompcjaahaaRk
namespace Go.Proofs.Ytpedaompcjaahaa
open Go.RowKit

/-- The program's heap and the document's, apart, from block B on. -/
structure Tv (B b r : Nat) (h1 h2 : Hp) (S1 S2 : Nat → Prop) (w : World) : Prop where
  prog : SH S1 b 0 0 h1 w
  ref : RH S2 r h2 w
  apart : ∀ g, S1 g → ¬ S2 g
  lo1 : ∀ g, S1 g → B ≤ g ∧ g < w.heap.size
  lo2 : ∀ g, S2 g → B ≤ g ∧ g < w.heap.size
  size : B ≤ w.heap.size
def Tw (B b r : Nat) (h1 h2 : Hp) (w : World) : Prop := ∃ S1 S2, Tv B b r h1 h2 S1 S2 w
theorem Tv.prog' {B b r : Nat} {h1 h2 h1' : Hp} {S1 S2 : Nat → Prop} {w w' : World} (t : Tv B b r h1 h2 S1 S2 w) (hs : SH (New S1 w.heap.size) b 0 0 h1' w') (hk : Kp S1 w w') : Tv B b r h1' h2 (fun g => New S1 w.heap.size g ∧ g < w'.heap.size) S2 w' ∧ Below B w w' := by
  refine ⟨⟨hs.tight, t.ref.move fun g a c => ⟨hk.block g c fun e => t.apart g e a, a⟩, fun g a e => ?_, fun g a => ⟨?_, a.2⟩, fun g a => ⟨(t.lo2 g a).1, Nat.lt_of_lt_of_le (t.lo2 g a).2 hk.size⟩, Nat.le_trans t.size hk.size⟩, hk.lows (fun g a => (t.lo1 g a).1) t.size⟩
  · rcases a.1 with a1 | a1
    · exact t.apart g a1 e
    · have := (t.lo2 g e).2
      omega
  · rcases a.1 with a1 | a1
    · exact (t.lo1 g a1).1
    · exact Nat.le_trans t.size a1
theorem Tv.ref' {B b r : Nat} {h1 h2 h2' : Hp} {S1 S2 : Nat → Prop} {w w' : World} (t : Tv B b r h1 h2 S1 S2 w) (hs : RH (New S2 w.heap.size) r h2' w') (hk : Kp S2 w w') : Tv B b r h1 h2' S1 (fun g => New S2 w.heap.size g ∧ g < w'.heap.size) w' ∧ Below B w w' := by
  refine ⟨⟨t.prog.move fun g a c => ⟨hk.block g c fun e => t.apart g a e, a⟩, hs.tight, fun g a e => ?_, fun g a => ⟨(t.lo1 g a).1, Nat.lt_of_lt_of_le (t.lo1 g a).2 hk.size⟩, fun g a => ⟨?_, a.2⟩, Nat.le_trans t.size hk.size⟩, hk.lows (fun g a => (t.lo2 g a).1) t.size⟩
  · rcases e.1 with a1 | a1
    · exact t.apart g a a1
    · have := (t.lo1 g a).2
      omega
  · rcases a.1 with a1 | a1
    · exact (t.lo2 g a1).1
    · exact Nat.le_trans t.size a1
theorem Tw.low {B b r : Nat} {h1 h2 : Hp} {w w' : World} (t : Tw B b r h1 h2 w) (hb : Below w.heap.size w w') : Tw B b r h1 h2 w' ∧ Below B w w' := by
  obtain ⟨S1, S2, t⟩ := t
  exact ⟨⟨S1, S2, t.prog.move fun g a c => ⟨hb.block g c, a⟩, t.ref.move fun g a c => ⟨hb.block g c, a⟩, t.apart, fun g a => ⟨(t.lo1 g a).1, Nat.lt_of_lt_of_le (t.lo1 g a).2 hb.size⟩, fun g a => ⟨(t.lo2 g a).1, Nat.lt_of_lt_of_le (t.lo2 g a).2 hb.size⟩, Nat.le_trans t.size hb.size⟩, hb.mono t.size⟩
def TwP (B b r : Nat) (h1 h2 : Hp) (v : Value) (w : World) (e : Ending) (w' : World) : Prop := e = .returned v ∧ Tw B b r h1 h2 w' ∧ Below B w w'
theorem Tw.callP {B b r : Nat} {h1 h2 h1' : Hp} {w : World} {F : Nat} {args : Array Value} {v : Value} (t : Tw B b r h1 h2 w) (hc : ∀ S, SH S b 0 0 h1 w → Calls Try.prog F args w (ToP S b h1' v w)) : Calls Try.prog F args w (TwP B b r h1' h2 v w) := by
  obtain ⟨S1, S2, t⟩ := t
  refine (hc S1 t.prog).mono ?_
  rintro e w' ⟨rfl, q1, q2⟩
  have := t.prog' q1 q2
  exact ⟨rfl, ⟨_, _, this.1⟩, this.2⟩
theorem Tw.callR {B b r : Nat} {h1 h2 h2' : Hp} {w : World} {F : Nat} {args : Array Value} {v : Value} (t : Tw B b r h1 h2 w) (hc : ∀ S, RH S r h2 w → Calls Try.prog F args w (RoP S r h2' v w)) : Calls Try.prog F args w (TwP B b r h1 h2' v w) := by
  obtain ⟨S1, S2, t⟩ := t
  refine (hc S2 t.ref).mono ?_
  rintro e w' ⟨rfl, q1, q2⟩
  have := t.ref' q1 q2
  exact ⟨rfl, ⟨_, _, this.1⟩, this.2⟩
theorem Tw.callB {B b r : Nat} {h1 h2 : Hp} {w : World} {F : Nat} {args : Array Value} {v : Value} (t : Tw B b r h1 h2 w) (hc : ∀ S, RH S r h2 w → Calls Try.prog F args w fun e w' => e = .returned v ∧ Below w.heap.size w w') : Calls Try.prog F args w (TwP B b r h1 h2 v w) := by
  obtain ⟨S1, S2, t'⟩ := id t
  refine (hc S2 t'.ref).mono ?_
  rintro e w' ⟨rfl, q⟩
  exact ⟨rfl, t.low q⟩
/-- What the law's reading of the document's heap wants. -/
theorem Tw.len {B b r : Nat} {h1 h2 : Hp} {w : World} (t : Tw B b r h1 h2 w) : ∃ ao cap, w.cell? ⟨r, 0, none⟩ = some (.slice ao h2.cs.length cap) := by
  obtain ⟨S1, S2, t⟩ := t
  obtain ⟨vc, vn, fv, hI⟩ := t.ref
  obtain ⟨c0, _, _, _, ao, cap, rfl⟩ := hI.open
  exact ⟨ao, cap, c0⟩

set_option maxRecDepth 100000 in
set_option maxHeartbeats 4000000 in
theorem seen_any (B b r : Nat) (h : Hp) (w : World) (t : Tw B b r h h w) (H : Good h) (hp : phi h ≤ 1000000) :
    Calls Try.prog 12 #[.pointer (some ⟨b, 0, none⟩), .pointer (some ⟨r, 0, none⟩)] w (TwP B b r h h (.bool true) w) := by
  have few := H.few
  have C1 := Lib.hid (fun i w (t : Tw B b r h h w) => Tw.callP t (fun S hs => Count_hp S b h i w hs))
  have C2 := Lib.hid (fun i w (t : Tw B b r h h w) => Tw.callB t (fun S hs => rCount_hp S r h i w hs H hp))
  have C3 := Lib.hid (fun i w (t : Tw B b r h h w) => Tw.callP t (fun S hs => State_hp S b h i w hs))
  have C4 := Lib.hid (fun i w (t : Tw B b r h h w) => Tw.callB t (fun S hs => rState_hp S r h i w hs))
  have C5 := Lib.hid (fun i f w (t : Tw B b r h h w) => Tw.callP t (fun S hs => Get_hp S b h i f w hs H))
  have C6 := Lib.hid (fun i f w (t : Tw B b r h h w) => Tw.callB t (fun S hs => rGet_hp S r h i f w hs))
  have HT := Lib.hid t
  have HB := Lib.hid (Below.refl B w)
  clear H hp t
  generalize countR h = cR at *
  generalize stateR h = sR at *
  generalize getR h = gR at *
  go_enter Try.func12, Try.ntmps12
  go_wp2
  go_loopw [5] (fun iv wr => ∃ k : Nat, k ≤ h.cs.length + 2 ∧ iv = .int .i64 ((k : Int) - 1) ∧ Hid (Tw B b r h h wr) ∧ Hid (Below B w wr)) (fun iv _ => h.cs.length + 2 - (intOf iv + 1).toNat)
  case atStart => exact ⟨0, Nat.zero_le _, rfl, HT, HB⟩
  case round =>
    clear HT HB
    obtain ⟨k, hk, rfl, hT, hB⟩ := hrel
    obtain ⟨ao, cap, c0⟩ := hT.out.len
    by_cases hlt : k < h.cs.length + 2
    · have hle : ((k : Int) - 1 ≤ ((h.cs.length : Nat) : Int)) := by omega
      have hw1 : IntKind.wrap .i64 ((k : Int) - 1 + 1) = ((k + 1 : Nat) : Int) - 1 := by
        rw [wrap_ok (by omega) (by omega)]
        omega
      generalize hi : (k : Int) - 1 = i at *
      go_wp2_with fail
      refine (C1.out i _ hT.out).mono ?_
      rintro e wa ⟨rfl, ta, ba⟩
      have hTa := Lib.hid ta
      have hBa := Lib.hid (hB.out.trans ba)
      clear ta ba hT hB c0
      go_wp2_with fail
      refine (C2.out i _ hTa.out).mono ?_
      rintro e wb ⟨rfl, tb, bb⟩
      have hTb := Lib.hid tb
      have hBb := Lib.hid (hBa.out.trans bb)
      clear tb bb hTa hBa
      go_wp2_with fail
      refine (C3.out i _ hTb.out).mono ?_
      rintro e wc ⟨rfl, tc, bc⟩
      have hTc := Lib.hid tc
      have hBc := Lib.hid (hBb.out.trans bc)
      clear tc bc hTb hBb
      go_wp2_with fail
      refine (C4.out i _ hTc.out).mono ?_
      rintro e wd ⟨rfl, td, bd⟩
      have hTd := Lib.hid td
      have hBd := Lib.hid (hBc.out.trans bd)
      clear td bd hTc hBc
      generalize cR i = x at *
      generalize sR i = y at *
      have e1 : (x.1 != x.1) = false := by simp
      have e2 : (x.2 != x.2) = false := by simp
      have e3 : (y.1 != y.1) = false := by simp
      have e4 : (y.2 != y.2) = false := by simp
      go_wp2
      go_loopw [14] (fun jv wr => ∃ m : Nat, m ≤ 10 ∧ jv = .int .i64 ((m : Int) - 1) ∧ Hid (Tw B b r h h wr) ∧ Hid (Below B w wr)) (fun jv _ => 10 - (intOf jv + 1).toNat)
      case atStart => exact ⟨0, Nat.zero_le _, rfl, hTd, hBd⟩
      case round =>
        clear hTd hBd e1 e2 e3 e4
        obtain ⟨m, hm, rfl, hT, hB⟩ := hrel
        by_cases hm10 : m < 10
        · have hle2 : ((m : Int) - 1 ≤ 8) := by omega
          have hw2 : IntKind.wrap .i64 ((m : Int) - 1 + 1) = ((m + 1 : Nat) : Int) - 1 := by
            rw [wrap_ok (by omega) (by omega)]
            omega
          generalize hj : (m : Int) - 1 = j at *
          go_wp2_with fail
          refine (C5.out i j _ hT.out).mono ?_
          rintro e wa ⟨rfl, ta, ba⟩
          have hTa := Lib.hid ta
          have hBa := Lib.hid (hB.out.trans ba)
          clear ta ba hT hB
          go_wp2_with fail
          refine (C6.out i j _ hTa.out).mono ?_
          rintro e wb ⟨rfl, tb, bb⟩
          have hTb := Lib.hid tb
          have hBb := Lib.hid (hBa.out.trans bb)
          clear tb bb hTa hBa
          generalize gR i j = z at *
          have e1 : (z.1 != z.1) = false := by simp
          have e2 : (z.2.1 != z.2.1) = false := by simp
          have e3 : (z.2.2.1 != z.2.2.1) = false := by simp
          have e4 : (z.2.2.2 != z.2.2.2) = false := by simp
          go_wp2
          go_roundw
          case rel => exact ⟨m + 1, by omega, by simp, hTb, hBb⟩
          case measure => rw [← hj]; simp [intOf]; omega
        · have hle2 : ¬ ((m : Int) - 1 ≤ 8) := by omega
          go_wp2
          go_roundw
          case rel => exact ⟨k + 1, by omega, by simp, hT, hB⟩
          case measure => rw [← hi]; simp [intOf]; omega
    · have hle : ¬ ((k : Int) - 1 ≤ ((h.cs.length : Nat) : Int)) := by omega
      go_wp2
      go_ret
      exact ⟨rfl, hT.out, hB.out⟩

end Go.Proofs.Ytpedaompcjaahaa
