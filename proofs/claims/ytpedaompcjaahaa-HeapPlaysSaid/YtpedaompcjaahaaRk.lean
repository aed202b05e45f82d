/-
  Settle of the document's heap. Conditions: a heap's size (phi) below 2^20.
-/
import Derived.Test.YtpedaompcjaahaaRj
namespace Go.Proofs.Ytpedaompcjaahaa
open Go.RowKit

structure SeJ (S : Nat → Prop) (r : Nat) (w : World) (F T : Nat → Prop) (h1 : Hp) (v : Value) (l : List Nat) (wr : World) : Prop where
  heap : RH F r h1 wr
  row : Rn T v l wr
  apart : ∀ g, F g → ¬ T g
  foot : ∀ g, F g → New S w.heap.size g ∧ g < wr.heap.size
  new : ∀ g, T g → w.heap.size ≤ g ∧ g < wr.heap.size
  kept : Kp S w wr
def SeQ (S : Nat → Prop) (r : Nat) (h : Hp) (w : World) (v : Value) (wr : World) (m : Nat) : Prop :=
  ∃ (f : Nat) (h1 : Hp) (l : List Nat) (F T : Nat → Prop), m = f ∧ settleH h = ((settleF f h1).1, l ++ (settleF f h1).2) ∧ Good h1 ∧ untold h1 < f ∧ l.length + f ≤ 1000 ∧ phi h1 ≤ 1000000 ∧ SeJ S r w F T h1 v l wr
def SfP (S : Nat → Prop) (r : Nat) (x : Hp × List Nat) (w : World) (e : Ending) (w' : World) : Prop :=
  ∃ v F T, e = .returned v ∧ SeJ S r w F T x.1 v x.2 w'

set_option maxRecDepth 100000 in
set_option maxHeartbeats 4000000 in
theorem rSettle_hp (S : Nat → Prop) (r : Nat) (h : Hp) (w : World) (hs : RH S r h w) (H : Good h) (hp : phi h ≤ 1000000) :
    Calls Try.prog 44 #[.pointer (some ⟨r, 0, none⟩)] w (SfP S r (settleH h) w) := by
  have hu : untold h ≤ h.cs.length := List.countP_le_length
  have hStart : SeQ S r h w (.slice none 0 0) w (untold h + 1) := by
    refine ⟨untold h + 1, h, [], fun g => S g ∧ g < w.heap.size, fun _ => False, rfl, rfl, H, Nat.lt_succ_self _, by have := H.few; simp; omega, hp, ?_⟩
    exact ⟨hs.tight, Rn.nil _ _, fun _ _ h => h, fun g a => ⟨Or.inl a.1, a.2⟩, fun _ h => h.elim, Kp.refl S w⟩
  clear hs H hp hu
  have hP : Hid (∀ h1 v F T l w', settleH h = (h1, l) → SeJ S r w F T h1 v l w' → SfP S r (settleH h) w (.returned v) w') := by
    intro h1 v F T l w' e1 e2
    rw [e1]
    exact ⟨v, F, T, rfl, e2⟩
  go_enter Try.func44, Try.ntmps44
  go_wp2
  go_loopw [3] (fun tv wr => ∃ m, SeQ S r h w tv wr m) (fun tv wr => leastN (SeQ S r h w tv wr))
  case atStart => exact ⟨_, hStart⟩
  case round =>
    clear hStart
    obtain ⟨f, h1, l, F, T, hm, hS, hG, hu, hlf, hp, hI⟩ := (least_spec hrel).1
    have hMe : Hid (∀ v w', (∃ m, m < f ∧ SeQ S r h w v w' m) → leastN (SeQ S r h w v w') < leastN (SeQ S r h w u3 wr)) := by
      rintro v w' ⟨m, h1, h2⟩
      have := (least_spec ⟨m, h2⟩).2 m h2
      omega
    clear hm hrel
    have hN := rNext_hp F r h1 wr hI.heap hG hp
    have hok : NxOk h1 (nextH h1) := nextF_ok (phi h1) h1 hG
    have hns := fun h2 => settleF_none (f - 1) h1 h2
    have hsm := fun h2 n => settleF_some (f - 1) h1 h2 n
    have hf1 : f - 1 + 1 = f := by omega
    rw [hf1] at hns hsm
    obtain ⟨ao, cap, rfl⟩ := hI.row.form
    generalize nextH h1 = rr at *
    obtain ⟨h2, o⟩ := rr
    cases o with
    | none =>
      have hQ : Hid (∀ w', RH (New F wr.heap.size) r h2 w' → Kp F wr w' → SfP S r (settleH h) w (.returned (.slice ao l.length cap)) w') := by
        intro w' q1 q2
        refine hP.out h2 _ (fun g => New F wr.heap.size g ∧ g < w'.heap.size) T l w' (by rw [hS, hns h2 rfl, List.append_nil]) ?_
        refine ⟨q1.tight, hI.row.move fun g a c _ => ⟨q2.block g c fun e => hI.apart g e a, a⟩, fun g a e => a.1.elim (fun a => hI.apart g a e) fun a => by have := (hI.new g e).2; omega, fun g a => ⟨a.1.elim (fun a => (hI.foot g a).1) fun a => Or.inr (Nat.le_trans hI.kept.size a), a.2⟩, fun g a => ⟨(hI.new g a).1, Nat.lt_of_lt_of_le (hI.new g a).2 q2.size⟩, hI.kept.trans q2 fun g a e => (hI.foot g e).1.resolve_right (by omega)⟩
      clear hI hns hsm hS hok hP
      go_wp2_with fail
      refine hN.mono ?_
      rintro e w' ⟨rfl, q1, q2⟩
      have hQ2 := Lib.hid (hQ.out w' q1 q2)
      clear q1 q2 hN hQ
      go_wp2
      go_ret
      exact hQ2.out
    | some n =>
      have hs2 := hsm h2 n rfl
      have hcell := hok.cell n rfl
      have hph2 : phi h2 ≤ 1000000 := Nat.le_trans hok.phi hp
      have hG2 := hok.good
      have hl1 : l.length ≤ 1000000 := by omega
      go_wp2_with fail
      refine hN.mono ?_
      rintro e w2 ⟨rfl, q1, q2⟩
      have hF2 := q1.tight
      have hT2 : Rn T (.slice ao l.length cap) l (w2.alloc (.cells #[.int .i64 (n : Nat)] 3)) := hI.row.move fun g a c _ => ⟨(Below.heap_alloc w2 _ g (Nat.lt_of_lt_of_le c q2.size)).trans (q2.block g c fun e => hI.apart g e a), a⟩
      obtain ⟨v', w3, hr, hn3, hg3⟩ := rn_append T _ l n _ hT2 ⟨w2.heap.size, 0, none⟩ 1 (by simp [World.cell?_alloc_new]) hl1
      obtain ⟨ao', cap', rfl⟩ := hn3.form
      have hsz3 := hg3.size
      have hsza : (w2.alloc (.cells #[.int .i64 (n : Nat)] 3)).heap.size = w2.heap.size + 1 := by simp
      have hF3 : RH (fun g => New F wr.heap.size g ∧ g < w2.heap.size) r h2 w3 := hF2.move fun g a c => by
        refine ⟨(hg3.block g (by omega) fun e => ?_).trans (Below.heap_alloc w2 _ g c), a⟩
        have hTg := (hT2.type e.symm).1
        exact a.1.elim (fun a => hI.apart g a hTg) fun a => by have := (hI.new g hTg).2; omega
      have hdr : dropR h2 (n : Int) = (dropF h2 n, 0) := by
        have e0 : eLive h2.cs (n : Int) = 0 := by
          unfold eLive
          rw [if_neg (by have := hcell.1; omega), Int.toNat_natCast, if_neg (by rw [hcell.2.1]; simp)]
        have e1 : ¬ (cl h2.cs (n : Int).toNat).rt = 0 := by
          rw [Int.toNat_natCast]
          have := hcell.2.2.1
          omega
        exact (if_neg (fun e => e e0)).trans (if_neg e1)
      have hD := rDrop_hp (fun g => New F wr.heap.size g ∧ g < w2.heap.size) r h2 (n : Int) w3 hF3 hG2 hph2
      rw [hdr] at hD
      have hX : Hid (∀ w4, RH (New (fun g => New F wr.heap.size g ∧ g < w2.heap.size) w3.heap.size) r (dropF h2 n) w4 → Kp (fun g => New F wr.heap.size g ∧ g < w2.heap.size) w3 w4 → SeQ S r h w (.slice ao' (l ++ [n]).length cap') w4 (f - 1)) := by
        intro w4 p1 p2
        have hsz4 := p2.size
        have hsz2 := q2.size
        refine ⟨f - 1, dropF h2 n, l ++ [n], fun g => New (fun g => New F wr.heap.size g ∧ g < w2.heap.size) w3.heap.size g ∧ g < w4.heap.size, fun g => New T (w2.alloc (.cells #[.int .i64 (n : Nat)] 3)).heap.size g ∧ g < w3.heap.size, rfl, by rw [hS, hs2]; simp, hG2.drop hcell.1 hcell.2.1, by rw [untold_drop _ _ hcell.1]; have := hcell.2.2.2; omega, by simp; omega, Nat.le_trans (phi_drop _ _ hcell.1 hcell.2.2.1) hph2, ?_⟩
        refine ⟨p1.tight, hn3.tight.move fun g a c _ => ⟨p2.block g c fun e => ?_, a⟩, fun g a e => ?_, fun g a => ⟨?_, a.2⟩, fun g a => ⟨?_, Nat.lt_of_lt_of_le a.2 hsz4⟩, ?_⟩
        · rcases a.1 with a1 | a1
          · have := (hI.new g a1).2
            rcases e.1 with e1 | e1
            · exact hI.apart g e1 a1
            · omega
          · have := e.2
            omega
        · rcases e.1 with e1 | e1
          · have := (hI.new g e1).2
            rcases a.1 with a1 | a1
            · rcases a1.1 with a2 | a2
              · exact hI.apart g a2 e1
              · omega
            · omega
          · rcases a.1 with a1 | a1
            · have := a1.2
              omega
            · have := e.2
              omega
        · rcases a.1 with a1 | a1
          · rcases a1.1 with a2 | a2
            · exact (hI.foot g a2).1
            · exact Or.inr (Nat.le_trans hI.kept.size a2)
          · exact Or.inr (Nat.le_trans hI.kept.size (by omega))
        · rcases a.1 with a1 | a1
          · exact (hI.new g a1).1
          · exact Nat.le_trans hI.kept.size (by omega)
        · have k1 : Kp S w w2 := hI.kept.trans q2 fun g a e => (hI.foot g e).1.resolve_right (by omega)
          have k2 : Kp S w w3 := (k1.alloc _).grown hg3 fun k e hk => absurd (hI.new k (hT2.type e).1).1 (by omega)
          exact k2.trans p2 fun g a e => by
            rcases e.1 with e1 | e1
            · exact (hI.foot g e1).1.resolve_right (by omega)
            · exact absurd (Nat.le_trans hI.kept.size e1) (by omega)
      have hf0 : Hid (f - 1 < f) := by show _ < _; omega
      clear hI hns hsm hS hok hP hdr hF2 hF3 hT2 hn3 hg3 hs2 hcell hG2 hN q1 q2 hsz3 hsza
      generalize (l ++ [n]).length = l2 at *
      go_wp2_with (at_builtin; refine wpList_append_is _ rfl _ _ 28 rfl _ _ (.slice ao' l2 cap') w3 rfl rfl hr ?_)
      refine hD.mono ?_
      rintro e w4 ⟨rfl, p1, p2⟩
      have hX2 := Lib.hid (hX.out w4 p1 p2)
      clear p1 p2 hD hX
      go_wp2
      go_roundw
      case rel => exact ⟨_, hX2.out⟩
      case measure => exact hMe.out _ _ ⟨_, hf0.out, hX2.out⟩

end Go.Proofs.Ytpedaompcjaahaa
