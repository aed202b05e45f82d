/-
  The document's Size, letters, Long of all trees: that they end, and leave what there was. No condition.
-/
import Derived.Test.YtaocbhfehncdcaaGreatDoorXM19
import Derived.Deep.RegionHeld3
namespace Go.Proofs.YtaocbhfehncdcaaGreatDoor
open Go.RowKit

def SzP (w : World) (e : Ending) (w' : World) : Prop := ∃ x y : Int, e = .returned (.tuple #[.int .i64 x, .int .i64 y]) ∧ Below w.heap.size w w'
def LtP (w : World) (e : Ending) (w' : World) : Prop := ∃ x : Int, e = .returned (.int .i64 x) ∧ Below w.heap.size w w'
def LoP (w : World) (e : Ending) (w' : World) : Prop := ∃ b : Bool, e = .returned (.bool b) ∧ Below w.heap.size w w'

set_option maxRecDepth 100000 in
set_option maxHeartbeats 2000000 in
theorem rsize_any_step (S : Nat → Prop) (l : List Nd) (L : Value) (w : World) (h : NsAt S w l L)
    (hih : ∀ i (h : i < l.length) (k : List Nd) (K : Value) (W : World), szL k < szN l[i] → NsAt S W k K → Calls Tryz.prog 29 #[K] W (SzP W)) : Calls Tryz.prog 29 #[L] w (SzP w) := by
    obtain ⟨a, c, rfl, hmax, hrow⟩ := h.row
    have HP : Hid (∀ e w', SzP w' e w' → Below w.heap.size w w' → SzP w e w') := fun e w' h1 h2 => (by obtain ⟨x, y, h3, _⟩ := h1; exact ⟨x, y, h3, h2⟩)
    have HROW := Lib.hid hrow
    have HIH := Lib.hid hih
    have HLS : Hid (l.length ≤ 9223372036854775807) := by
      show _ ≤ _
      unfold maxLen at hmax
      omega
    clear hrow h hih hmax
    go_enter Tryz.func29, Tryz.ntmps29
    go_wp2
    go_loopw [4, 5, 6] (fun n d i wr => ∃ (k : Nat) (x y : Int), k ≤ l.length ∧ i = .int .i64 (k : Int) ∧ n = .int .i64 x ∧ d = .int .i64 y ∧ Hid (Below w.heap.size w wr)) (fun _ _ i _ => l.length - (intOf i).toNat)
    case atStart => exact ⟨0, _, _, Nat.zero_le _, rfl, rfl, rfl, Lib.hid (Below.refl _ _)⟩
    case round =>
      obtain ⟨k, x, y, hk, rfl, rfl, rfl, hb⟩ := hrel
      by_cases hlt : k < l.length
      · obtain ⟨g, o, rfl, hg, hel⟩ := HROW.out (by omega)
        obtain ⟨e⟩ := hel k hlt
        have hbd : Below w.heap.size w wr := hb.out
        have e := e.later hg hbd
        have HSE : Hid (szL e.l < szN l[k]) := by
          show _ < _
          rw [e.sz]
          omega
        have hcell : ∀ (a : Addr) (v : Value), wr.cell? a = some v → wr.cell? a = some v := fun _ _ h => h
        have q0 := hcell _ _ e.c0
        have q1 := hcell _ _ e.c1
        have q2 := hcell _ _ e.c2
        have q3 := hcell _ _ e.c3
        have q4 := hcell _ _ e.c4
        have x1 : (k : Int) < (l.length : Int) := by omega
        have x5 : (0 : Int) ≤ (k : Int) := by omega
        have x3 : IntKind.i64.wrap ((k : Int) + 1) = (k : Int) + 1 := IntWalk.i64_in _ (by have := HLS.out; omega)
        have HCALL := Lib.hid (HIH.out k hlt e.l _ wr HSE.out e.ns)
        have HQ1 : Hid (∀ W, Below wr.heap.size wr W → W.cell? ⟨g, o + k * 5 + 1, none⟩ = some (.string e.s)) := fun W hW => (World.cell?_of_block (a := ⟨g, o + k * 5 + 1, none⟩) (hW.block g (Nat.lt_of_lt_of_le hg hbd.size))).trans e.c1
        have HQ4 : Hid (∀ W, Below wr.heap.size wr W → W.cell? ⟨g, o + k * 5 + 4, none⟩ = some (.slice e.a e.k e.c)) := fun W hW => (World.cell?_of_block (a := ⟨g, o + k * 5 + 4, none⟩) (hW.block g (Nat.lt_of_lt_of_le hg hbd.size))).trans e.c4
        have HQ2 : Hid (∀ W, Below wr.heap.size wr W → W.cell? ⟨g, o + k * 5 + 2, none⟩ = some (.string e.u)) := fun W hW => (World.cell?_of_block (a := ⟨g, o + k * 5 + 2, none⟩) (hW.block g (Nat.lt_of_lt_of_le hg hbd.size))).trans e.c2
        clear hel hcell HSE
        generalize e.op = eo at *
        generalize e.s = es at *
        generalize e.u = eu at *
        generalize e.n = en at *
        generalize e.a = ea at *
        generalize e.k = ek at *
        generalize e.c = ec at *
        have HBD := Lib.hid hbd
        clear hbd e hb
        go_wp2_with fail
        refine HCALL.out.mono ?_
        rintro e1 W2 ⟨x2, y2, rfl, hb2⟩
        have HB2 := Lib.hid (HBD.out.trans (hb2.mono HBD.out.size))
        clear hb2 q0 q1 q2 q3 q4
        go_wp2
        go_roundw
        case rel => exact ⟨k + 1, _, _, hlt, by first | rfl | go_num, rfl, rfl, HB2⟩
        case measure => simp [intOf]; omega
      · have hke : k = l.length := by omega
        have x1 : (l.length : Int) ≤ (k : Int) := by omega
        clear hke
        go_wp2
        go_ret2
        exact HP.out _ _ ⟨_, _, rfl, Below.refl _ _⟩ hb.out
theorem rsize_any (S : Nat → Prop) : ∀ (q : Nat) (l : List Nd) (L : Value) (w : World), szL l ≤ q → NsAt S w l L → Calls Tryz.prog 29 #[L] w (SzP w)
  | 0, l, L, w, hq, h => rsize_any_step S l L w h fun i hi k K W hk hK => absurd hi (by have := len_sz l; omega)
  | q + 1, l, L, w, hq, h => rsize_any_step S l L w h fun i hi k K W hk hK => by
    have h1 := sz_el l i hi
    exact rsize_any S q k K W (by omega) hK

set_option maxRecDepth 100000 in
set_option maxHeartbeats 2000000 in
theorem letters_any_step (S : Nat → Prop) (l : List Nd) (L : Value) (w : World) (h : NsAt S w l L)
    (hih : ∀ i (h : i < l.length) (k : List Nd) (K : Value) (W : World), szL k < szN l[i] → NsAt S W k K → Calls Tryz.prog 30 #[K] W (LtP W)) : Calls Tryz.prog 30 #[L] w (LtP w) := by
    obtain ⟨a, c, rfl, hmax, hrow⟩ := h.row
    have HP : Hid (∀ e w', LtP w' e w' → Below w.heap.size w w' → LtP w e w') := fun e w' h1 h2 => (by obtain ⟨x, h3, _⟩ := h1; exact ⟨x, h3, h2⟩)
    have HROW := Lib.hid hrow
    have HIH := Lib.hid hih
    have HLS : Hid (l.length ≤ 9223372036854775807) := by
      show _ ≤ _
      unfold maxLen at hmax
      omega
    clear hrow h hih hmax
    go_enter Tryz.func30, Tryz.ntmps30
    go_wp2
    go_loopw [3, 4] (fun n i wr => ∃ (k : Nat) (x : Int), k ≤ l.length ∧ i = .int .i64 (k : Int) ∧ n = .int .i64 x ∧ Hid (Below w.heap.size w wr)) (fun _ i _ => l.length - (intOf i).toNat)
    case atStart => exact ⟨0, _, Nat.zero_le _, rfl, rfl, Lib.hid (Below.refl _ _)⟩
    case round =>
      obtain ⟨k, x, hk, rfl, rfl, hb⟩ := hrel
      by_cases hlt : k < l.length
      · obtain ⟨g, o, rfl, hg, hel⟩ := HROW.out (by omega)
        obtain ⟨e⟩ := hel k hlt
        have hbd : Below w.heap.size w wr.drew := hb.out.trans ((Below.refl _ _).drew.mono hb.out.size)
        have e := e.later hg hbd
        have HSE : Hid (szL e.l < szN l[k]) := by
          show _ < _
          rw [e.sz]
          omega
        have hcell : ∀ (a : Addr) (v : Value), wr.drew.cell? a = some v → wr.cell? a = some v := fun _ _ h => h
        have q0 := hcell _ _ e.c0
        have q1 := hcell _ _ e.c1
        have q2 := hcell _ _ e.c2
        have q3 := hcell _ _ e.c3
        have q4 := hcell _ _ e.c4
        have x1 : (k : Int) < (l.length : Int) := by omega
        have x5 : (0 : Int) ≤ (k : Int) := by omega
        have x3 : IntKind.i64.wrap ((k : Int) + 1) = (k : Int) + 1 := IntWalk.i64_in _ (by have := HLS.out; omega)
        have HCALL := Lib.hid (HIH.out k hlt e.l _ wr.drew HSE.out e.ns)
        have HQ1 : Hid (∀ W, Below wr.drew.heap.size wr.drew W → W.cell? ⟨g, o + k * 5 + 1, none⟩ = some (.string e.s)) := fun W hW => (World.cell?_of_block (a := ⟨g, o + k * 5 + 1, none⟩) (hW.block g (Nat.lt_of_lt_of_le hg hbd.size))).trans e.c1
        have HQ4 : Hid (∀ W, Below wr.drew.heap.size wr.drew W → W.cell? ⟨g, o + k * 5 + 4, none⟩ = some (.slice e.a e.k e.c)) := fun W hW => (World.cell?_of_block (a := ⟨g, o + k * 5 + 4, none⟩) (hW.block g (Nat.lt_of_lt_of_le hg hbd.size))).trans e.c4
        have HQ2 : Hid (∀ W, Below wr.drew.heap.size wr.drew W → W.cell? ⟨g, o + k * 5 + 2, none⟩ = some (.string e.u)) := fun W hW => (World.cell?_of_block (a := ⟨g, o + k * 5 + 2, none⟩) (hW.block g (Nat.lt_of_lt_of_le hg hbd.size))).trans e.c2
        clear hel hcell HSE
        generalize e.op = eo at *
        generalize e.s = es at *
        generalize e.u = eu at *
        generalize e.n = en at *
        generalize e.a = ea at *
        generalize e.k = ek at *
        generalize e.c = ec at *
        have HBD := Lib.hid hbd
        clear hbd e hb
        go_wp2
        go_region_held3 (fun W => W.cell? ⟨g, o + k * 5 + 1, none⟩ = some (.string es) ∧ W.cell? ⟨g, o + k * 5 + 2, none⟩ = some (.string eu) ∧ W.cell? ⟨g, o + k * 5 + 4, none⟩ = some (.slice ea ek ec)) (first | exact ⟨HQ1.out _ hb2, HQ2.out _ hb2, HQ4.out _ hb2⟩ | exact ⟨HQ1.out _ (Below.refl _ _), HQ2.out _ (Below.refl _ _), HQ4.out _ (Below.refl _ _)⟩) (first | (go_at_call 30; refine HCALL.out.mono ?_; rintro e1 W2 ⟨x2, rfl, hb2⟩))
        all_goals (
          have HB2 := Lib.hid (HBD.out.trans (hb2.mono HBD.out.size))
          clear hb2 q0 q1 q2 q3 q4
          go_wp2
          go_roundw
          case rel => exact ⟨k + 1, _, hlt, by first | rfl | go_num, rfl, HB2⟩
          case measure => simp [intOf]; omega)
      · have hke : k = l.length := by omega
        have x1 : (l.length : Int) ≤ (k : Int) := by omega
        clear hke
        go_wp2
        go_ret
        exact HP.out _ _ ⟨_, rfl, Below.refl _ _⟩ hb.out
theorem letters_any (S : Nat → Prop) : ∀ (q : Nat) (l : List Nd) (L : Value) (w : World), szL l ≤ q → NsAt S w l L → Calls Tryz.prog 30 #[L] w (LtP w)
  | 0, l, L, w, hq, h => letters_any_step S l L w h fun i hi k K W hk hK => absurd hi (by have := len_sz l; omega)
  | q + 1, l, L, w, hq, h => letters_any_step S l L w h fun i hi k K W hk hK => by
    have h1 := sz_el l i hi
    exact letters_any S q k K W (by omega) hK

set_option maxRecDepth 100000 in
set_option maxHeartbeats 2000000 in
theorem Long_any (S : Nat → Prop) (l : List Nd) (L : Value) (w : World) (h : NsAt S w l L) : Calls Tryz.prog 14 #[L] w (LoP w) := by
  have H1 := Lib.hid (rsize_any S _ l L w (Nat.le_refl _) h)
  have H2 : Hid (∀ W, Below w.heap.size w W → Calls Tryz.prog 30 #[L] W (LtP W)) := fun W hW => letters_any S _ l L W (Nat.le_refl _) (h.move fun g h1 h2 => ⟨hW.block g h2, h1⟩)
  obtain ⟨a, c, rfl, _, _⟩ := h.row
  clear h
  go_enter Tryz.func14, Tryz.ntmps14
  go_wp2_with fail
  refine H1.out.mono ?_
  rintro e W1 ⟨x, y, rfl, hb1⟩
  have H3 := Lib.hid (H2.out W1 hb1)
  have HB1 := Lib.hid hb1
  clear hb1 H1 H2
  by_cases h1 : (1500 : Int) < x
  · go_wp2
    go_ret
    exact ⟨_, rfl, HB1.out⟩
  · have h1' : x ≤ 1500 := by omega
    by_cases h2 : (200 : Int) < y
    · go_wp2
      go_ret
      exact ⟨_, rfl, HB1.out⟩
    · have h2' : y ≤ 200 := by omega
      go_wp2_with fail
      refine H3.out.mono ?_
      rintro e W2 ⟨z, rfl, hb2⟩
      have HB2 := Lib.hid (HB1.out.trans (hb2.mono HB1.out.size))
      clear hb2
      go_wp2
      go_ret
      exact ⟨_, rfl, HB2.out⟩

end Go.Proofs.YtaocbhfehncdcaaGreatDoor
