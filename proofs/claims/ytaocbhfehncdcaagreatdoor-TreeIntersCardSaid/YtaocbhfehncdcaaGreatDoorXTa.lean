/-
  The parser's arrow before a bracket. Conditions: none beside those stated.
-/
import Derived.Test.YtaocbhfehncdcaaGreatDoorXTe
import Derived.Deep.RegionWith
namespace Go.Proofs.YtaocbhfehncdcaaGreatDoor
open Go.RowKit

/-- Rows that were handed in, or lie behind block T. -/
def Ow (S : Nat → Prop) (E T : Nat) : Nat → Prop := fun g => (S g ∧ g < E) ∨ T < g
theorem Ow.new {S : Nat → Prop} {E T H : Nat} (h : T < H) : ∀ g, New (Ow S E T) H g → Ow S E T g := fun g hg => by
  rcases hg with hg | hg
  · exact hg
  · exact Or.inr (by omega)

theorem nd_val {S : Nat → Prop} {w : World} {op : Int} {s t : ByteArray} {n : Int} {l : List Nd} {v : Value} (h : NdAt S w (.mk op s t n l) v) : ∃ a k c, v = .agg #[.int .i64 op, .string s, .string t, .int .i64 n, .slice a k c] := by
  cases h with
  | mk h =>
    obtain ⟨a, k, c, rfl⟩ := h.val
    exact ⟨a, k, c, rfl⟩
set_option maxRecDepth 100000 in
set_option maxHeartbeats 8000000 in
theorem arrow_br (κ : Pc) (ts : List Tt) (P k j : Nat) (S : Nat → Prop) (N t : Nd) (vn : Value) (w : World) (h : PsAt κ ts P k w) (hN : NdAt S w N vn) (hSP : ∀ g, S g → g ≠ P) (hk : k ≤ 900) (hj : j ≤ 900)
    (q0 : sgOf (tAt ts k) ⟨#[91]⟩ = true) (hx : Mt κ ts P (k + 1) 53 (.ok j t)) (q1 : sgOf (tAt ts j) ⟨#[93]⟩ = true) :
    Calls Tryz.prog 240 #[.pointer (some ⟨P, 0, none⟩), vn] w (OcU κ ts P S 2 (j + 1) (.mk 8 ⟨#[]⟩ ⟨#[]⟩ 0 [.mk 12 ⟨#[64]⟩ ⟨#[]⟩ 0 [N], t]) w) := by
  have HPE : Hid (P < w.heap.size) := h.lt
  have HL0 := h.all
  have HL : Hid (PcLt κ P (w.heap.size + 1)) := ⟨by have := HL0.p; omega, by have := HL0.g; omega, fun n hn => by have := HL0.m n hn; omega⟩
  have HSP2 : Hid (∀ g, Ow S w.heap.size (w.heap.size + 1) g → g ≠ P) := fun g hg => by
    have := HL0.p
    rcases hg with hg | hg
    · exact hSP g hg.1
    · omega
  have HNt : NdAt (Ow S w.heap.size (w.heap.size + 1)) w N vn := hN.move fun g h1 h2 => ⟨rfl, Or.inl ⟨h1, h2⟩⟩
  have HEL : Hid (∀ (A H : Nd) (va vh : Value) (W : World), PsAt κ ts P k W → NdAt (Ow S w.heap.size (w.heap.size + 1)) W A va → NdAt (Ow S w.heap.size (w.heap.size + 1)) W H vh → Calls Tryz.prog 241 #[.pointer (some ⟨P, 0, none⟩), va, vh] W (OcS κ ts P (Ow S w.heap.size (w.heap.size + 1)) (j + 1) (.mk 8 ⟨#[]⟩ ⟨#[]⟩ 0 [A, t]) W)) := fun A H va vh W h1 h2 h3 => element_br κ ts P k j _ A H t va vh W h1 h2 h3 HSP2.out hk hj q0 hx q1
  clear hN hSP hx q1
  cases HNt with
  | @mk o1 s1 t1 n1 l1 L1 hN =>
    obtain ⟨b1, c1, d1, rfl⟩ := hN.val
    have hb0 : Below w.heap.size w ((w.alloc (.cells #[.int .i64 o1, .string s1, .string t1, .int .i64 n1, .slice b1 c1 d1] 28)).alloc zN) := ((Below.refl _ _).alloc (Nat.le_refl _) _).alloc (by simp) _
    have HS := Lib.hid (h.later hb0)
    have HB : Hid (But P w _) := But.of hb0
    have HA := Lib.hid ((NkAt.new w (.int .i64 o1) (.string s1) (.string t1) (.int .i64 n1) (.slice b1 c1 d1)).below ((Below.refl _ _).alloc (Nat.le_refl _) zN))
    have HT : Hid (NkAt (w.heap.size + 1) (.int .i64 0) (.string ⟨#[]⟩) (.string ⟨#[]⟩) (.int .i64 0) (.slice none 0 0) ((w.alloc (.cells #[.int .i64 o1, .string s1, .string t1, .int .i64 n1, .slice b1 c1 d1] 28)).alloc zN)) := by
      have := NkAt.zero (w.alloc (.cells #[.int .i64 o1, .string s1, .string t1, .int .i64 n1, .slice b1 c1 d1] 28))
      rwa [show (w.alloc (.cells #[.int .i64 o1, .string s1, .string t1, .int .i64 n1, .slice b1 c1 d1] 28)).heap.size = w.heap.size + 1 by simp] at this
    have HN : Hid (NdAt (Ow S w.heap.size (w.heap.size + 1)) ((w.alloc (.cells #[.int .i64 o1, .string s1, .string t1, .int .i64 n1, .slice b1 c1 d1] 28)).alloc zN) (.mk o1 s1 t1 n1 l1) (.agg #[.int .i64 o1, .string s1, .string t1, .int .i64 n1, .slice b1 c1 d1])) := .mk (hN.move fun g h1 h2 => ⟨hb0.block g h2, h1⟩)
    clear h hb0 HL0 hN
    unfold zN at HS HB HA HT HN
    go_enter Tryz.func240, Tryz.ntmps240
    go_wp2_with fail
    generalize (w.alloc _).alloc _ = W0 at *
    generalize hTT : w.heap.size + 1 = T at *
    have HTE : Hid (w.heap.size + 1 = T) := hTT
    clear hTT
    refine (sign_any κ ts P k _ HS.out (by omega) _).mono ?_
    rintro e1 W1 ⟨rfl, hb1⟩
    have hb2 : Below W0.heap.size W0 W1.drew := hb1.trans ((Below.refl _ _).drew)
    have HS1 := Lib.hid (HS.out.later hb2)
    have HB1 : Hid (But P w W1.drew) := HB.out.trans (But.of hb2)
    have HA1 := Lib.hid (HA.out.below hb2)
    have HT1 := Lib.hid (HT.out.below hb2)
    have HN1 := Lib.hid (HN.out.move (S' := Ow S w.heap.size T) fun g h1 h2 => ⟨hb2.block g h2, h1⟩)
    have HAx := Lib.hid (HA.out.below hb1)
    rw [q0]
    clear hb1 hb2 HS HB HA HT HN
    obtain ⟨a0, a1, a2, a3, a4⟩ := HAx.out.cells
    go_wp2
    go_region_with (first
      | (go_at_call 242; first
          | (refine (deref_any (Ow S w.heap.size T) ⟨#[64]⟩ _ _ _ HN1.out).mono ?_; rintro e9 wd ⟨va, rfl, hb9, hna⟩
             have HVA := Lib.hid (hna.move (S' := Ow S w.heap.size T) fun g h1 h2 => ⟨rfl, Ow.new HT1.out.lt g h1⟩)
             try replace HVH := Lib.hid (HVH.out.move (S' := Ow S w.heap.size T) fun g h1 h2 => ⟨hb9.block g h2, h1⟩))
          | (refine (deref_any (Ow S w.heap.size T) ⟨#[37]⟩ _ _ _ HN1.out).mono ?_; rintro e9 wd ⟨vh, rfl, hb9, hna⟩
             have HVH := Lib.hid (hna.move (S' := Ow S w.heap.size T) fun g h1 h2 => ⟨rfl, Ow.new HT1.out.lt g h1⟩)
             try replace HVA := Lib.hid (HVA.out.move (S' := Ow S w.heap.size T) fun g h1 h2 => ⟨hb9.block g h2, h1⟩))
         replace HS1 := Lib.hid (HS1.out.later hb9)
         replace HB1 := Lib.hid (HB1.out.trans (But.of hb9))
         replace HA1 := Lib.hid (HA1.out.below hb9)
         replace HT1 := Lib.hid (HT1.out.below hb9)
         replace HN1 := Lib.hid (HN1.out.move (S' := Ow S w.heap.size T) fun g h1 h2 => ⟨hb9.block g h2, h1⟩)
         obtain ⟨a0, a1, a2, a3, a4⟩ := HA1.out.cells
         clear hb9 hna)
      | (go_at_call 241; refine (HEL.out _ _ _ _ _ HS1.out HVA.out HVH.out).mono ?_; rintro e9 wd ⟨v, rfl, hnv, hs9, hb9⟩
         obtain ⟨lz, lnz, lcz, rfl⟩ := nd_val hnv
         have HV := Lib.hid (hnv.move (S' := Ow S w.heap.size T) fun g h1 h2 => ⟨rfl, Ow.new HT1.out.lt g h1⟩)
         have HSZ := Lib.hid hs9
         replace HB1 := Lib.hid (HB1.out.trans hb9)
         replace HT1 := Lib.hid (HT1.out.but hb9 HL.out.p)
         obtain ⟨u0, u1, u2, u3, u4⟩ := HT1.out.cells
         have z0 := HT1.out.frozen 0
         have z1 := HT1.out.frozen 1
         have z2 := HT1.out.frozen 2
         have z3 := HT1.out.frozen 3
         have z4 := HT1.out.frozen 4
         clear hb9 hnv hs9 HS1 HVA HVH HN1 HA1 HAx))
    all_goals (
      have HR := HT1.out.put (.int .i64 8) (.string ⟨#[]⟩) (.string ⟨#[]⟩) (.int .i64 0) (.slice lz lnz lcz)
      obtain ⟨r0, r1, r2, r3, r4⟩ := HR.cells
      go_wp2
      change bodyPost _ _ _ _ _ (ndW wd T (.int .i64 8) (.string ⟨#[]⟩) (.string ⟨#[]⟩) (.int .i64 0) (.slice lz lnz lcz))
      refine bodyPost_ret (v := .tuple #[.agg #[.int .i64 8, .string ⟨#[]⟩, .string ⟨#[]⟩, .int .i64 0, .slice lz lnz lcz], .int .i64 2]) ?_ rfl (OcU.of (fn_retS (by have := HTE.out; omega) HL.out HSZ.out HB1.out HV.out (fun g h => ?_)))
      · generalize ndW wd T (.int .i64 8) (.string ⟨#[]⟩) (.string ⟨#[]⟩) (.int .i64 0) (.slice lz lnz lcz) = WZ at *
        simp [results, Tryz.results240, go_sem, r0, r1, r2, r3, r4]
      · have hE := HTE.out
        rcases h with h | h
        · exact ⟨by omega, Or.inl h.1⟩
        · exact ⟨by omega, Or.inr (by omega)⟩)

end Go.Proofs.YtaocbhfehncdcaaGreatDoor
