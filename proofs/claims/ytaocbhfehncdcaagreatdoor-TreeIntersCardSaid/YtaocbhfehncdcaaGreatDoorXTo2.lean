/-
  The parser's post where an arrow and two brackets go on. Conditions: none beside those stated.
-/
import Derived.Test.YtaocbhfehncdcaaGreatDoorXTa
namespace Go.Proofs.YtaocbhfehncdcaaGreatDoor
open Go.RowKit

def atP (P : Nat) (w : World) : Nat := match w.cell? ⟨P, 1, none⟩ with | some (.int _ n) => n.toNat | _ => 0
theorem PsAt.pos {κ : Pc} {ts : List Tt} {P k : Nat} {w : World} (h : PsAt κ ts P k w) : atP P w = k := by
  unfold atP
  rw [h.cells.2.1]
  rfl
/-- Rows behind block T, other than block X. -/
def Rx (T X : Nat) : Nat → Prop := fun g => T < g ∧ g ≠ X
theorem Rx.new {T X H : Nat} (hX : X < H) (hT : T < H) : ∀ g, New (Rx T X) H g → Rx T X g := fun g hg => by
  rcases hg with hg | hg
  · exact hg
  · exact ⟨by omega, by omega⟩
/-- How the loop of post stands. -/
structure PoS (κ : Pc) (ts : List Tt) (P T X k : Nat) (N : Nd) (w wr : World) : Prop where
  ps : PsAt κ ts P k wr
  but : But P w wr
  res : NkAt T (.int .i64 0) (.string ⟨#[]⟩) (.string ⟨#[]⟩) (.int .i64 0) (.slice none 0 0) wr
  nod : ∃ op s u n la ln lc, NkAt X (.int .i64 op) (.string s) (.string u) (.int .i64 n) (.slice la ln lc) wr ∧ NdAt (Rx T X) wr N (.agg #[.int .i64 op, .string s, .string u, .int .i64 n, .slice la ln lc])

theorem PoS.put {κ : Pc} {ts : List Tt} {P T X k : Nat} {w W : World} {op n : Int} {s u : ByteArray} {l : List Nd} {la : Option Addr} {ln lc : Nat} {v0 v1 v2 v3 v4 : Value} (hL : PcLt κ P T) (hTX : T < X) (hw : w.heap.size ≤ T) (hps : PsAt κ ts P k W) (hb : But P w W) (ht : NkAt T (.int .i64 0) (.string ⟨#[]⟩) (.string ⟨#[]⟩) (.int .i64 0) (.slice none 0 0) W) (hx : NkAt X v0 v1 v2 v3 v4 W) (hn : NdAt (Rx T X) W (.mk op s u n l) (.agg #[.int .i64 op, .string s, .string u, .int .i64 n, .slice la ln lc])) :
    PoS κ ts P T X k (.mk op s u n l) w (ndW W X (.int .i64 op) (.string s) (.string u) (.int .i64 n) (.slice la ln lc)) := by
  have hbl := ndW_below W X (.int .i64 op) (.string s) (.string u) (.int .i64 n) (.slice la ln lc)
  refine ⟨hps.part hL (fun g hg => hbl.block g (by omega)) (by rw [ndW_size]; exact Nat.le_refl _), ?_, (hbl.block T hTX).trans ht, op, s, u, n, la, ln, lc, hx.put _ _ _ _ _, hn.move fun g h1 h2 => ⟨ndW_block _ _ _ _ _ _ _ _ h1.2, h1⟩⟩
  exact ⟨hbl.os.trans hb.os, hbl.tape.trans hb.tape, hbl.output.trans hb.output, by rw [ndW_size]; exact hb.size, fun g hg hP => (hbl.block g (by omega)).trans (hb.block g hg hP)⟩
set_option maxRecDepth 100000 in
set_option maxHeartbeats 16000000 in
theorem post_chain (κ : Pc) (ts : List Tt) (P k a b d : Nat) (N t1 t2 : Nd) (hk : k + 1 ≤ 900) (ha : a ≤ 900) (hd : d ≤ 900) (hkb : k < b + 1) (hbd : b + 1 < d + 1) (hb9 : b ≤ 900)
    (hm : MtT κ ts P a 239 0 (.ok k N))
    (q0 : sgOf (tAt ts k) ⟨#[45, 62]⟩ = true) (q1 : sgOf (tAt ts (k + 1)) ⟨#[91]⟩ = true) (hx1 : Mt κ ts P (k + 1 + 1) 53 (.ok b t1)) (q2 : sgOf (tAt ts b) ⟨#[93]⟩ = true)
    (q3 : sgOf (tAt ts (b + 1)) ⟨#[45, 62]⟩ = false) (q4 : sgOf (tAt ts (b + 1)) ⟨#[91]⟩ = true) (hx2 : Mt κ ts P (b + 1 + 1) 53 (.ok d t2)) (q5 : sgOf (tAt ts d) ⟨#[93]⟩ = true)
    (q6 : sgOf (tAt ts (d + 1)) ⟨#[45, 62]⟩ = false) (q7 : sgOf (tAt ts (d + 1)) ⟨#[91]⟩ = false) (q8 : opOf (tAt ts (d + 1)) 2 = false) (q9 : sgOf (tAt ts (d + 1)) ⟨#[40]⟩ = false) :
    Mt κ ts P a 236 (.ok (d + 1) (.mk 8 ⟨#[]⟩ ⟨#[]⟩ 0 [.mk 12 ⟨#[64]⟩ ⟨#[]⟩ 0 [.mk 8 ⟨#[]⟩ ⟨#[]⟩ 0 [.mk 12 ⟨#[64]⟩ ⟨#[]⟩ 0 [N], t1]], t2])) := by
  intro w h
  have HL := Lib.hid h.all
  have HS0 : Hid (PsAt κ ts P a (w.alloc zN)) := h.later ((Below.refl _ _).alloc (Nat.le_refl _) _)
  have HB0 : Hid (But P w (w.alloc zN)) := But.alloc P w _
  have HT0 := Lib.hid (NkAt.zero w)
  unfold zN at HS0 HB0 HT0
  have HM := Lib.hid hm
  have HAR : Hid (∀ (T X : Nat) (op : Int) (s u : ByteArray) (n : Int) (la : Option Addr) (ln lc : Nat) (W : World), P < T → PsAt κ ts P (k + 1) W → NdAt (Rx T X) W N (.agg #[.int .i64 op, .string s, .string u, .int .i64 n, .slice la ln lc]) → Calls Tryz.prog 240 #[.pointer (some ⟨P, 0, none⟩), .agg #[.int .i64 op, .string s, .string u, .int .i64 n, .slice la ln lc]] W (OcU κ ts P (Rx T X) 2 (b + 1) (.mk 8 ⟨#[]⟩ ⟨#[]⟩ 0 [.mk 12 ⟨#[64]⟩ ⟨#[]⟩ 0 [N], t1]) W)) := fun T X op s u n la ln lc W hT h1 h2 => arrow_br κ ts P (k + 1) b (Rx T X) N t1 _ W h1 h2 (fun g hg => by have := hg.1; omega) hk hb9 q1 hx1 q2
  have HEL : Hid (∀ (T X : Nat) (A H : Nd) (va vh : Value) (W : World), P < T → PsAt κ ts P (b + 1) W → NdAt (Rx T X) W A va → NdAt (Rx T X) W H vh → Calls Tryz.prog 241 #[.pointer (some ⟨P, 0, none⟩), va, vh] W (OcS κ ts P (Rx T X) (d + 1) (.mk 8 ⟨#[]⟩ ⟨#[]⟩ 0 [A, t2]) W)) := fun T X A H va vh W hT h1 h2 h3 => element_br κ ts P (b + 1) d (Rx T X) A H t2 va vh W h1 h2 h3 (fun g hg => by have := hg.1; omega) (by omega) hd q4 hx2 q5
  clear hm h hx1 hx2
  go_enter Tryz.func236, Tryz.ntmps236
  go_wp2_with fail
  generalize w.alloc _ = W0 at *
  generalize hTT : w.heap.size = T at *
  have HTT : Hid (w.heap.size ≤ T) := Nat.le_of_eq hTT
  clear hTT
  refine (HM.out _ HS0.out).mono ?_
  rintro e1 W1 ⟨v, rfl, hn, hs1, hb1⟩
  have HN1 : NdAt (fun g => T < g) W1 N v := hn.move fun g h1 h2 => ⟨rfl, Nat.lt_of_lt_of_le HT0.out.lt h1⟩
  have HT1 := Lib.hid (HT0.out.but hb1 HL.out.p)
  have HB1 : Hid (But P w W1) := HB0.out.trans hb1
  have HS1 := Lib.hid hs1
  clear hn hs1 hb1 HS0 HB0 HT0 HM
  cases hN : HN1 with
  | @mk op s u n l L hn =>
    obtain ⟨la, ln, lc, rfl⟩ := hn.val
    have HGX : Hid (T < W1.heap.size) := HT1.out.lt
    have hb2 : Below W1.heap.size W1 (W1.alloc (.cells #[.int .i64 op, .string s, .string u, .int .i64 n, .slice la ln lc] 28)) := (Below.refl _ _).alloc (Nat.le_refl _) _
    have HPO : Hid (PoS κ ts P T W1.heap.size k (.mk op s u n l) w (W1.alloc (.cells #[.int .i64 op, .string s, .string u, .int .i64 n, .slice la ln lc] 28))) := ⟨HS1.out.later hb2, HB1.out.trans (But.of hb2), HT1.out.below hb2, op, s, u, n, la, ln, lc, NkAt.new W1 _ _ _ _ _, .mk (hn.move fun g h1 h2 => ⟨hb2.block g h2, h1, by omega⟩)⟩
    clear hb2 HS1 HB1 HT1 hN HN1 hn
    go_wp2_with fail
    generalize W1.alloc _ = W2 at *
    generalize W1.heap.size = X at *
    go_loopw [4, 11] (fun z _ wr => (z = .int .i64 0 ∧ Hid (PoS κ ts P T X k (.mk op s u n l) w wr)) ∨ (z = .int .i64 2 ∧ Hid (PoS κ ts P T X (b + 1) (.mk 8 ⟨#[]⟩ ⟨#[]⟩ 0 [.mk 12 ⟨#[64]⟩ ⟨#[]⟩ 0 [.mk op s u n l], t1]) w wr)) ∨ (z = .int .i64 2 ∧ Hid (PoS κ ts P T X (d + 1) (.mk 8 ⟨#[]⟩ ⟨#[]⟩ 0 [.mk 12 ⟨#[64]⟩ ⟨#[]⟩ 0 [.mk 8 ⟨#[]⟩ ⟨#[]⟩ 0 [.mk 12 ⟨#[64]⟩ ⟨#[]⟩ 0 [.mk op s u n l], t1]], t2]) w wr))) (fun _ _ wr => d + 1 - atP P wr)
    case atStart => exact .inl ⟨rfl, HPO⟩
    case round =>
      clear HPO
      rcases hrel with ⟨rfl, hp⟩ | ⟨rfl, hp⟩ | ⟨rfl, hp⟩
      · have HAT : Hid (atP P wr = k) := hp.out.ps.pos
        obtain ⟨hs, hb, ht, op, s, u, n, la, ln, lc, hx, hn⟩ := hp.out
        have HS := Lib.hid hs
        have HB := Lib.hid hb
        have HT := Lib.hid ht
        have HX := Lib.hid hx
        have HN := Lib.hid hn
        clear hs hb ht hx hn hp
        go_wp2_with fail
        refine (sign_any κ ts P k _ HS.out (by omega) _).mono ?_
        rintro e1 W3 ⟨rfl, hb3⟩
        rw [q0]
        have hs3 := HS.out.later hb3
        have x2 : IntKind.i64.wrap ((k : Int) + 1) = (k : Int) + 1 := IntWalk.i64_in _ (by omega)
        have hb4 : But P wr (W3.setCell ⟨P, 1, none⟩ (.int .i64 ((k : Int) + 1))) := (But.of hb3).set 1 _
        have HS4 : Hid (PsAt κ ts P (k + 1) (W3.setCell ⟨P, 1, none⟩ (.int .i64 ((k : Int) + 1)))) := hs3.step (k + 1)
        have HB4 := Lib.hid (HB.out.trans hb4)
        have HT4 := Lib.hid (HT.out.but hb4 HL.out.p)
        have HX4 := Lib.hid (HX.out.but hb4 (by have := HL.out.p; have := HGX.out; omega))
        have HN4 := Lib.hid (HN.out.move (S' := Rx T X) fun g h1 h2 => ⟨hb4.block g h2 (by have := HL.out.p; have := h1.1; omega), h1⟩)
        obtain ⟨c0, c1, cz⟩ := hs3.cells
        obtain ⟨x0, x1, x3, x4, x5⟩ := HX4.out.cells
        clear hb3 hb4 hs3 HS HB HT HX HN
        go_wp2_with fail
        clear c0 c1 cz x0 x1 x2 x3 x4 x5
        generalize W3.setCell _ _ = W4 at *
        refine (HAR.out T X op s u n la ln lc _ HL.out.p HS4.out HN4.out).mono ?_
        rintro e1 W5 ⟨v, rfl, hn, hs5, hb5⟩
        obtain ⟨lz, lnz, lcz, rfl⟩ := nd_val hn
        have HGT : Hid (X < W4.heap.size) := HX4.out.lt
        have HN5 := Lib.hid (hn.move (S' := Rx T X) fun g h1 h2 => ⟨rfl, Rx.new HGT.out (by have := HGX.out; have := HGT.out; omega) g h1⟩)
        have HS5 := Lib.hid hs5
        have HB5 := Lib.hid (HB4.out.trans hb5)
        have HT5 := Lib.hid (HT4.out.but hb5 HL.out.p)
        have HX5 := Lib.hid (HX4.out.but hb5 (by have := HL.out.p; have := HGX.out; omega))
        clear hn hs5 hb5 HS4 HB4 HT4 HX4 HN4
        obtain ⟨x0, x1, x2, x3, x4⟩ := HX5.out.cells
        have z0 := HX5.out.frozen 0
        have z1 := HX5.out.frozen 1
        have z2 := HX5.out.frozen 2
        have z3 := HX5.out.frozen 3
        have z4 := HX5.out.frozen 4
        go_wp2
        have HPN := Lib.hid (PoS.put HL.out HGX.out HTT.out HS5.out HB5.out HT5.out HX5.out HN5.out)
        have HMS := Lib.hid HPN.out.ps.pos
        clear x0 x1 x2 x3 x4 z0 z1 z2 z3 z4
        unfold ndW at HPN HMS
        go_roundw
        case rel => exact .inr (.inl ⟨rfl, HPN⟩)
        case measure =>
          have h1 := HAT.out
          have h2 := HMS.out
          omega
      · have HAT : Hid (atP P wr = b + 1) := hp.out.ps.pos
        obtain ⟨hs, hb, ht, op, s, u, n, la, ln, lc, hx, hn⟩ := hp.out
        have HS := Lib.hid hs
        have HB := Lib.hid hb
        have HT := Lib.hid ht
        have HX := Lib.hid hx
        have HN := Lib.hid hn
        clear hs hb ht hx hn hp
        go_wp2_with fail
        refine (sign_any κ ts P (b + 1) _ HS.out (by omega) _).mono ?_
        rintro e1 W3 ⟨rfl, hb3⟩
        rw [q3]
        replace HS := Lib.hid (HS.out.later hb3)
        replace HB := Lib.hid (HB.out.trans (But.of hb3))
        replace HT := Lib.hid (HT.out.below hb3)
        replace HX := Lib.hid (HX.out.below hb3)
        replace HN := Lib.hid (HN.out.move (S' := Rx T X) fun g h1 h2 => ⟨hb3.block g h2, h1⟩)
        clear hb3
        go_wp2_with fail
        refine (sign_any κ ts P (b + 1) _ HS.out (by omega) _).mono ?_
        rintro e1 W4 ⟨rfl, hb3⟩
        rw [q4]
        have hb4 : Below W3.heap.size W3 W4.drew := hb3.trans ((Below.refl _ _).drew)
        have HS1 := Lib.hid (HS.out.later hb4)
        have HB1 : Hid (But P w W4.drew) := HB.out.trans (But.of hb4)
        have HX1 := Lib.hid (HX.out.below hb4)
        have HT1 := Lib.hid (HT.out.below hb4)
        have HN1 := Lib.hid (HN.out.move (S' := Rx T X) fun g h1 h2 => ⟨hb4.block g h2, h1⟩)
        have HXx := Lib.hid (HX.out.below hb3)
        clear hb3 hb4 HS HB HX HT HN
        obtain ⟨a0, a1, a2, a3, a4⟩ := HXx.out.cells
        go_wp2
        go_region_with (first
          | (go_at_call 242; first
              | (refine (deref_any (Rx T X) ⟨#[64]⟩ _ _ _ HN1.out).mono ?_; rintro e9 wd ⟨va, rfl, hb9, hna⟩
                 have HVA := Lib.hid (hna.move (S' := Rx T X) fun g h1 h2 => ⟨rfl, Rx.new HX1.out.lt HT1.out.lt g h1⟩)
                 try replace HVH := Lib.hid (HVH.out.move (S' := Rx T X) fun g h1 h2 => ⟨hb9.block g h2, h1⟩))
              | (refine (deref_any (Rx T X) ⟨#[37]⟩ _ _ _ HN1.out).mono ?_; rintro e9 wd ⟨vh, rfl, hb9, hna⟩
                 have HVH := Lib.hid (hna.move (S' := Rx T X) fun g h1 h2 => ⟨rfl, Rx.new HX1.out.lt HT1.out.lt g h1⟩)
                 try replace HVA := Lib.hid (HVA.out.move (S' := Rx T X) fun g h1 h2 => ⟨hb9.block g h2, h1⟩))
             replace HS1 := Lib.hid (HS1.out.later hb9)
             replace HB1 := Lib.hid (HB1.out.trans (But.of hb9))
             replace HX1 := Lib.hid (HX1.out.below hb9)
             replace HT1 := Lib.hid (HT1.out.below hb9)
             replace HN1 := Lib.hid (HN1.out.move (S' := Rx T X) fun g h1 h2 => ⟨hb9.block g h2, h1⟩)
             obtain ⟨a0, a1, a2, a3, a4⟩ := HX1.out.cells
             clear hb9 hna)
          | (go_at_call 241; refine (HEL.out T X _ _ _ _ _ HL.out.p HS1.out HVA.out HVH.out).mono ?_; rintro e9 W5 ⟨v, rfl, hnv, hs9, hb9⟩
             obtain ⟨lz, lnz, lcz, rfl⟩ := nd_val hnv
             have HN5 := Lib.hid (hnv.move (S' := Rx T X) fun g h1 h2 => ⟨rfl, Rx.new HX1.out.lt HT1.out.lt g h1⟩)
             have HS5 := Lib.hid hs9
             have HB5 := Lib.hid (HB1.out.trans hb9)
             have HT5 := Lib.hid (HT1.out.but hb9 HL.out.p)
             have HX5 := Lib.hid (HX1.out.but hb9 (by have := HL.out.p; have := HGX.out; omega))
             obtain ⟨x0, x1, x2, x3, x4⟩ := HX5.out.cells
             have z0 := HX5.out.frozen 0
             have z1 := HX5.out.frozen 1
             have z2 := HX5.out.frozen 2
             have z3 := HX5.out.frozen 3
             have z4 := HX5.out.frozen 4
             clear hb9 hnv hs9 HS1 HVA HVH HN1 HX1 HXx HB1 HT1))
        all_goals (
          have HPN := Lib.hid (PoS.put HL.out HGX.out HTT.out HS5.out HB5.out HT5.out HX5.out HN5.out)
          have HMS := Lib.hid HPN.out.ps.pos
          clear x0 x1 x2 x3 x4 z0 z1 z2 z3 z4
          unfold ndW at HPN HMS
          go_wp2
          go_roundw
          case rel => exact .inr (.inr ⟨rfl, HPN⟩)
          case measure =>
            have h1 := HAT.out
            have h2 := HMS.out
            omega)
      · obtain ⟨hs, hb, ht, op, s, u, n, la, ln, lc, hx, hn⟩ := hp.out
        cases hn with
        | mk hn =>
          have HS := Lib.hid hs
          have HB := Lib.hid hb
          have HT := Lib.hid ht
          have HX := Lib.hid hx
          have HN : Hid (NdAt (Rx T X) wr _ (.agg #[.int .i64 8, .string ⟨#[]⟩, .string ⟨#[]⟩, .int .i64 0, .slice la ln lc])) := NdAt.mk hn
          clear hs hb ht hx hn hp
          go_wp2_with fail
          refine (sign_any κ ts P (d + 1) _ HS.out (by omega) _).mono ?_
          rintro e1 W3 ⟨rfl, hb3⟩
          rw [q6]
          replace HS := Lib.hid (HS.out.later hb3)
          replace HB := Lib.hid (HB.out.trans (But.of hb3))
          replace HT := Lib.hid (HT.out.below hb3)
          replace HX := Lib.hid (HX.out.below hb3)
          replace HN := Lib.hid (HN.out.move (S' := Rx T X) fun g h1 h2 => ⟨hb3.block g h2, h1⟩)
          clear hb3
          go_wp2_with fail
          refine (sign_any κ ts P (d + 1) _ HS.out (by omega) _).mono ?_
          rintro e1 W4 ⟨rfl, hb3⟩
          rw [q7]
          replace HS := Lib.hid (HS.out.later hb3)
          replace HB := Lib.hid (HB.out.trans (But.of hb3))
          replace HT := Lib.hid (HT.out.below hb3)
          replace HX := Lib.hid (HX.out.below hb3)
          replace HN := Lib.hid (HN.out.move (S' := Rx T X) fun g h1 h2 => ⟨hb3.block g h2, h1⟩)
          clear hb3
          go_wp2_with fail
          refine (opens_any κ ts P (d + 1) _ HS.out (by omega) _).mono ?_
          rintro e1 W5 ⟨rfl, hb3⟩
          rw [q8]
          replace HS := Lib.hid (HS.out.later hb3)
          replace HB := Lib.hid (HB.out.trans (But.of hb3))
          replace HT := Lib.hid (HT.out.below hb3)
          replace HX := Lib.hid (HX.out.below hb3)
          replace HN := Lib.hid (HN.out.move (S' := Rx T X) fun g h1 h2 => ⟨hb3.block g h2, h1⟩)
          clear hb3
          go_wp2_with fail
          refine (sign_any κ ts P (d + 1) _ HS.out (by omega) _).mono ?_
          rintro e1 W6 ⟨rfl, hb3⟩
          rw [q9]
          replace HS := Lib.hid (HS.out.later hb3)
          replace HB := Lib.hid (HB.out.trans (But.of hb3))
          replace HT := Lib.hid (HT.out.below hb3)
          replace HX := Lib.hid (HX.out.below hb3)
          replace HN := Lib.hid (HN.out.move (S' := Rx T X) fun g h1 h2 => ⟨hb3.block g h2, h1⟩)
          clear hb3
          obtain ⟨x0, x1, x2, x3, x4⟩ := HX.out.cells
          obtain ⟨u0, u1, u2, u3, u4⟩ := HT.out.cells
          have z0 := HT.out.frozen 0
          have z1 := HT.out.frozen 1
          have z2 := HT.out.frozen 2
          have z3 := HT.out.frozen 3
          have z4 := HT.out.frozen 4
          go_wp2
          have HR := HT.out.put (.int .i64 8) (.string ⟨#[]⟩) (.string ⟨#[]⟩) (.int .i64 0) (.slice la ln lc)
          obtain ⟨r0, r1, r2, r3, r4⟩ := HR.cells
          change bodyPost _ _ _ _ _ (ndW W6 T (.int .i64 8) (.string ⟨#[]⟩) (.string ⟨#[]⟩) (.int .i64 0) (.slice la ln lc))
          refine bodyPost_ret (v := .agg #[.int .i64 8, .string ⟨#[]⟩, .string ⟨#[]⟩, .int .i64 0, .slice la ln lc]) ?_ rfl (fn_ret HTT.out HL.out HS.out HB.out HN.out (fun g h => h.1))
          generalize ndW W6 T (.int .i64 8) (.string ⟨#[]⟩) (.string ⟨#[]⟩) (.int .i64 0) (.slice la ln lc) = WZ at *
          simp [results, Tryz.results236, go_sem, r0, r1, r2, r3, r4]

end Go.Proofs.YtaocbhfehncdcaaGreatDoor
