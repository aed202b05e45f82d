/-
  From a term to an expression: the methods between, where nothing goes on. Conditions: none beside those stated. The law's third text, `f(1;`: its list, its call, its expression give up at the last token. Conditions: none beside those stated. A call of a function, by its contract, as one step of a region that draws. Conditions: none.
-/
import Derived.Test.YtaocbhfehncdcaaGreatDoorXTo2
import Derived.Deep.RegionLaw
namespace Go.Proofs.YtaocbhfehncdcaaGreatDoor
open Go.RowKit

/-- A token behind which no operand goes on. -/
structure Qc (t : Tt) : Prop where
  a : sgOf t ⟨#[43, 43]⟩ = false
  b : sgOf t ⟨#[45, 45]⟩ = false
  c : sgOf t ⟨#[33, 126]⟩ = false
  d : sgOf t ⟨#[61, 126]⟩ = false
  e : sgOf t ⟨#[63]⟩ = false
  l0 : findS t.x (lvM 0) = none
  l1 : findS t.x (lvM 1) = none
  l2 : findS t.x (lvM 2) = none
  l3 : findS t.x (lvM 3) = none
  l4 : findS t.x (lvM 4) = none
  l5 : findS t.x (lvM 5) = none
  l6 : findS t.x (lvM 6) = none
  l7 : findS t.x (lvM 7) = none
structure Qa (t : Tt) : Prop extends Qc t where
  p : PlainT t
structure Qe (t : Tt) : Prop extends Qa t where
  w1 : wdOf t ⟨#[97, 110, 100]⟩ = false
  w2 : wdOf t ⟨#[111, 114]⟩ = false
theorem Oc.at_mono {o : Oc} {f g : Nat → Prop} (h : o.at f) (hi : ∀ j, f j → g j) : o.at g := by
  cases o with
  | ok j t => exact hi j h
  | bad m => trivial
theorem chain_cond {κ : Pc} {ts : List Tt} {P k : Nat} {o : Oc} (hm : Mt κ ts P k 236 o) (hk : k ≤ 900) (h3 : ((tAt ts k).k != 3) = true) (hq : o.at fun j => j ≤ 900 ∧ Qc (tAt ts j)) : Mt κ ts P k 155 o := by
  have p := postfix_any κ ts P k o hm (Oc.at_mono hq fun j h => ⟨by omega, h.2.a, h.2.b⟩)
  have u := unary_any κ ts P k o p (by omega) h3
  have b := bind_any κ ts P k o u (Oc.at_mono hq fun j h => ⟨by omega, h.2.c, h.2.d⟩)
  have l8 := level8_any κ ts P k o b
  have l7 := level7_any κ ts P k o l8 (Oc.at_mono hq fun j h => ⟨by omega, h.2.l7⟩)
  have l6 := level6_any κ ts P k o l7 (Oc.at_mono hq fun j h => ⟨by omega, h.2.l6⟩)
  have l5 := level5_any κ ts P k o l6 (Oc.at_mono hq fun j h => ⟨by omega, h.2.l5⟩)
  have l4 := level4_any κ ts P k o l5 (Oc.at_mono hq fun j h => ⟨by omega, h.2.l4⟩)
  have l3 := level3_any κ ts P k o l4 (Oc.at_mono hq fun j h => ⟨by omega, h.2.l3⟩)
  have l2 := level2_any κ ts P k o l3 (Oc.at_mono hq fun j h => ⟨by omega, h.2.l2⟩)
  have l1 := level1_any κ ts P k o l2 (Oc.at_mono hq fun j h => ⟨by omega, h.2.l1⟩)
  have l0 := level0_any κ ts P k o l1 (Oc.at_mono hq fun j h => ⟨by omega, h.2.l0⟩)
  exact cond_any κ ts P k o l0 (Oc.at_mono hq fun j h => ⟨by omega, h.2.e⟩)
theorem chain_assign {κ : Pc} {ts : List Tt} {P k : Nat} {o : Oc} (hm : Mt κ ts P k 236 o) (hk : k ≤ 900) (h3 : ((tAt ts k).k != 3) = true) (hq : o.at fun j => j ≤ 900 ∧ Qa (tAt ts j)) : Mt κ ts P k 135 o :=
  assign_any κ ts P k o (chain_cond hm hk h3 (Oc.at_mono hq fun j h => ⟨h.1, h.2.toQc⟩)) (Oc.at_mono hq fun j h => ⟨by omega, h.2.p⟩)
/-- From an assignment on. -/
theorem chain_up {κ : Pc} {ts : List Tt} {P k : Nat} {o : Oc} (hm : Mt κ ts P k 135 o) (hk : k ≤ 900) (hw : wdOf (tAt ts k) ⟨#[110, 111, 116]⟩ = false) (hq : o.at fun j => j ≤ 900 ∧ wdOf (tAt ts j) ⟨#[97, 110, 100]⟩ = false ∧ wdOf (tAt ts j) ⟨#[111, 114]⟩ = false) : Mt κ ts P k 53 o :=
  expr_any κ ts P k o (low_any κ ts P k o (negated_any κ ts P k o hm (by omega) hw) (Oc.at_mono hq fun j h => ⟨by omega, h.2.1⟩)) (Oc.at_mono hq fun j h => ⟨by omega, h.2.2⟩)
theorem chain_expr {κ : Pc} {ts : List Tt} {P k : Nat} {o : Oc} (hm : Mt κ ts P k 236 o) (hk : k ≤ 900) (h3 : ((tAt ts k).k != 3) = true) (hw : wdOf (tAt ts k) ⟨#[110, 111, 116]⟩ = false) (hq : o.at fun j => j ≤ 900 ∧ Qe (tAt ts j)) : Mt κ ts P k 53 o :=
  chain_up (chain_assign hm hk h3 (Oc.at_mono hq fun j h => ⟨h.1, h.2.toQa⟩)) hk hw (Oc.at_mono hq fun j h => ⟨h.1, h.2.w1, h.2.w2⟩)

theorem sgOf_eq (t : Tt) (s : ByteArray) : sgOf t s = ((t.k == 3) && (t.x.data.toList == s.data.toList)) := by
  unfold sgOf
  rw [Lib.toList_data, Lib.toList_data]
theorem wdOf_eq (t : Tt) (s : ByteArray) : wdOf t s = ((t.k == 0) && (t.x.data.toList == s.data.toList)) := by
  unfold wdOf
  rw [Lib.toList_data, Lib.toList_data]
theorem opOf_eq (t : Tt) (n : Int) : opOf t n = (((t.k == 3) && (t.x.data.toList == [123])) && (t.o == n)) := by
  unfold opOf
  rw [sgOf_eq]
theorem plain_of (x : ByteArray) (h : upL.all (fun u => !(x.data.toList == u)) = true) : ∀ u, u ∈ upL → (x.toList == u) = false := fun u hu => by
  have := List.all_eq_true.1 h u hu
  rw [Lib.toList_data]
  simpa using this
/-- Tokens behind which nothing goes on: the end, and the signs that end something. -/
theorem qe_end : Qe noT := ⟨⟨⟨(by rw [sgOf_eq]; rfl), (by rw [sgOf_eq]; rfl), (by rw [sgOf_eq]; rfl), (by rw [sgOf_eq]; rfl), (by rw [sgOf_eq]; rfl), rfl, rfl, rfl, rfl, rfl, rfl, rfl, rfl⟩, .inl rfl⟩, (by rw [wdOf_eq]; rfl), (by rw [wdOf_eq]; rfl)⟩
theorem qe_br (a o : Int) : Qe ⟨3, a, ⟨#[93]⟩, o⟩ := ⟨⟨⟨(by rw [sgOf_eq]; rfl), (by rw [sgOf_eq]; rfl), (by rw [sgOf_eq]; rfl), (by rw [sgOf_eq]; rfl), (by rw [sgOf_eq]; rfl), rfl, rfl, rfl, rfl, rfl, rfl, rfl, rfl⟩, .inr ⟨rfl, by rw [Lib.toList_data]; rfl, plain_of _ rfl⟩⟩, (by rw [wdOf_eq]; rfl), (by rw [wdOf_eq]; rfl)⟩
theorem qe_pa (a o : Int) : Qe ⟨3, a, ⟨#[41]⟩, o⟩ := ⟨⟨⟨(by rw [sgOf_eq]; rfl), (by rw [sgOf_eq]; rfl), (by rw [sgOf_eq]; rfl), (by rw [sgOf_eq]; rfl), (by rw [sgOf_eq]; rfl), rfl, rfl, rfl, rfl, rfl, rfl, rfl, rfl⟩, .inr ⟨rfl, by rw [Lib.toList_data]; rfl, plain_of _ rfl⟩⟩, (by rw [wdOf_eq]; rfl), (by rw [wdOf_eq]; rfl)⟩
theorem qe_co (a o : Int) : Qe ⟨3, a, ⟨#[44]⟩, o⟩ := ⟨⟨⟨(by rw [sgOf_eq]; rfl), (by rw [sgOf_eq]; rfl), (by rw [sgOf_eq]; rfl), (by rw [sgOf_eq]; rfl), (by rw [sgOf_eq]; rfl), rfl, rfl, rfl, rfl, rfl, rfl, rfl, rfl⟩, .inr ⟨rfl, by rw [Lib.toList_data]; rfl, plain_of _ rfl⟩⟩, (by rw [wdOf_eq]; rfl), (by rw [wdOf_eq]; rfl)⟩
theorem qe_se (a o : Int) : Qe ⟨3, a, ⟨#[59]⟩, o⟩ := ⟨⟨⟨(by rw [sgOf_eq]; rfl), (by rw [sgOf_eq]; rfl), (by rw [sgOf_eq]; rfl), (by rw [sgOf_eq]; rfl), (by rw [sgOf_eq]; rfl), rfl, rfl, rfl, rfl, rfl, rfl, rfl, rfl⟩, .inr ⟨rfl, by rw [Lib.toList_data]; rfl, plain_of _ rfl⟩⟩, (by rw [wdOf_eq]; rfl), (by rw [wdOf_eq]; rfl)⟩
theorem qc_eq (a o : Int) : Qc ⟨3, a, ⟨#[61]⟩, o⟩ := ⟨(by rw [sgOf_eq]; rfl), (by rw [sgOf_eq]; rfl), (by rw [sgOf_eq]; rfl), (by rw [sgOf_eq]; rfl), (by rw [sgOf_eq]; rfl), rfl, rfl, rfl, rfl, rfl, rfl, rfl, rfl⟩

/-- The tokens of the law's three texts. -/
def tsA : List Tt := [⟨2, 0, ⟨#[36, 120]⟩, 0⟩, ⟨3, 2, ⟨#[45, 62]⟩, 0⟩, ⟨3, 4, ⟨#[91]⟩, 0⟩, ⟨1, 5, ⟨#[49]⟩, 0⟩, ⟨3, 6, ⟨#[93]⟩, 0⟩, ⟨3, 7, ⟨#[91]⟩, 0⟩, ⟨1, 8, ⟨#[50]⟩, 0⟩, ⟨3, 9, ⟨#[93]⟩, 0⟩]
def nX : Nd := .mk 5 ⟨#[120]⟩ ⟨#[]⟩ 0 []
def nN (n : Int) : Nd := .mk 1 ⟨#[]⟩ ⟨#[]⟩ n []
def nI (a b : Nd) : Nd := .mk 8 ⟨#[]⟩ ⟨#[]⟩ 0 [.mk 12 ⟨#[64]⟩ ⟨#[]⟩ 0 [a], b]
theorem num_expr (κ : Pc) (ts : List Tt) (P k : Nat) (a b : Int) (c : UInt8) (m : Int) (hk : k ≤ 800) (h1 : tAt ts k = ⟨1, a, ⟨#[c]⟩, 0⟩) (h2 : tAt ts (k + 1) = ⟨3, b, ⟨#[93]⟩, 0⟩) (hm : ∀ w, Calls Tryz.prog 123 #[.string ⟨#[c]⟩] w (LkP (.tuple #[.int .i64 m, .bool true]) w)) :
    Mt κ ts P k 53 (.ok (k + 1) (nN m)) := by
  have ht := term_num κ ts P k m (by omega) (by rw [h1]) (by rw [h1]; exact hm)
  have hp := post_plain κ ts P k _ ht (show _ ∧ _ from ⟨by omega, by rw [h2, sgOf_eq]; rfl⟩)
  exact chain_expr hp (by omega) (by rw [h1]; rfl) (by rw [h1, wdOf_eq]; rfl) (show _ ∧ _ from ⟨by omega, by rw [h2]; exact qe_br _ _⟩)
theorem text_a (κ : Pc) (P : Nat) : Mt κ tsA P 0 53 (.ok 8 (nI (nI nX (nN 1)) (nN 2))) := by
  have h0 := term_var κ tsA P 0 0 _ (by omega) rfl (var_x κ tsA P 0 0 (by omega) rfl (by rw [sgOf_eq]; rfl) (by rw [opOf_eq]; rfl))
  have hp := post_chain κ tsA P 1 0 4 7 nX (nN 1) (nN 2) (by omega) (by omega) (by omega) (by omega) (by omega) (by omega) h0 (by rw [sgOf_eq]; rfl) (by rw [sgOf_eq]; rfl)
    (num_expr κ tsA P 3 5 6 49 1 (by omega) rfl rfl numberOf_49) (by rw [sgOf_eq]; rfl) (by rw [sgOf_eq]; rfl) (by rw [sgOf_eq]; rfl) (num_expr κ tsA P 6 8 9 50 2 (by omega) rfl rfl numberOf_50) (by rw [sgOf_eq]; rfl) (by rw [sgOf_eq]; rfl) (by rw [sgOf_eq]; rfl) (by rw [opOf_eq]; rfl) (by rw [sgOf_eq]; rfl)
  exact chain_expr hp (by omega) rfl (by rw [wdOf_eq]; rfl) (show _ ∧ _ from ⟨by omega, qe_end⟩)

end Go.Proofs.YtaocbhfehncdcaaGreatDoor

namespace Go.Proofs.YtaocbhfehncdcaaGreatDoor
open Go.RowKit

def tsC : List Tt := [⟨0, 0, ⟨#[102]⟩, 0⟩, ⟨3, 1, ⟨#[40]⟩, 0⟩, ⟨1, 2, ⟨#[49]⟩, 0⟩, ⟨3, 3, ⟨#[59]⟩, 0⟩]
theorem infoN : (Tryz.prog.info? 28).map (fun i => (i.zero, i.size, i.bytes)) = some (some (.agg #[.int .i64 0, .string ⟨#[]⟩, .string ⟨#[]⟩, .int .i64 0, .slice none 0 0]), 5, 72) := by kernel_rfl
theorem newsN (w : World) (l : List Value) (t : TypeId) : ∀ (j : Nat) (u : Value), l[j]? = some u → (w.alloc (.cells l.toArray t)).cell? ((⟨w.heap.size, 0, none⟩ : Addr).add j) = some u := fun j u hu => by
  have hadd : (⟨w.heap.size, 0, none⟩ : Addr).add j = ⟨w.heap.size, j, none⟩ := by unfold Addr.add; split <;> simp_all
  rw [hadd, Lib.cell_of_heap (Go.MapKept.heap_alloc w _).1]
  simpa using hu
theorem field_x (k a o : Int) (x : ByteArray) (w : World) : (Instr.field 101 (.agg #[.int .i64 k, .int .i64 a, .string x, .string ⟨#[]⟩, .string ⟨#[]⟩, .int .i64 o]) 2).run Tryz.prog w = .ok (.string x) w := by kernel_rfl
theorem tsC3 : tAt tsC 3 = ⟨3, 3, ⟨#[59]⟩, 0⟩ := rfl
theorem tsC1 : tAt tsC 1 = ⟨3, 1, ⟨#[40]⟩, 0⟩ := rfl
theorem tsC0 : tAt tsC 0 = ⟨0, 0, ⟨#[102]⟩, 0⟩ := rfl
theorem one_c (κ : Pc) (P : Nat) : Mt κ tsC P 2 135 (.ok 3 (nN 1)) := by
  have ht := term_num κ tsC P 2 1 (by omega) rfl numberOf_49
  have hp := post_plain κ tsC P 2 _ ht (show _ ∧ _ from ⟨by omega, by rw [tsC3, sgOf_eq]; rfl⟩)
  exact chain_assign hp (by omega) rfl (show _ ∧ _ from ⟨by omega, (qe_se 3 0).toQa⟩)

set_option maxRecDepth 100000 in
set_option maxHeartbeats 8000000 in
theorem list_c (κ : Pc) (P : Nat) (w : World) (h : PsAt κ tsC P 2 w) : Calls Tryz.prog 159 #[.pointer (some ⟨P, 0, none⟩), .string ⟨#[41]⟩] w (BadP P 3 w) := by
  obtain ⟨i0, hi, hz0, hz1, hz2⟩ := info_parts infoN
  have H0 := Lib.hid h
  have HPW : Hid (P < w.heap.size) := h.lt
  have HA := Lib.hid (one_c κ P)
  clear h
  go_enter Tryz.func159, Tryz.ntmps159
  go_wp2_with fail
  refine (sign_any κ tsC P 2 _ H0.out (by omega) _).mono ?_
  rintro e1 W1 ⟨rfl, hb1⟩
  rw [show sgOf (tAt tsC 2) ⟨#[41]⟩ = false from by rw [sgOf_eq]; rfl]
  have H1 := Lib.hid (H0.out.later hb1)
  have HB1 : Hid (But P w W1) := But.of hb1
  clear hb1 H0
  go_wp2_with fail
  go_loopw [8, 6] (fun m l wr => (m = .bool true ∧ l = .slice none 0 0 ∧ wr = W1) ∨ (m = .bool false ∧ Hid (PsAt κ tsC P 3 wr) ∧ Hid (But P w wr))) (fun _ _ wr => 4 - atP P wr)
  case atStart => exact .inl ⟨rfl, rfl, rfl⟩
  case round =>
    rcases hrel with ⟨rfl, rfl, rfl⟩ | ⟨rfl, hs, hb⟩
    · have HAT : Hid (atP P wr = 2) := H1.out.pos
      go_wp2_with fail
      refine (HA.out _ H1.out).mono ?_
      rintro e1 W2 ⟨v, rfl, hn, hs, hb⟩
      cases hn with
      | @mk op s t n l L hn =>
        obtain ⟨la, ln, lc, rfl⟩ := hn.val
        have HS2 := Lib.hid hs
        have HB2 : Hid (But P w W2) := HB1.out.trans hb
        have HLE : Hid (w.heap.size ≤ W2.heap.size) := HB2.out.size
        clear hn hs hb H1
        have hbx : ∀ o1 o2, Below W2.heap.size W2 ((W2.alloc o1).alloc o2).drew := fun o1 o2 => (((Below.refl _ _).alloc (Nat.le_refl _) _).alloc (by simp) _).drew
        have HSX : Hid (∀ o1 o2, PsAt κ tsC P 3 ((W2.alloc o1).alloc o2).drew) := fun o1 o2 => HS2.out.later (hbx o1 o2)
        have HBX : Hid (∀ o1 o2, But P w ((W2.alloc o1).alloc o2).drew) := fun o1 o2 => HB2.out.trans (But.of (hbx o1 o2))
        clear hbx HS2 HB2
        go_wp2_with fail
        refine (sign_any κ tsC P 3 _ (HSX.out _ _) (by omega) _).mono ?_
        rintro e1 W3 ⟨rfl, hb3⟩
        rw [show sgOf (tAt tsC 3) ⟨#[61, 62]⟩ = false from by rw [sgOf_eq]; rfl]
        have HS3 := Lib.hid ((HSX.out _ _).later hb3)
        have HB3 := Lib.hid ((HBX.out _ _).trans (But.of hb3))
        clear hb3
        go_wp2_with fail
        refine (sign_any κ tsC P 3 _ HS3.out (by omega) _).mono ?_
        rintro e1 W4 ⟨rfl, hb4⟩
        rw [show sgOf (tAt tsC 3) ⟨#[44]⟩ = false from by rw [sgOf_eq]; rfl]
        have HS4 := Lib.hid (HS3.out.later hb4)
        have HB4 : Hid (But P w W4) := HB3.out.trans (But.of hb4)
        clear hb4 HS3 HB3 HSX HBX
        have HM4 := Lib.hid HS4.out.pos
        go_wp2
        go_roundw
        case rel => exact .inr ⟨rfl, HS4, HB4⟩
        case measure =>
          have h1 := HAT.out
          have h2 := HM4.out
          omega
    · go_wp2_with fail
      refine (want_bad κ tsC P 3 _ hs.out (by omega) _ (by rw [sgOf_eq]; rfl)).mono ?_
      rintro e1 W5 ⟨rfl, hb5⟩
      have HB5 : Hid (But P w W5) := hb.out.trans hb5
      clear hb5
      go_wp2
      exact ⟨rfl, rfl, HB5.out⟩

set_option maxRecDepth 100000 in
set_option maxHeartbeats 8000000 in
theorem arguments_c (κ : Pc) (P : Nat) (w : World) (h : PsAt κ tsC P 1 w) : Calls Tryz.prog 137 #[.pointer (some ⟨P, 0, none⟩)] w (BadP P 3 w) := by
  have H0 := Lib.hid h
  clear h
  go_enter Tryz.func137, Tryz.ntmps137
  go_wp2_with fail
  refine (want_ok κ tsC P 1 _ H0.out (by omega) _ (by rw [sgOf_eq]; rfl)).mono ?_
  rintro e1 W1 ⟨rfl, hs1, hb1⟩
  have H1 := Lib.hid hs1
  have HB1 := Lib.hid hb1
  clear hs1 hb1 H0
  go_wp2_with fail
  refine (list_c κ P _ H1.out).mono ?_
  rintro e1 W2 ⟨rfl, hb2⟩
  have HB2 : Hid (But P w W2) := HB1.out.trans hb2
  clear hb2
  go_wp2
  exact ⟨rfl, rfl, HB2.out⟩

set_option maxRecDepth 100000 in
set_option maxHeartbeats 8000000 in
theorem arity_f (w : World) : Calls Tryz.prog 7 #[.string ⟨#[102]⟩] w (LkP (.tuple #[.int .i64 0, .int .i64 0, .bool false]) w) := by
  have HP : Hid (LkP (.tuple #[.int .i64 0, .int .i64 0, .bool false]) w (.returned (.tuple #[.int .i64 0, .int .i64 0, .bool false])) w) := ⟨rfl, Below.refl _ _⟩
  go_enter Tryz.func7, Tryz.ntmps7
  go_wp2
  refine bodyPost_ret (v := .tuple #[.int .i64 0, .int .i64 0, .bool false]) ?_ rfl HP.out
  simp [results, Tryz.results7, go_sem]

set_option maxRecDepth 100000 in
set_option maxHeartbeats 8000000 in
theorem gram_f (w : World) : Calls Tryz.prog 22 #[.string ⟨#[102]⟩] w (LkP (.bool false) w) := by
  have HP : Hid (LkP (.bool false) w (.returned (.bool false)) w) := ⟨rfl, Below.refl _ _⟩
  go_enter Tryz.func22, Tryz.ntmps22
  go_wp2
  go_ret
  exact HP.out

set_option maxRecDepth 100000 in
set_option maxHeartbeats 8000000 in
theorem isName_f (w : World) : Calls Tryz.prog 9 #[.string ⟨#[102]⟩] w (LkP (.bool true) w) := by
  have HP : Hid (∀ w', Below w.heap.size w w' → LkP (.bool true) w (.returned (.bool true)) w') := fun w' h => ⟨rfl, h⟩
  have HW : Hid (∀ w, Calls Tryz.prog 21 #[.string ⟨#[102]⟩] w (BoS true w)) := fun w => by
    have := IsWord_any ⟨#[102]⟩ w (by decide)
    rwa [show isW (ByteArray.mk #[102]).data.toList = true by decide] at this
  go_enter Tryz.func9, Tryz.ntmps9
  go_wp2_with fail
  refine (arity_f _).mono ?_
  rintro e1 W1 ⟨rfl, hb1⟩
  have HB1 := Lib.hid hb1
  clear hb1
  go_wp2_with fail
  refine (HW.out _).mono ?_
  rintro e1 wx ⟨rfl, rfl⟩
  go_wp2_with fail
  refine (gram_f _).mono ?_
  rintro e1 W2 ⟨rfl, hb2⟩
  have HB2 : Hid (Below w.heap.size w W2) := HB1.out.trans (hb2.mono HB1.out.size)
  clear hb2
  go_wp2
  go_ret
  exact HP.out _ HB2.out

set_option maxRecDepth 100000 in
set_option maxHeartbeats 8000000 in
theorem name_c (κ : Pc) (P : Nat) (w : World) (h : PsAt κ tsC P 0 w) : Calls Tryz.prog 114 #[.pointer (some ⟨P, 0, none⟩)] w (GoP κ tsC P 1 (.string ⟨#[102]⟩) w) := by
  have H0 := Lib.hid h
  have HP : Hid (∀ w', PsAt κ tsC P 1 w' → But P w w' → GoP κ tsC P 1 (.string ⟨#[102]⟩) w (.returned (.string ⟨#[102]⟩)) w') := fun w' h1 h2 => ⟨rfl, h1, h2⟩
  have HPE : Hid (P < w.heap.size) := h.lt
  have HI := Lib.hid isName_f
  clear h
  go_enter Tryz.func114, Tryz.ntmps114
  go_wp2_with fail
  refine (token_x κ tsC P 0 _ H0.out (by omega)).mono ?_
  rw [tsC0]
  rintro e1 W1 ⟨rfl, hb1⟩
  have hb2 : Below W1.heap.size W1 (W1.alloc (.cells #[.int .i64 0, .int .i64 0, .string ⟨#[102]⟩, .string ⟨#[]⟩, .string ⟨#[]⟩, .int .i64 0] 101)) := (Below.refl _ _).alloc (Nat.le_refl _) _
  have H2 := Lib.hid ((H0.out.later hb1).later hb2)
  have HB2 : Hid (But P w _) := (But.of hb1).trans (But.of hb2)
  have HT2 := Lib.hid (TkAt.new W1 (.int .i64 0) (.int .i64 0) (.string ⟨#[102]⟩) (.string ⟨#[]⟩) (.string ⟨#[]⟩) (.int .i64 0))
  have HPT : Hid (P < W1.heap.size) := Nat.lt_of_lt_of_le HPE.out hb1.size
  clear hb1 hb2 H0
  go_wp2_with fail
  generalize W1.alloc _ = W2 at *
  generalize W1.heap.size = T at *
  refine (HI.out _).mono ?_
  rintro e1 W3 ⟨rfl, hb3⟩
  have h3 := H2.out.later hb3
  have hbs : But P W3 (W3.setCell ⟨P, 1, none⟩ (.int .i64 1)) := (But.refl P W3).set 1 _
  have H4 : Hid (PsAt κ tsC P 1 (W3.setCell ⟨P, 1, none⟩ (.int .i64 1))) := h3.step 1
  have HB4 : Hid (But P w (W3.setCell ⟨P, 1, none⟩ (.int .i64 1))) := (HB2.out.trans (But.of hb3)).trans hbs
  have HT4 : TkAt T (.int .i64 0) (.int .i64 0) (.string ⟨#[102]⟩) (.string ⟨#[]⟩) (.string ⟨#[]⟩) (.int .i64 0) (W3.setCell ⟨P, 1, none⟩ (.int .i64 1)) := (HT2.out.later (hb3.block _ HT2.out.lt)).later (Below.heap_setCell W3 ⟨P, 1, none⟩ _ T (by have := HPT.out; show T ≠ P; omega))
  obtain ⟨c0, c1, cz⟩ := h3.cells
  obtain ⟨y0, y1, y2, y3, y4, y5⟩ := HT4.cells
  clear hb3 h3 hbs HT4 HT2 H2 HB2
  go_wp2
  go_ret
  exact HP.out _ H4.out HB4.out

set_option maxRecDepth 100000 in
set_option maxHeartbeats 8000000 in
theorem named_c (κ : Pc) (P : Nat)  : Mt κ tsC P (0) 256 (.bad 3) := by
  intro w h
  have HL := Lib.hid h.all
  have HS0 : Hid (PsAt κ tsC P 0 (w.alloc zN)) := h.later ((Below.refl _ _).alloc (Nat.le_refl _) _)
  have HB0 : Hid (But P w (w.alloc zN)) := But.alloc P w _
  have HT0 := Lib.hid (NkAt.zero w)
  unfold zN at HS0 HB0 HT0
  clear h
  go_enter Tryz.func256, Tryz.ntmps256
  go_wp2_with fail
  generalize w.alloc _ = W0 at *
  clear HT0 HL
  refine (name_c κ P _ HS0.out).mono ?_
  rintro e1 W1 ⟨rfl, hs, hb⟩
  have HS1 := Lib.hid hs
  have HB1 : Hid (But P w W1) := HB0.out.trans hb
  clear hs hb HS0 HB0
  go_wp2_with fail
  refine (sign_any κ tsC P 1 _ HS1.out (by omega) _).mono ?_
  rintro e1 W2 ⟨rfl, hb⟩
  rw [show sgOf (tAt tsC 1) ⟨#[40]⟩ = true from by rw [sgOf_eq]; rfl]
  have HS2 := Lib.hid (HS1.out.later hb)
  have HB2 : Hid (But P w W2) := HB1.out.trans (But.of hb)
  clear hb HS1 HB1
  go_wp2_with fail
  refine (arguments_c κ P _ HS2.out).mono ?_
  rintro e1 W3 ⟨rfl, hb⟩
  have HB3 : Hid (But P w W3) := HB2.out.trans hb
  clear hb
  go_wp2
  exact ⟨rfl, rfl, HB3.out⟩
set_option maxRecDepth 100000 in
set_option maxHeartbeats 8000000 in
theorem wordTerm_c (κ : Pc) (P : Nat)  : Mt κ tsC P (0) 246 (.bad 3) := by
  intro w h
  have HL := Lib.hid h.all
  have HS0 : Hid (PsAt κ tsC P 0 (w.alloc zN)) := h.later ((Below.refl _ _).alloc (Nat.le_refl _) _)
  have HB0 : Hid (But P w (w.alloc zN)) := But.alloc P w _
  have HT0 := Lib.hid (NkAt.zero w)
  unfold zN at HS0 HB0 HT0
  have hfd := field_x 0 0 0 (ByteArray.mk #[102])
  clear h
  go_enter Tryz.func246, Tryz.ntmps246
  go_wp2_with fail
  generalize w.alloc _ = W0 at *
  clear HT0 HL
  refine (token_x κ tsC P 0 _ HS0.out (by omega)).mono ?_
  rw [tsC0]
  rintro e1 W1 ⟨rfl, hb⟩
  have HS1 := Lib.hid (HS0.out.later hb)
  have HB1 : Hid (But P w W1) := HB0.out.trans (But.of hb)
  clear hb HS0 HB0
  go_wp2_with fail
  refine (ahead1 κ tsC P 0 _ HS1.out (by omega)).mono ?_
  rw [tsC1]
  rintro e1 W2 ⟨rfl, hb⟩
  have HS2 := Lib.hid (HS1.out.later hb)
  have HB2 : Hid (But P w W2) := HB1.out.trans (But.of hb)
  clear hb HS1 HB1
  go_wp2_with fail
  refine (isSign_any ⟨3, 1, ⟨#[40]⟩, 0⟩ _ _).mono ?_
  rw [show sgOf ⟨3, 1, ⟨#[40]⟩, 0⟩ ⟨#[61, 62]⟩ = false from by rw [sgOf_eq]; rfl]
  rintro e1 W3 ⟨rfl, hb⟩
  have HS3 := Lib.hid (HS2.out.later hb)
  have HB3 : Hid (But P w W3) := HB2.out.trans (But.of hb)
  clear hb HS2 HB2
  go_wp2_with fail
  refine (arity_f _).mono ?_
  rintro e1 W4 ⟨rfl, hb⟩
  have HS4 := Lib.hid (HS3.out.later hb)
  have HB4 : Hid (But P w W4) := HB3.out.trans (But.of hb)
  clear hb HS3 HB3
  go_wp2_with fail
  refine (named_c κ P _ HS4.out).mono ?_
  rintro e1 W5 ⟨rfl, hb⟩
  have HB5 : Hid (But P w W5) := HB4.out.trans hb
  clear hb
  go_wp2
  exact ⟨rfl, rfl, HB5.out⟩
set_option maxRecDepth 100000 in
set_option maxHeartbeats 8000000 in
theorem term_word (κ : Pc) (ts : List Tt) (P k : Nat) (o : Oc) (hk : k ≤ 900) (ht : (tAt ts k).k = 0) (hm : Mt κ ts P k 246 o) : MtT κ ts P k 239 0 o := by
  intro w h
  have HL := Lib.hid h.all
  have HS0 : Hid (PsAt κ ts P k (w.alloc zN)) := h.later ((Below.refl _ _).alloc (Nat.le_refl _) _)
  have HB0 : Hid (But P w (w.alloc zN)) := But.alloc P w _
  have HT0 := Lib.hid (NkAt.zero w)
  unfold zN at HS0 HB0 HT0
  have HM := Lib.hid hm
  clear hm
  clear h
  go_enter Tryz.func239, Tryz.ntmps239
  go_wp2_with fail
  generalize w.alloc _ = W0 at *
  generalize hTT : w.heap.size = T at *
  have HTT : Hid (w.heap.size ≤ T) := Nat.le_of_eq hTT
  clear hTT
  refine (token_x κ ts P k _ HS0.out (by omega)).mono ?_
  rw [ht]
  rintro e1 W1 ⟨rfl, hb1⟩
  have HS1 : Hid (PsAt κ ts P k W1) := HS0.out.later hb1
  have HB1 : Hid (But P w W1) := HB0.out.trans (But.of hb1)
  have HT1 := Lib.hid (HT0.out.below hb1)
  clear HS0 HB0 HT0 hb1
  have hb2 : Below W1.heap.size W1 (W1.alloc (.cells #[.int .i64 0, .int .i64 (tAt ts k).a, .string (tAt ts k).x, .string ⟨#[]⟩, .string ⟨#[]⟩, .int .i64 (tAt ts k).o] 101)) := (Below.refl _ _).alloc (Nat.le_refl _) _
  have HS2 : Hid (PsAt κ ts P k (W1.alloc (.cells #[.int .i64 0, .int .i64 (tAt ts k).a, .string (tAt ts k).x, .string ⟨#[]⟩, .string ⟨#[]⟩, .int .i64 (tAt ts k).o] 101))) := HS1.out.later hb2
  have HB2 : Hid (But P w (W1.alloc (.cells #[.int .i64 0, .int .i64 (tAt ts k).a, .string (tAt ts k).x, .string ⟨#[]⟩, .string ⟨#[]⟩, .int .i64 (tAt ts k).o] 101))) := HB1.out.trans (But.of hb2)
  have HT2 := Lib.hid (HT1.out.below hb2)
  clear HS1 HB1 HT1 hb2
  go_wp2_with fail
  generalize W1.alloc _ = W20 at *
  refine (HM.out _ HS2.out).mono ?_
  intro e1 W3 h1
  cases o with
  | bad m =>
    obtain ⟨rfl, hb1⟩ := h1
    have HBZ : Hid (But P w W3) := HB2.out.trans hb1
    clear hb1
    go_wp2
    exact ⟨rfl, rfl, HBZ.out⟩
  | ok j t =>
    obtain ⟨v, rfl, hn, hs3, hb3⟩ := h1
    cases hn with
    | @mk op s t' n l L hn =>
      obtain ⟨la, ln, lc, rfl⟩ := hn.val
      have HN_3 : Hid (NdAt (fun g => T < g) W3 (.mk op s t' n l) (.agg #[.int .i64 op, .string s, .string t', .int .i64 n, .slice la ln lc])) := .mk (hn.move fun g h1 h2 => ⟨rfl, Nat.lt_of_lt_of_le HT2.out.lt h1⟩)
      have HS3 := Lib.hid hs3
      have HB3 : Hid (But P w W3) := HB2.out.trans hb3
      have HT3 := Lib.hid (HT2.out.but hb3 HL.out.p)
      clear HB2 HT2 HS2 hn hs3 hb3 HM
      obtain ⟨u0, u1, u2, u3, u4⟩ := HT3.out.cells
      have z0 := HT3.out.frozen 0
      have z1 := HT3.out.frozen 1
      have z2 := HT3.out.frozen 2
      have z3 := HT3.out.frozen 3
      have z4 := HT3.out.frozen 4
      go_wp2
      have HR := HT3.out.put (.int .i64 op) (.string s) (.string t') (.int .i64 n) (.slice la ln lc)
      obtain ⟨r0, r1, r2, r3, r4⟩ := HR.cells
      change bodyPost _ _ _ _ _ (ndW W3 T (.int .i64 op) (.string s) (.string t') (.int .i64 n) (.slice la ln lc))
      refine bodyPost_ret (v := .tuple #[.agg #[.int .i64 op, .string s, .string t', .int .i64 n, .slice la ln lc], .int .i64 0]) ?_ rfl (OcT.of (fn_ret HTT.out HL.out HS3.out HB3.out HN_3.out (fun g h => h)))
      generalize ndW W3 T (.int .i64 op) (.string s) (.string t') (.int .i64 n) (.slice la ln lc) = WZ at *
      simp [results, Tryz.results239, go_sem, r0, r1, r2, r3, r4]
theorem text_c (κ : Pc) (P : Nat) : Mt κ tsC P 0 53 (.bad 3) := by
  have ht := term_word κ tsC P 0 (.bad 3) (by omega) rfl (wordTerm_c κ P)
  have hp := post_plain κ tsC P 0 (.bad 3) ht trivial
  exact chain_expr hp (by omega) rfl (by rw [wdOf_eq]; rfl) trivial


end Go.Proofs.YtaocbhfehncdcaaGreatDoor

namespace Go.Proofs.YtaocbhfehncdcaaGreatDoor
open Go.RowKit

theorem step_call {P : Program} {ops : Array Oper} {o : Oper} {a : Act} {w : World} {K : Act → World → Prop} {Q : Exit → Act → World → Prop} {E : Prop}
    (hg : o.guard = none) (f : Nat) (x : Operand) (ty : TypeId) (hop : o.op = Op.call { callee := Callee.value (Operand.func f), args := #[x], argTypes := #[ty] })
    (v : Value) (hv : a.eval x = v) (hcall : (callFunc f #[v]).run P w = .ok (.enter f #[v]) w) (post : Ending → World → Prop) (hc : Calls P f #[v] w post) (hK : ∀ e w', post e w' → ∃ u, e = .returned u ∧ K (a.put o.dst u) w') :
    if Region.wanted o (yielded ops a.tmps) = true then Oper.wp P o a w K Q else E := by
  have hw : Region.wanted o (yielded ops a.tmps) = true := by simp [Region.wanted, hg]
  rw [if_pos hw]
  have hrun : (execOp a.eval o).run P w = .ok (.enter f #[v]) w := by
    rw [← hv] at hcall ⊢
    simp only [Act.eval] at hcall ⊢
    simpa [execOp, hop, resolve, invoke, Result.andThen, Act.eval, Deferred.ofValue] using hcall
  unfold Oper.wp
  rw [hrun, Oper.upon_enter]
  refine hc.mono fun e w' h => ?_
  obtain ⟨u, rfl, hk⟩ := hK e w' h
  exact hk

theorem own_enter (v : Value) (w : World) : (callFunc 260 #[v]).run Tryz.prog w = .ok (.enter 260 #[v]) w := by kernel_rfl

end Go.Proofs.YtaocbhfehncdcaaGreatDoor
