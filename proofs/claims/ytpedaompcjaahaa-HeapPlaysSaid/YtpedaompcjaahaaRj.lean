/-
  Next of the document's heap. Conditions: a heap's size (phi) below 2^20.
-/
import Derived.Test.YtpedaompcjaahaaRi
namespace Go.Proofs.Ytpedaompcjaahaa
open Go.RowKit

/-- A row of numbers is copied. -/
theorem rn_copy (l : List Nat) (w : World) (g o c : Nat) (hc : ∀ j (h : j < l.length), w.cell? ⟨g, o + j, none⟩ = some (.int .i64 (l[j] : Nat))) (hl : l.length ≤ 1000000) :
    ∃ ao c' w', (Builtin.append_ #[28, 28] 28 #[.slice none 0 0, .slice (some ⟨g, o, none⟩) l.length c]).run Try.prog w = .ok (.slice ao l.length c') w' ∧ Rn (fun g => w.heap.size ≤ g) (.slice ao l.length c') l w' ∧ w.grownBy w' none := by
  obtain ⟨i, hi, hz, hs, hb⟩ := info_of info_int
  obtain ⟨v', w', hr, ho, hg, _⟩ := run_append_own (P := Try.prog) w w.heap.size 28 28 3 i (.int .i64 0) 1 8 Try.underlying28 hi hz hs hb rfl (by decide) (.slice none 0 0) 0 [] (World.ownsRow_nil w _ 3 1) ⟨g, o, none⟩ l.length c (l.map (fun n : Nat => Value.int .i64 n)) (by simp)
    (fun j u hj => by
      rw [List.getElem?_map] at hj
      by_cases hjl : j < l.length
      · rw [List.getElem?_eq_getElem hjl] at hj
        rw [Addr.add_lit]
        simp at hj
        rw [← hj]
        exact hc j hjl
      · rw [List.getElem?_eq_none (by omega)] at hj
        simp at hj) (fun u hu => by
      obtain ⟨n, _, rfl⟩ := List.mem_map.1 hu
      rfl) (by simp [maxLen]; omega) (by omega) (Nat.le_refl _)
  rw [Nat.zero_add, List.nil_append] at ho
  rcases ho.2 with ⟨e, h0⟩ | ⟨g', cap, cur, e, h2, h3, h4, h5, h6, h7⟩
  · have hl0 : l = [] := List.eq_nil_of_length_eq_zero h0
    subst hl0
    subst e
    exact ⟨none, 0, w', hr, Rn.nil _ _, hg⟩
  · subst e
    refine ⟨_, cap, w', hr, .inr ⟨g', 0, cap, cur, rfl, h2, h3, h4, h5, by omega, fun j hj => ?_⟩, hg⟩
    have h9 : (l.map (fun n : Nat => Value.int .i64 n))[j]? = some (Value.int .i64 (l[j] : Nat)) := by
      rw [List.getElem?_map, List.getElem?_eq_getElem hj]
      rfl
    rw [← h7, List.getElem?_take_of_lt (by omega)] at h9
    rw [Nat.zero_add]
    simpa using h9
/-- A first number is taken off a row that is to be copied. -/
theorem Rn.rest {S : Nat → Prop} {v : Value} {n : Nat} {l : List Nat} {w : World} (h : Rn S v (n :: l) w) : ∃ g o cap, v = .slice (some ⟨g, o, none⟩) (l.length + 1) cap ∧ l.length + 1 ≤ cap ∧ w.cell? ⟨g, o, none⟩ = some (.int .i64 (n : Nat)) ∧ ∀ j (hj : j < l.length), w.cell? ⟨g, o + 1 + j, none⟩ = some (.int .i64 (l[j] : Nat)) := by
  rcases h with ⟨_, h⟩ | ⟨g, o, cap, cur, h1, h2, h3, h4, h5, h6, h7⟩
  · cases h
  · refine ⟨g, o, cap, h1, h4, ?_, fun j hj => ?_⟩
    · rw [cell_of_row _ _ _ _ _ _ h3]
      exact h7 0 (by simp)
    · have := h7 (j + 1) (by simpa using hj)
      rw [cell_of_row _ _ _ _ _ _ h3, show o + 1 + j = o + (j + 1) by omega]
      simpa using this
def NxQ (S : Nat → Prop) (r : Nat) (h : Hp) (w wr : World) (m : Nat) : Prop :=
  ∃ (f : Nat) (h1 : Hp), m = phi h1 ∧ nextF (phi h) h = nextF f h1 ∧ Good h1 ∧ phi h1 ≤ f ∧ phi h1 ≤ 1000000 ∧ RH (New S w.heap.size) r h1 wr ∧ Kp S w wr
def RxP (S : Nat → Prop) (r : Nat) (x : Hp × Option Nat) (w : World) (e : Ending) (w' : World) : Prop :=
  e = .returned (.tuple #[.int .i64 ((x.2.getD 0 : Nat) : Int), .bool x.2.isSome]) ∧ RH (New S w.heap.size) r x.1 w' ∧ Kp S w w'

set_option maxRecDepth 100000 in
set_option maxHeartbeats 4000000 in
theorem rNext_hp (S : Nat → Prop) (r : Nat) (h : Hp) (w : World) (hs : RH S r h w) (H : Good h) (hp : phi h ≤ 1000000) :
    Calls Try.prog 43 #[.pointer (some ⟨r, 0, none⟩)] w (RxP S r (nextH h) w) := by
  have hStart : NxQ S r h w w (phi h) := ⟨phi h, h, rfl, rfl, H, Nat.le_refl _, hp, hs.wide fun g a _ => Or.inl a, Kp.refl S w⟩
  have hN : Hid (nextH h = nextF (phi h) h) := rfl
  clear hs H hp
  generalize nextH h = R at *
  go_enter Try.func43, Try.ntmps43
  go_wp2
  go_loopw [4] (fun _ wr => ∃ m, NxQ S r h w wr m) (fun _ wr => leastN (NxQ S r h w wr))
  case atStart => exact ⟨_, hStart⟩
  case round =>
    clear hStart
    obtain ⟨f, h1, hm, hF, hG, hpf, hp, hs, hK⟩ := (least_spec hrel).1
    have hMe : Hid (∀ w', (∃ m, m < phi h1 ∧ NxQ S r h w w' m) → leastN (NxQ S r h w w') < leastN (NxQ S r h w wr)) := by
      rintro w' ⟨m, h1, h2⟩
      have := (least_spec ⟨m, h2⟩).2 m h2
      omega
    replace hm := Lib.hid hm
    clear hrel
    obtain ⟨cs, ns⟩ := h1
    obtain ⟨vc, vn, fv, hI⟩ := id hs
    obtain ⟨_, c1, hfr, hrl, _⟩ := hI.open
    cases ns with
    | nil =>
      obtain ⟨ao, cap, rfl⟩ := hI.notes.form
      have hR : R = (⟨cs, []⟩, none) := by
        rw [hN.out, hF]
        cases f <;> rfl
      subst hR
      replace hF := Lib.hid hF
      have hX : Hid (RxP S r (⟨cs, []⟩, none) w (.returned (.tuple #[.int .i64 0, .bool false])) wr) := ⟨rfl, hs, hK⟩
      clear hI hs hK hG
      go_wp2
      go_ret2
      exact hX.out
    | cons n ns =>
      obtain ⟨gn, o, cap, rfl, hcap, hn0, hrest⟩ := hI.notes.rest
      have hn : n < cs.length := hG.told n (by simp)
      have hph := phi_less cs n ns
      obtain ⟨f', rfl⟩ : ∃ f', f = f' + 1 := ⟨f - 1, by omega⟩
      have hnl : ns.length ≤ 1000000 := by
        have : (n :: ns).length ≤ phi ⟨cs, n :: ns⟩ := Nat.le_add_right _ _
        simp at this
        omega
      have hgl := hG.less
      have hcases : ∃ ob cm L0, (cap = 1 ∧ ob = o ∧ cm = 0 ∧ L0 = 0 ∨ cap ≠ 1 ∧ ob = o + 1 ∧ cm = cap - 1 ∧ L0 = ns.length) ∧ ∃ ao c' w2, (Builtin.append_ #[28, 28] 28 #[.slice none 0 0, .slice (some ⟨gn, ob, none⟩) L0 cm]).run Try.prog wr = .ok (.slice ao L0 c') w2 ∧ Rn (fun g => wr.heap.size ≤ g) (.slice ao L0 c') ns w2 ∧ wr.grownBy w2 none := by
        by_cases hc1 : cap = 1
        · have hns : ns.length = 0 := by omega
          have hx := rn_copy ns wr gn o 0 (fun j hj => by omega) hnl
          rw [hns] at hx
          exact ⟨o, 0, 0, Or.inl ⟨hc1, rfl, rfl, rfl⟩, hx⟩
        · exact ⟨o + 1, cap - 1, ns.length, Or.inr ⟨hc1, rfl, rfl, rfl⟩, rn_copy ns wr gn (o + 1) (cap - 1) hrest hnl⟩
      obtain ⟨ob, cm, L0, hoc, ao, c', w2, hr, hRn2, hg2⟩ := hcases
      have hI2 : RI (New S w.heap.size) r cs (n :: ns) vc (.slice (some ⟨gn, o, none⟩) (ns.length + 1) cap) fv w2 := hI.move fun g a c => ⟨hg2.block g c (by simp), a⟩
      have a1 : RI (New S w.heap.size) r cs ns vc (.slice ao L0 c') fv (w2.setCell ⟨r, 1, none⟩ (.slice ao L0 c')) := hI2.renote (hRn2.move fun g a _ _ => ⟨rfl, Or.inr (Nat.le_trans hK.size a)⟩)
      have k1 : Kp S w (w2.setCell ⟨r, 1, none⟩ (.slice ao L0 c')) := (hK.grown hg2 fun k e _ => by cases e).set (p := ⟨r, 1, none⟩) hI.base _
      have d1 : w2.cell? ⟨r, 1, none⟩ = some (.slice (some ⟨gn, o, none⟩) (ns.length + 1) cap) := hI2.open.2.1
      have dz : w2.frozen? ⟨r, 1, none⟩ = false := hI2.open.2.2.1 1
      obtain ⟨g, capc, rfl, hSg, hgr, hglt, hcell, hfz⟩ := a1.cell hn
      have c0 := a1.open.1
      generalize hW3 : w2.setCell ⟨r, 1, none⟩ (.slice ao L0 c') = w3 at *
      have hen : w3.cell? ⟨g, n * 5 + 3, none⟩ = some (.bool (cl cs n).en) := hcell n 3 hn (by decide)
      have htd : w3.cell? ⟨g, n * 5 + 2, none⟩ = some (.bool (cl cs n).td) := hcell n 2 hn (by decide)
      have hwt : w3.cell? ⟨g, n * 5 + 1, none⟩ = some (.bool (cl cs n).wt) := hcell n 1 hn (by decide)
      have A1 : RH (New S w.heap.size) r ⟨cs, ns⟩ w3 := ⟨_, _, _, a1⟩
      have hC := counted_any (New S w.heap.size) r cs ns n w3 A1 hn hG.kind (fun e => hG.ended n e) (by have := cnt_le_phi cs (n :: ns) n; omega) hG.few hG.wide
      have n1 : ¬ g = r := hgr
      have n2 : ¬ r = g := fun e => hgr e.symm
      have hrt : (cl cs n).rt ≤ 1000000 := by
        have := cnt_le_phi cs (n :: ns) n
        have := rt_le_cnt cs n
        omega
      have HA1 := Lib.hid A1
      have HK1 := Lib.hid k1
      have hfew : Hid (∀ w4, Below w3.heap.size w3 w4 → RH (New S w.heap.size) r ⟨cs, ns⟩ w4 ∧ Kp S w w4 ∧ w4.cell? ⟨r, 0, none⟩ = some (.slice (some ⟨g, 0, none⟩) cs.length capc) ∧ (∀ j, j < 5 → w4.cell? ⟨g, n * 5 + j, none⟩ = some (rcv cs fv n j)) ∧ (∀ k, w4.frozen? ⟨g, k, none⟩ = false) ∧ RI (New S w.heap.size) r cs ns (.slice (some ⟨g, 0, none⟩) cs.length capc) (.slice ao L0 c') fv w4) := fun w4 hb => by
        have a4 := a1.move (w' := w4) (S' := New S w.heap.size) fun g' a c => ⟨hb.block g' c, a⟩
        refine ⟨A1.low hb, k1.trans (Kp.below (S := S) hb) fun _ _ a => a, a4.open.1, fun j hj => ?_, fun k => ?_, a4⟩
        · rw [hb.cell (p := ⟨g, n * 5 + j, none⟩) hglt]
          exact hcell n j hn hj
        · rw [hb.frozen (p := ⟨g, k, none⟩) hglt]
          exact hfz k
      by_cases hA : 0 < cnt cs n ∨ (cl cs n).en = true
      · have hR2 := Lib.hid (hF.trans (nextF_skip f' cs n ns hA))
        have hX : Hid (∀ w4, RH (New S w.heap.size) r ⟨cs, ns⟩ w4 → Kp S w w4 → NxQ S r h w w4 (phi ⟨cs, ns⟩)) := fun w4 x1 x2 => ⟨f', ⟨cs, ns⟩, rfl, by rw [← hN.out]; rw [← hN.out] at hR2; exact hR2.out, hgl, by omega, by omega, x1, x2⟩
        have hM2 : Hid (phi ⟨cs, ns⟩ < phi ⟨cs, n :: ns⟩) := by show _ < _; omega
        by_cases he : (cl cs n).en = true
        · rw [he] at hen
          clear hF hcell a1 A1 k1 hs hI hI2 hRn2 hgl hG hK hph hA hpf hp he hC hrest hfew hrt
          rcases hoc with ⟨hc1, rfl, rfl, rfl⟩ | ⟨hc1, rfl, rfl, rfl⟩
          · subst hc1
            go_wp2_with (at_builtin; refine wpList_append_is _ rfl _ _ 28 rfl _ _ _ _ rfl rfl hr ?_)
            go_roundw
            case rel => exact ⟨_, hX.out _ HA1.out HK1.out⟩
            case measure => exact hMe.out _ ⟨_, hM2.out, hX.out _ HA1.out HK1.out⟩
          · have hc2 : ¬ cap - 1 = 0 := by omega
            go_wp2_with (at_builtin; refine wpList_append_is _ rfl _ _ 28 rfl _ _ _ _ rfl rfl hr ?_)
            go_roundw
            case rel => exact ⟨_, hX.out _ HA1.out HK1.out⟩
            case measure => exact hMe.out _ ⟨_, hM2.out, hX.out _ HA1.out HK1.out⟩
        · have he2 : (cl cs n).en = false := by
            cases e : (cl cs n).en
            · rfl
            · exact absurd e he
          have hq : 0 < cnt cs n := hA.resolve_right he
          have hq2 : (0 : Int) < ((cnt cs n : Nat) : Int) := by omega
          rw [he2] at hen
          clear hF hcell a1 A1 k1 hs hI hI2 hRn2 hgl hG hK hph hA hpf hp he he2 hrest hrt hq
          generalize cnt cs n = q at *
          rcases hoc with ⟨hc1, rfl, rfl, rfl⟩ | ⟨hc1, rfl, rfl, rfl⟩
          · subst hc1
            go_wp2_with (at_builtin; refine wpList_append_is _ rfl _ _ 28 rfl _ _ _ _ rfl rfl hr ?_)
            refine hC.mono ?_
            rintro e w4 ⟨rfl, hb⟩
            have hw4 := hfew.out w4 hb
            have x1 := Lib.hid hw4.1
            have x2 := Lib.hid hw4.2.1
            clear hw4 hb hC hfew
            go_wp2
            go_roundw
            case rel => exact ⟨_, hX.out _ x1.out x2.out⟩
            case measure => exact hMe.out _ ⟨_, hM2.out, hX.out _ x1.out x2.out⟩
          · have hc2 : ¬ cap - 1 = 0 := by omega
            go_wp2_with (at_builtin; refine wpList_append_is _ rfl _ _ 28 rfl _ _ _ _ rfl rfl hr ?_)
            refine hC.mono ?_
            rintro e w4 ⟨rfl, hb⟩
            have hw4 := hfew.out w4 hb
            have x1 := Lib.hid hw4.1
            have x2 := Lib.hid hw4.2.1
            clear hw4 hb hC hfew
            go_wp2
            go_roundw
            case rel => exact ⟨_, hX.out _ x1.out x2.out⟩
            case measure => exact hMe.out _ ⟨_, hM2.out, hX.out _ x1.out x2.out⟩
      · have h0 : cnt cs n = 0 := by omega
        have hq2 : ¬ (0 : Int) < ((cnt cs n : Nat) : Int) := by omega
        have he : (cl cs n).en = false := by
          cases e : (cl cs n).en
          · rfl
          · exact absurd (Or.inr e) hA
        rw [he] at hen
        have hph2 : phi ⟨cs, ns⟩ ≤ 1000000 := by omega
        by_cases hB : (cl cs n).wt = true ∧ (cl cs n).td = false
        · have hR2 : R = (⟨tellF cs n, ns⟩, some n) := hN.out.trans (hF.trans (nextF_tell f' cs n ns hA hB))
          subst hR2
          have hX : Hid (∀ w4, Below w3.heap.size w3 w4 → RxP S r (⟨tellF cs n, ns⟩, some n) w (.returned (.tuple #[.int .i64 (n : Int), .bool true])) ((w4.setCell ⟨g, n * 5 + 2, none⟩ (.bool true)).setCell ⟨g, n * 5 + 4, none⟩ (.int .i64 (((cl cs n).rt : Int) + 1)))) := by
            intro w4 hb
            obtain ⟨x1, x2, x3, x4, x5, a4⟩ := hfew.out w4 hb
            have b1 := a4.store (n := n) (k := 2) (c := { cl cs n with td := true }) (u := .bool true) hn (by decide) rfl (fun a b _ hj => rcv_setT cs fv n hn a b hj)
            have hln : n < (cs.set n { cl cs n with td := true }).length := by rw [List.length_set]; exact hn
            have hcn : cl (cs.set n { cl cs n with td := true }) n = { cl cs n with td := true } := by rw [cl_set _ _ _ _ hn, if_pos rfl]
            have hle : (cs.set n { cl cs n with td := true }).length = cs.length := List.length_set ..
            have b2 := RI.store (cs := cs.set n { cl cs n with td := true }) (cap := capc) (g := g) (ns := ns) (S := New S w.heap.size) (r := r) (vn := .slice ao L0 c') (fv := fv) (w := w4.setCell ⟨g, n * 5 + 2, none⟩ (.bool true)) (by rw [hle]; exact b1) (n := n) (k := 4) (c := { cl (cs.set n { cl cs n with td := true }) n with rt := (cl cs n).rt + 1 }) (u := .int .i64 (((cl cs n).rt + 1 : Nat) : Int)) hln (by decide) rfl (fun a b _ hj => rcv_setR _ fv n _ hln a b hj)
            have ht : (cs.set n { cl cs n with td := true }).set n { cl (cs.set n { cl cs n with td := true }) n with rt := (cl cs n).rt + 1 } = tellF cs n := by
              rw [hcn, List.set_set]
              rfl
            rw [ht] at b2
            exact ⟨rfl, ⟨_, _, _, b2⟩, (x2.set (p := ⟨g, n * 5 + 2, none⟩) hSg _).set (p := ⟨g, n * 5 + 4, none⟩) hSg _⟩
          have hw1 : IntKind.wrap .i64 ((((cl cs n).rt : Nat) : Int) + 1) = (((cl cs n).rt : Nat) : Int) + 1 := wrap_ok (by omega) (by omega)
          have hw5 : Hid (∀ w4, Below w3.heap.size w3 w4 → w4.cell? ⟨r, 0, none⟩ = some (.slice (some ⟨g, 0, none⟩) cs.length capc) ∧ (∀ k, w4.frozen? ⟨g, k, none⟩ = false) ∧ w4.cell? ⟨g, n * 5 + 1, none⟩ = some (.bool true) ∧ w4.cell? ⟨g, n * 5 + 2, none⟩ = some (.bool false) ∧ w4.cell? ⟨g, n * 5 + 4, none⟩ = some (.int .i64 (((cl cs n).rt : Nat) : Int))) := fun w4 hb => by
            obtain ⟨x1, x2, x3, x4, x5, _⟩ := hfew.out w4 hb
            refine ⟨x3, x5, ?_, ?_, ?_⟩
            · rw [x4 1 (by decide), ← hB.1]
              rfl
            · rw [x4 2 (by decide), ← hB.2]
              rfl
            · rw [x4 4 (by decide)]
              rfl
          clear hF hcell a1 A1 k1 hs hI hI2 hRn2 hgl hG hK hph hA hB hpf hp he h0 hm hMe hrest hfew hrt hph2 htd hwt HA1 HK1
          generalize (cl cs n).rt = rt at *
          generalize cnt cs n = q at *
          rcases hoc with ⟨hc1, rfl, rfl, rfl⟩ | ⟨hc1, rfl, rfl, rfl⟩
          · subst hc1
            go_wp2_with (at_builtin; refine wpList_append_is _ rfl _ _ 28 rfl _ _ _ _ rfl rfl hr ?_)
            refine hC.mono ?_
            rintro e w4 ⟨rfl, hb⟩
            have hx := Lib.hid (hX.out w4 hb)
            obtain ⟨y1, y2, y3, y4, y5⟩ := hw5.out w4 hb
            clear hb hC hX hw5 hen c0 hfz hn0 d1 dz hr
            go_wp2
            go_ret2
            exact hx.out
          · have hc2 : ¬ cap - 1 = 0 := by omega
            go_wp2_with (at_builtin; refine wpList_append_is _ rfl _ _ 28 rfl _ _ _ _ rfl rfl hr ?_)
            refine hC.mono ?_
            rintro e w4 ⟨rfl, hb⟩
            have hx := Lib.hid (hX.out w4 hb)
            obtain ⟨y1, y2, y3, y4, y5⟩ := hw5.out w4 hb
            clear hb hC hX hw5 hen c0 hfz hn0 d1 dz hr
            go_wp2
            go_ret2
            exact hx.out
        · have hR2 := hF.trans (nextF_end f' cs n ns hA hB)
          have hend := end_all (h := ⟨cs, ns⟩) (n := n) hn
          have hX : Hid (∀ w4 w5, Below w3.heap.size w3 w4 → RoP (New S w.heap.size) r (endF ⟨cs, ns⟩ n) (.tuple #[]) w4 (.returned (.tuple #[])) w5 → NxQ S r h w w5 (phi (endF ⟨cs, ns⟩ n))) := by
            rintro w4 w5 hb ⟨_, q1, q2⟩
            have x2 := (hfew.out w4 hb).2.1
            have := hend.2.1
            exact ⟨f', _, rfl, hR2, hend.1 h0 hgl, by omega, by omega, q1.wide fun g a _ => a.elim id fun a => Or.inr (Nat.le_trans x2.size a), x2.then q2⟩
          have hE : Hid (∀ w4, Below w3.heap.size w3 w4 → Calls Try.prog 76 #[.pointer (some ⟨r, 0, none⟩), .int .i64 (n : Int)] w4 (RoP (New S w.heap.size) r (endF ⟨cs, ns⟩ n) (.tuple #[]) w4)) := fun w4 hb => rEnd_hp (New S w.heap.size) r ⟨cs, ns⟩ n w4 (hfew.out w4 hb).1 hgl hn h0 hph2
          have hM2 : Hid (phi (endF ⟨cs, ns⟩ n) < phi ⟨cs, n :: ns⟩) := by
            have := hend.2.1
            show _ < _
            omega
          have hw5 : Hid (∀ w4, Below w3.heap.size w3 w4 → w4.cell? ⟨r, 0, none⟩ = some (.slice (some ⟨g, 0, none⟩) cs.length capc) ∧ w4.cell? ⟨g, n * 5 + 1, none⟩ = some (.bool (cl cs n).wt) ∧ w4.cell? ⟨g, n * 5 + 2, none⟩ = some (.bool (cl cs n).td)) := fun w4 hb => by
            obtain ⟨x1, x2, x3, x4, x5, _⟩ := hfew.out w4 hb
            refine ⟨x3, ?_, ?_⟩
            · rw [x4 1 (by decide)]
              rfl
            · rw [x4 2 (by decide)]
              rfl
          clear hF hcell a1 A1 k1 hs hI hI2 hRn2 hgl hG hK hph hA hpf hp he h0 hR2 hend hrest hfew hrt hph2 htd hwt HA1 HK1
          generalize hhe : endF ⟨cs, ns⟩ n = he at *
          generalize cnt cs n = q at *
          by_cases hwt1 : (cl cs n).wt = true
          · have htd1 : (cl cs n).td = true := by
              cases e : (cl cs n).td
              · exact absurd ⟨hwt1, e⟩ hB
              · rfl
            rw [hwt1, htd1] at hw5
            clear hB hwt1 htd1 hhe
            rcases hoc with ⟨hc1, rfl, rfl, rfl⟩ | ⟨hc1, rfl, rfl, rfl⟩
            · subst hc1
              go_wp2_with (at_builtin; refine wpList_append_is _ rfl _ _ 28 rfl _ _ _ _ rfl rfl hr ?_)
              refine hC.mono ?_
              rintro e w4 ⟨rfl, hb⟩
              obtain ⟨y1, y3, y4⟩ := hw5.out w4 hb
              have HB := Lib.hid hb
              clear hb hC hw5 hen c0 hfz hn0 d1 dz hr
              go_wp2_with fail
              refine (hE.out _ HB.out).mono ?_
              intro e w5 hm3
              have he := hm3.1
              subst he
              have hX2 := Lib.hid (hX.out _ w5 HB.out hm3)
              clear hm3 hE hX
              go_wp2
              go_roundw
              case rel => exact ⟨_, hX2.out⟩
              case measure => exact hMe.out _ ⟨_, hM2.out, hX2.out⟩
            · have hc2 : ¬ cap - 1 = 0 := by omega
              go_wp2_with (at_builtin; refine wpList_append_is _ rfl _ _ 28 rfl _ _ _ _ rfl rfl hr ?_)
              refine hC.mono ?_
              rintro e w4 ⟨rfl, hb⟩
              obtain ⟨y1, y3, y4⟩ := hw5.out w4 hb
              have HB := Lib.hid hb
              clear hb hC hw5 hen c0 hfz hn0 d1 dz hr
              go_wp2_with fail
              refine (hE.out _ HB.out).mono ?_
              intro e w5 hm3
              have he := hm3.1
              subst he
              have hX2 := Lib.hid (hX.out _ w5 HB.out hm3)
              clear hm3 hE hX
              go_wp2
              go_roundw
              case rel => exact ⟨_, hX2.out⟩
              case measure => exact hMe.out _ ⟨_, hM2.out, hX2.out⟩
          · have hwt2 : (cl cs n).wt = false := by
              cases e : (cl cs n).wt
              · rfl
              · exact absurd e hwt1
            rw [hwt2] at hw5
            clear hB hwt1 hwt2 hhe
            rcases hoc with ⟨hc1, rfl, rfl, rfl⟩ | ⟨hc1, rfl, rfl, rfl⟩
            · subst hc1
              go_wp2_with (at_builtin; refine wpList_append_is _ rfl _ _ 28 rfl _ _ _ _ rfl rfl hr ?_)
              refine hC.mono ?_
              rintro e w4 ⟨rfl, hb⟩
              obtain ⟨y1, y3, y4⟩ := hw5.out w4 hb
              have HB := Lib.hid hb
              clear hb hC hw5 hen c0 hfz hn0 d1 dz hr
              go_wp2_with fail
              refine (hE.out _ HB.out).mono ?_
              intro e w5 hm3
              have he := hm3.1
              subst he
              have hX2 := Lib.hid (hX.out _ w5 HB.out hm3)
              clear hm3 hE hX
              go_wp2
              go_roundw
              case rel => exact ⟨_, hX2.out⟩
              case measure => exact hMe.out _ ⟨_, hM2.out, hX2.out⟩
            · have hc2 : ¬ cap - 1 = 0 := by omega
              go_wp2_with (at_builtin; refine wpList_append_is _ rfl _ _ 28 rfl _ _ _ _ rfl rfl hr ?_)
              refine hC.mono ?_
              rintro e w4 ⟨rfl, hb⟩
              obtain ⟨y1, y3, y4⟩ := hw5.out w4 hb
              have HB := Lib.hid hb
              clear hb hC hw5 hen c0 hfz hn0 d1 dz hr
              go_wp2_with fail
              refine (hE.out _ HB.out).mono ?_
              intro e w5 hm3
              have he := hm3.1
              subst he
              have hX2 := Lib.hid (hX.out _ w5 HB.out hm3)
              clear hm3 hE hX
              go_wp2
              go_roundw
              case rel => exact ⟨_, hX2.out⟩
              case measure => exact hMe.out _ ⟨_, hM2.out, hX2.out⟩

end Go.Proofs.Ytpedaompcjaahaa
