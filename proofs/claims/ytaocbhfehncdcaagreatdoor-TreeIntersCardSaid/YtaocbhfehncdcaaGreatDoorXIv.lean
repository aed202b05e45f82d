/-
  A text with interpolation, as package tree reads it: the parts of it, one after the other. Conditions: the variable strconv.ErrSyntax holds an error; texts of at most 20000 bytes.
-/
import Derived.Test.YtaocbhfehncdcaaGreatDoorXM26
import Derived.Deep.RegionLaw
import Derived.Deep.AppendLies
import Derived.BigRegion
namespace Go.Proofs.YtaocbhfehncdcaaGreatDoor
open Go.RowKit

theorem step_c1 {P : Program} {ops : Array Oper} {o : Oper} {a : Act} {w : World} {K : Act → World → Prop} {Q : Exit → Act → World → Prop} {E : Prop}
    (hg : o.guard = none) (f : Nat) (x : Operand) (ty : TypeId) (hop : o.op = Op.call { callee := Callee.value (Operand.func f), args := #[x], argTypes := #[ty] })
    (v : Value) (hv : a.eval x = v) (hcall : (callFunc f #[v]).run P w = .ok (.enter f #[v]) w) (post : Ending → World → Prop) (hc : Calls P f #[v] w post) (hK : ∀ e w', post e w' → ∃ u, e = .returned u ∧ K (a.put o.dst u) w') :
    if Region.wanted o (yielded ops a.tmps) = true then Oper.wp P o a w K Q else E := by
  have hw : Region.wanted o (yielded ops a.tmps) = true := by simp [Region.wanted, hg]
  rw [if_pos hw]
  have hrun : (execOp a.eval o).run P w = .ok (.enter f #[v]) w := by
    rw [← hv] at hcall ⊢
    simp only [Act.eval] at hcall ⊢
    simpa [execOp, hop, resolve, invoke, Result.andThen, Act.eval, Deferred.ofValue] using hcall
  unfold Oper.wp
  rw [hrun, Oper.upon_enter]
  refine hc.mono fun e w' h => ?_
  obtain ⟨u, rfl, hk⟩ := hK e w' h
  exact hk
theorem step_c2 {P : Program} {ops : Array Oper} {o : Oper} {a : Act} {w : World} {K : Act → World → Prop} {Q : Exit → Act → World → Prop} {E : Prop}
    (hg : o.guard = none) (f : Nat) (x y : Operand) (ty tz : TypeId) (hop : o.op = Op.call { callee := Callee.value (Operand.func f), args := #[x, y], argTypes := #[ty, tz] })
    (v z : Value) (hv : a.eval x = v) (hz : a.eval y = z) (hcall : (callFunc f #[v, z]).run P w = .ok (.enter f #[v, z]) w) (post : Ending → World → Prop) (hc : Calls P f #[v, z] w post) (hK : ∀ e w', post e w' → ∃ u, e = .returned u ∧ K (a.put o.dst u) w') :
    if Region.wanted o (yielded ops a.tmps) = true then Oper.wp P o a w K Q else E := by
  have hw : Region.wanted o (yielded ops a.tmps) = true := by simp [Region.wanted, hg]
  rw [if_pos hw]
  have hrun : (execOp a.eval o).run P w = .ok (.enter f #[v, z]) w := by
    rw [← hv, ← hz] at hcall ⊢
    simp only [Act.eval] at hcall ⊢
    simpa [execOp, hop, resolve, invoke, Result.andThen, Act.eval, Deferred.ofValue] using hcall
  unfold Oper.wp
  rw [hrun, Oper.upon_enter]
  refine hc.mono fun e w' h => ?_
  obtain ⟨u, rfl, hk⟩ := hK e w' h
  exact hk
theorem str_enter (v : Value) (w : World) : (callFunc 43 #[v]).run Tryz.prog w = .ok (.enter 43 #[v]) w := by kernel_rfl
theorem wt_enter (v z : Value) (w : World) : (callFunc 42 #[v, z]).run Tryz.prog w = .ok (.enter 42 #[v, z]) w := by kernel_rfl

/-- What is new of the rows of nodes stays. -/
def Nw (E : Nat) (w w' : World) : Prop := ∀ (g : Nat) (es : Array Value) (cur : Nat × Nat), E ≤ g → w.heap[g]? = some (.cells es 28 cur) → w'.heap[g]? = some (.cells es 28 cur)
theorem Nw.trans {E : Nat} {a b c : World} (h : Nw E a b) (k : Nw E b c) : Nw E a c := fun g es cur hE hg => k g es cur hE (h g es cur hE hg)
theorem Nw.of {E : Nat} {w w' : World} (h : Keep isNd w w') : Nw E w w' := fun g es cur _ hg => h g es _ cur rfl hg


theorem Nw.row {E : Nat} {w w' : World} {v : Value} (hE : ∀ g, v.ownBlock = some g → g < E) (hg : ∀ g, g < w.heap.size → some g ≠ v.ownBlock → w'.heap[g]? = w.heap[g]?) : Nw E w w' := fun g es cur h1 h2 => by
  refine (hg g (Array.getElem?_eq_some_iff.1 h2).1 fun e => ?_).trans h2
  have := hE g e.symm
  omega
theorem Nw.node {E X : Nat} {w w' : World} {v0 v1 v2 v3 v4 : Value} (h : Nw E w w') (hX : E ≤ X) (hn : NkAt X v0 v1 v2 v3 v4 w) : NkAt X v0 v1 v2 v3 v4 w' := h X _ _ hX hn
theorem nw_ns {E : Nat} {w w' : World} {l : List Nd} {v : Value} (h : NsAt (Ty E w) w l v) (hk : Nw E w w') : NsAt (Ty E w') w' l v := h.move fun g ⟨h1, es, cur, h3⟩ _ => by
  have h4 := hk g es cur h1 h3
  exact ⟨h4.trans h3.symm, h1, es, cur, h4⟩
/-- New rows are none of the blocks of a row of parts that a text was put behind. -/
theorem nw_fz {T E : Nat} {cd ws : World} {l : List Nd} {v v' L : Value} (h : NsAt (Ty E cd) cd l L) (hT : T ≤ E) (hE : ∀ g, v.ownBlock = some g → g < E) (hg : ∀ g, g < cd.heap.size → some g ≠ v.ownBlock → ws.heap[g]? = cd.heap[g]?) (hat : v'.ownBlock = v.ownBlock ∨ ∃ g, v'.ownBlock = some g ∧ cd.heap.size ≤ g) : NsAt (Fz T v' ws) ws l L := h.move fun g ⟨h1, es, cur, h3⟩ h4 => by
  have hne : some g ≠ v.ownBlock := fun e => by
    have := hE g e.symm
    omega
  have h5 := hg g h4 hne
  refine ⟨h5, Nat.le_trans hT h1, ?_, es, cur, h5.trans h3⟩
  rcases hat with h6 | ⟨g', h6, h7⟩
  · rw [h6]
    exact hne
  · rw [h6]
    intro e
    injection e with e
    omega
def InP (t : Nd) (w : World) (e : Ending) (w' : World) : Prop := ∃ v, e = .returned v ∧ Below w.heap.size w w' ∧ NdAt (fun g => w.heap.size ≤ g) w' t v
def strSz : Value → Nat
  | .string s => s.size
  | _ => 0

set_option maxRecDepth 100000 in
set_option maxHeartbeats 16000000 in
theorem inter_any (L : List UInt8) (hz : L.length ≤ 20000) (w : World) (hE : ErrAt w) : Calls Tryz.prog 27 #[.string (bs L)] w (InP (itN L) w) := by
  obtain ⟨i0, hi, hz0, hz1, hz2⟩ := info_parts infoR
  have q22 : ∀ (w : World) (a : Option Addr) (n c n' c' : Nat), (binOp .eql 26 (.slice a n c) (.slice none n' c')).run Tryz.prog w = .ok (.bool a.isNone) w := fun w a n c n' c' => Lib.run_eql_slice_nil w _ _ a n c n' c' Tryz.underlying26
  have HZ : Hid (L.length ≤ 20000) := hz
  have hs0 : (w.alloc zN).heap.size = w.heap.size + 1 := by simp
  have HRD : Hid (NkAt w.heap.size (.int .i64 0) (.string ⟨#[]⟩) (.string ⟨#[]⟩) (.int .i64 0) (.slice none 0 0) ((w.alloc zN).alloc (.cells #[.pointer none, .slice none 0 0] 54))) := (NkAt.zero w).below ((Below.refl _ _).alloc (Nat.le_refl _) _)
  have HBL : Hid (Bld (w.heap.size + 1) (w.heap.size + 1) [] ((w.alloc zN).alloc (.cells #[.pointer none, .slice none 0 0] 54))) := by
    have := Bld.fresh (w.heap.size + 1) (w.alloc zN) (by omega)
    rw [hs0] at this
    exact this
  have hBW : Below w.heap.size w ((w.alloc zN).alloc (.cells #[.pointer none, .slice none 0 0] 54)) := ((Below.refl _ _).alloc (Nat.le_refl _) _).alloc (by omega) _
  have HES := Lib.hid hE
  have HBW := Lib.hid hBW
  have HS1 : Hid (((w.alloc zN).alloc (.cells #[.pointer none, .slice none 0 0] 54)).heap.size = w.heap.size + 1 + 1) := by
    show _ = _
    simp
  have HIT : Hid (∀ ps tx, Gs L ps tx [] → (ps = [] → itN L = leafN 2 tx) ∧ (ps ≠ [] → itN L = .mk 3 ⟨#[]⟩ ⟨#[]⟩ 0 (flN ps tx))) := fun ps tx h => h.done
  clear hz hE hBW hs0
  unfold zN at HRD HBL HES HBW HS1
  generalize hIT : itN L = IT at *
  clear hIT
  go_enter Tryz.func27, Tryz.ntmps27
  go_wp2_with fail
  generalize (w.alloc _).alloc _ = W1 at *
  generalize hRR : w.heap.size = R at *
  have HRR := Lib.hid hRR
  clear hRR
  go_loopw [0, 3] (fun rv lv wr => ∃ (ps : List Nd) (tx r : List UInt8), rv = .string (bs r) ∧ Hid (Gs L ps tx r) ∧ Hid (Rws (R + 1) lv ps wr) ∧ Hid (Bld (R + 1) (R + 1) tx wr) ∧ Hid (Below (R + 1) W1 wr)) (fun rv _ _ => strSz rv)
  case atStart => exact ⟨[], [], L, rfl, Gs.start L, Rws.empty _ _, HBL, Below.refl _ _⟩
  case round =>
    obtain ⟨ps, tx, r, rfl, hgs, hrw, hbd, hbl⟩ := hrel
    have hz := HZ.out
    have g1 := hgs.out.btx
    have g2 := hgs.out.bps
    have hrl : r.length ≤ 20000 := by omega
    have htl : tx.length ≤ 80000 := by omega
    have hpl : ps.length ≤ 40000 := by omega
    have hfl := flN_len ps tx
    have HSR : Hid (R + 1 < wr.heap.size) := hbd.out.lt
    have HBR : Hid (Below R w wr) := HBW.out.trans (hbl.out.mono (by omega))
    have HEW : Hid (ErrAt wr) := HES.out.later (by rw [HRR.out]; exact HBR.out)
    obtain ⟨la, lc, rfl, hln⟩ := hrw.out.form
    have HLE : Hid (∀ g, (Value.slice la ps.length lc).ownBlock = some g → g < wr.heap.size) := fun g h => (hrw.out.lt h).2
    have HW1 := Lib.hid hbl.out.size
    by_cases hr : r = []
    · subst hr
      have he0 : (bs ([] : List UInt8)) = ⟨#[]⟩ := rfl
      rw [he0]
      have HRW2 : Hid (NkAt R (.int .i64 0) (.string ⟨#[]⟩) (.string ⟨#[]⟩) (.int .i64 0) (.slice none 0 0) wr) := (hbl.out.block R (by omega)).trans HRD.out
      by_cases hps : ps = []
      · have hi := (HIT.out _ _ hgs.out).1 hps
        obtain ⟨ha, hc⟩ := hln.1 hps
        subst ha hc hps
        have hla : (none : Option Addr).isNone = true := rfl
        have HFL : Hid (∀ W, NdAt (fun g => w.heap.size ≤ g) W IT (.agg #[.int .i64 2, .string (bs tx), .string ⟨#[]⟩, .int .i64 0, .slice none 0 0])) := fun W => by
          rw [hi]
          exact .mk .none
        clear hi hgs hz g1 g2 hfl HIT
        have HS := Lib.hid (String_any (R + 1) (R + 1) tx wr hbd.out (by have := HSR.out; omega))
        generalize bs tx = s at *
        go_wp2_with fail
        refine HS.out.mono ?_
        rintro e W2 ⟨rfl, hk⟩
        have HT2 : Hid (NkAt R (.int .i64 0) (.string ⟨#[]⟩) (.string ⟨#[]⟩) (.int .i64 0) (.slice none 0 0) W2) := (hk.2.1.block R (by omega)).trans HRW2.out
        have HB2 : Hid (Below R w W2) := HBR.out.trans (hk.2.1.mono (by omega))
        clear hk
        obtain ⟨u0, u1, u2, u3, u4⟩ := HT2.out.cells
        have z0 := HT2.out.frozen 0
        have z1 := HT2.out.frozen 1
        have z2 := HT2.out.frozen 2
        have z3 := HT2.out.frozen 3
        have z4 := HT2.out.frozen 4
        go_wp2
        have HR := HT2.out.put (.int .i64 2) (.string s) (.string ⟨#[]⟩) (.int .i64 0) (.slice none 0 0)
        obtain ⟨r0, r1, r2, r3, r4⟩ := HR.cells
        change bodyPost _ _ _ _ _ (ndW W2 R (.int .i64 2) (.string s) (.string ⟨#[]⟩) (.int .i64 0) (.slice none 0 0))
        refine bodyPost_ret (v := .agg #[.int .i64 2, .string s, .string ⟨#[]⟩, .int .i64 0, .slice none 0 0]) ?_ rfl ?_
        · generalize ndW W2 R (.int .i64 2) (.string s) (.string ⟨#[]⟩) (.int .i64 0) (.slice none 0 0) = WZ at *
          simp [results, Tryz.results27, go_sem, r0, r1, r2, r3, r4]
        · exact ⟨_, rfl, by rw [HRR.out]; exact HB2.out.trans (ndW_below _ _ _ _ _ _ _), HFL.out _⟩
      · have hi := (HIT.out _ _ hgs.out).2 hps
        have hla : la.isNone = false := by
          cases la with
          | none => exact absurd rfl (hln.2 hps)
          | some a => rfl
        have HS := Lib.hid (String_any (R + 1) (R + 1) tx wr hbd.out (by have := HSR.out; omega))
        have HWT := Lib.hid (fun W h1 h2 => withText_any (R + 1) (.slice la ps.length lc) ps tx W h1 h2 (by omega))
        have HFL : Hid (∀ (W : World) (L : Value), NsAt (fun g => w.heap.size ≤ g) W (flN ps tx) L → NdAt (fun g => w.heap.size ≤ g) W IT (.agg #[.int .i64 3, .string ⟨#[]⟩, .string ⟨#[]⟩, .int .i64 0, L])) := fun W L h => by
          rw [hi]
          exact .mk h
        clear hi hgs hz g1 g2 hfl HIT hps
        generalize bs tx = s at *
        go_wp2_with fail
        refine HS.out.mono ?_
        rintro e W2 ⟨rfl, hk⟩
        have hrw2 := hrw.out.stay (keep_built hbd.out hk)
        have HT2 : Hid (NkAt R (.int .i64 0) (.string ⟨#[]⟩) (.string ⟨#[]⟩) (.int .i64 0) (.slice none 0 0) W2) := (hk.2.1.block R (by omega)).trans HRW2.out
        have HB2 : Hid (Below R w W2) := HBR.out.trans (hk.2.1.mono (by omega))
        have HC := Lib.hid (HWT.out W2 hrw2 (by have := hk.2.1.size; have := HSR.out; omega))
        clear hk hrw2
        go_wp2_with fail
        refine HC.out.mono ?_
        rintro e W3 ⟨v', rfl, hrw3, hb3, hg3, hat3⟩
        have HT3 : Hid (NkAt R (.int .i64 0) (.string ⟨#[]⟩) (.string ⟨#[]⟩) (.int .i64 0) (.slice none 0 0) W3) := (hb3.block R (by omega)).trans HT2.out
        have HB3 : Hid (Below R w W3) := HB2.out.trans (hb3.mono (by omega))
        obtain ⟨va, vc, rfl, _⟩ := hrw3.form
        have HNS := Lib.hid hrw3.ns
        clear hb3 hg3 hat3 hrw3
        generalize (flN ps tx).length = n at *
        obtain ⟨u0, u1, u2, u3, u4⟩ := HT3.out.cells
        have z0 := HT3.out.frozen 0
        have z1 := HT3.out.frozen 1
        have z2 := HT3.out.frozen 2
        have z3 := HT3.out.frozen 3
        have z4 := HT3.out.frozen 4
        go_wp2
        have HR := HT3.out.put (.int .i64 3) (.string ⟨#[]⟩) (.string ⟨#[]⟩) (.int .i64 0) (.slice va n vc)
        obtain ⟨r0, r1, r2, r3, r4⟩ := HR.cells
        change bodyPost _ _ _ _ _ (ndW W3 R (.int .i64 3) (.string ⟨#[]⟩) (.string ⟨#[]⟩) (.int .i64 0) (.slice va n vc))
        refine bodyPost_ret (v := .agg #[.int .i64 3, .string ⟨#[]⟩, .string ⟨#[]⟩, .int .i64 0, .slice va n vc]) ?_ rfl ?_
        · generalize ndW W3 R (.int .i64 3) (.string ⟨#[]⟩) (.string ⟨#[]⟩) (.int .i64 0) (.slice va n vc) = WZ at *
          simp [results, Tryz.results27, go_sem, r0, r1, r2, r3, r4]
        · exact ⟨_, rfl, by rw [HRR.out]; exact HB3.out.trans (ndW_below _ _ _ _ _ _ _), HFL.out _ _ (HNS.out.move fun g h1 h2 => ⟨ndW_block _ _ _ _ _ _ _ _ (by have := h1.1; omega), by have := h1.1; have := HRR.out; omega⟩)⟩
    · have he := bs_some hr
      have hrs : (bs r).size = r.length := bs_size r
      have HRS0 := Lib.hid hrs
      have HV := Lib.hid (fun w => varAt_any r (by omega) hr w)
      cases hv : vrN r with
      | none =>
        obtain ⟨hg', hlt'⟩ := hgs.out.text hr hv
        have HG := Lib.hid hg'
        have HLT := Lib.hid hlt'
        have HPc := Lib.hid (fun w hE => pieceAt_any r (by omega) hr w hE)
        have hple := pcN_le hr
        have hpln := pcN_len r
        have HSUF := Lib.hid (bs_suf r (pcN r).2 hple)
        have HBX := Lib.hid (bs_list (pcN r).1)
        have hbsz : (bs (pcN r).1).size = (pcN r).1.length := bs_size _
        have HSD : Hid ((bs (r.drop (pcN r).2)).size = (r.drop (pcN r).2).length) := bs_size _
        have x0 : (0 : Int) ≤ ((pcN r).2 : Int) := by omega
        have x1 : ((pcN r).2 : Int) ≤ ((bs r).size : Int) := by omega
        have x2 : (pcN r).2 ≤ (bs r).size := by omega
        rw [hv] at HV
        unfold VoP at HV
        unfold PcP at HPc
        dsimp only at HV HPc
        clear hgs hg' hlt' hv hz g1 g2 hple hrs
        generalize r.drop (pcN r).2 = r' at *
        generalize (pcN r).2 = n at *
        generalize (pcN r).1 = px at *
        go_wp2_with fail
        refine (HV.out _).mono ?_
        rintro e W2 ⟨rfl, hb2⟩
        have HBA : Hid (Below wr.heap.size wr (W2.alloc (.cells #[.int .i64 0, .string ⟨#[]⟩, .string ⟨#[]⟩, .int .i64 0, .slice none 0 0] 28))) := hb2.alloc hb2.size _
        clear hb2
        go_wp2_with fail
        generalize W2.alloc _ = W3 at *
        refine (HPc.out _ (HEW.out.later HBA.out)).mono ?_
        rintro e W4 ⟨rfl, hb4⟩
        have HB4 : Hid (Below wr.heap.size wr W4) := HBA.out.trans (hb4.mono HBA.out.size)
        clear hb4
        have hs4 := HB4.out.size
        have hsr := HSR.out
        have HW := Lib.hid (WriteString_any (R + 1) (R + 1) tx (bs px) W4 (hbd.out.stay (keep_below _ HB4.out)) (by omega) (by omega))
        go_wp2_with fail
        refine HW.out.mono ?_
        rintro e W5 ⟨rfl, hk⟩
        rw [HBX.out] at hk
        have HRW5 : Hid (Rws (R + 1) (.slice la ps.length lc) ps W5) := (hrw.out.stay (keep_below _ HB4.out)).stay (keep_built (hbd.out.stay (keep_below _ HB4.out)) hk)
        have HBD5 : Hid (Bld (R + 1) (R + 1) (tx ++ px) W5) := hk.1
        have HBL5 : Hid (Below (R + 1) W1 W5) := (hbl.out.trans (HB4.out.mono (by omega))).trans hk.2.1
        clear hk HW hs4
        go_wp2
        rw [HSUF.out]
        go_roundw
        case rel => exact ⟨ps, tx ++ px, r', rfl, HG, HRW5, HBD5, HBL5⟩
        case measure =>
          show (bs r').size < (bs r).size
          have := HSD.out
          have := HRS0.out
          have := HLT.out
          omega
      | some x =>
        obtain ⟨hg', hlt'⟩ := hgs.out.var hv
        have HG := Lib.hid hg'
        have HLT := Lib.hid hlt'
        have hxle := vrN_le hv
        have hxp := vrN_pos hv
        rw [hv] at HV
        unfold VoP at HV
        dsimp only at HV
        obtain ⟨xn, xk⟩ := x
        dsimp only at HG HLT hxle hxp
        have HSUF := Lib.hid (bs_suf r xk hxle)
        have HSD : Hid ((bs (r.drop xk)).size = (r.drop xk).length) := bs_size _
        have x0 : (0 : Int) ≤ (xk : Int) := by omega
        have x1 : (xk : Int) ≤ ((bs r).size : Int) := by omega
        have x2 : xk ≤ (bs r).size := by omega
        have y0 : ((xk : Int) == 0) = false := by rw [beq_eq_false_iff_ne]; omega
        have HPL : Hid ((flN ps tx).length ≤ 40001) := by
          show _ ≤ _
          omega
        clear hgs hg' hlt' hv hz g1 g2 hxle hxp hfl HIT hrs
        generalize r.drop xk = r' at *
        go_wp2_with fail
        refine (HV.out _).mono ?_
        rintro e W2 ⟨o1, n1, s1, t1, la1, lk1, lc1, rfl, hb2, hnd⟩
        cases hnd with
        | @mk _ _ _ _ m _ hns =>
          have HX : Hid (NkAt W2.heap.size (.int .i64 o1) (.string s1) (.string t1) (.int .i64 n1) (.slice la1 lk1 lc1) (W2.alloc (.cells #[.int .i64 o1, .string s1, .string t1, .int .i64 n1, .slice la1 lk1 lc1] 28))) := NkAt.new _ _ _ _ _ _
          have HBA : Hid (Below wr.heap.size wr (W2.alloc (.cells #[.int .i64 o1, .string s1, .string t1, .int .i64 n1, .slice la1 lk1 lc1] 28))) := hb2.alloc hb2.size _
          have HN3 : Hid (NsAt (Ty wr.heap.size (W2.alloc (.cells #[.int .i64 o1, .string s1, .string t1, .int .i64 n1, .slice la1 lk1 lc1] 28))) (W2.alloc (.cells #[.int .i64 o1, .string s1, .string t1, .int .i64 n1, .slice la1 lk1 lc1] 28)) m (.slice la1 lk1 lc1)) := nw_ns hns (Nw.of (keep_alloc _ _ _))
          have HXE : Hid (wr.heap.size ≤ W2.heap.size) := hb2.size
          clear hb2 hns
          go_wp2_with fail
          generalize W2.alloc _ = W3 at *
          generalize W2.heap.size = X at *
          have hrw3 := hrw.out.stay (keep_below _ HBA.out)
          have hbd3 := hbd.out.stay (keep_below _ HBA.out)
          have HB3 : Hid (Below (R + 1) W1 W3) := hbl.out.trans (HBA.out.mono (by have := HSR.out; omega))
          have HT3 : Hid (R + 1 ≤ W3.heap.size) := by
            have := HBA.out.size
            have := HSR.out
            show _ ≤ _
            omega
          have HE3 : Hid (wr.heap.size ≤ W3.heap.size) := HBA.out.size
          have HRW3 := Lib.hid hrw3
          have HBD3 := Lib.hid hbd3
          have HTE : Hid (R + 1 ≤ wr.heap.size) := by
            have := HSR.out
            show _ ≤ _
            omega
          clear hrw3 hbd3
          obtain ⟨k0, k1, k2, k3, k4⟩ := HX.out.cells
          go_region_law (first
            | (refine step_c1 rfl 43 (.tmp 4) 54 rfl (.pointer (some ⟨R + 1, 0, none⟩)) (by simp [Act.eval, Act.put]) (str_enter _ _) _ (String_any (R + 1) (R + 1) tx _ (by first | exact HBD3.out | exact HBD3.out.alloc _) (by first | exact HT3.out | exact Nat.le_trans HT3.out (by simp))) ?_
               rintro e9 wd ⟨rfl, hk9⟩
               refine ⟨_, rfl, ?_⟩
               have hkn := keep_built (by first | exact HBD3.out | exact HBD3.out.alloc _) hk9
               have HNA := Lib.hid hkn
               have hka : Keep isNd W3 wd := by first | exact hkn | exact (keep_alloc _ W3 _).trans hkn
               have HBA9 : Hid (Below (R + 1) W3 wd) := by first | exact (Below.drew (Below.refl _ _)).trans hk9.2.1 | exact ((Below.drew (Below.refl _ _)).alloc HT3.out _).trans hk9.2.1
               have HBDA : Hid (Bld (R + 1) (R + 1) tx wd) := hk9.1
               have HRWA := Lib.hid (HRW3.out.stay hka)
               have HNSA := Lib.hid (nw_ns HN3.out (Nw.of hka))
               have HXA := Lib.hid ((Nw.of hka).node HXE.out HX.out)
               have HTA : Hid (R + 1 ≤ wd.heap.size) := Nat.le_trans HT3.out HBA9.out.size
               have HEA : Hid (wr.heap.size ≤ wd.heap.size) := Nat.le_trans HE3.out HBA9.out.size
               obtain ⟨k0, k1, k2, k3, k4⟩ := HXA.out.cells
               clear hk9 hkn hka)
            | (refine step_c2 rfl 42 (.tmp 28) (.tmp 29) 26 9 rfl (.slice la ps.length lc) (.string (bs tx)) (by simp [Act.eval, Act.put]) (by simp [Act.eval, Act.put]) (wt_enter _ _ _) _ (withText_any (R + 1) (.slice la ps.length lc) ps tx _ (by first | exact HRWA.out | exact HRWA.out.stay (keep_alloc _ _ _)) (by first | exact HTA.out | exact Nat.le_trans HTA.out (by simp)) (by omega)) ?_
               rintro e9 ws ⟨v', rfl, hrws, hbs, hgs9, hat9⟩
               refine ⟨_, rfl, ?_⟩
               have hnb := Nw.row (E := wr.heap.size) HLE.out hgs9
               have HNB := Lib.hid hnb
               have HBB : Hid (Below (R + 1) wd ws) := by first | exact hbs | exact ((Below.refl _ _).alloc HTA.out _).trans hbs
               have HFZ := Lib.hid (nw_fz (by first | exact HNSA.out | exact nw_ns HNSA.out (Nw.of (keep_alloc _ _ _))) HTE.out HLE.out hgs9 hat9)
               have HBDB := Lib.hid (Bld.stay (by first | exact HBDA.out | exact HBDA.out.alloc _) (keep_grown (by first | exact HRWA.out | exact HRWA.out.stay (keep_alloc _ _ _)) hgs9))
               have HXB := Lib.hid (hnb.node HXE.out (by first | exact HXA.out | exact (Nw.of (keep_alloc _ _ _)).node HXE.out HXA.out))
               have HSB : Hid (R + 1 ≤ ws.heap.size) := Nat.le_trans HTA.out HBB.out.size
               have HEB : Hid (wr.heap.size ≤ ws.heap.size) := Nat.le_trans HEA.out HBB.out.size
               have HRB := Lib.hid hrws
               obtain ⟨xs', hown', hnc'⟩ := hrws.ex
               have HOWN' := Lib.hid hown'
               have HNC' := Lib.hid hnc'
               obtain ⟨k0, k1, k2, k3, k4⟩ := HXB.out.cells
               clear hrws hbs hgs9 hat9 hnb hown' hnc')
            | (first
               | refine step_append_lies _ rfl (.tmp 30) (.tmp 32) 26 rfl (R + 1) 28 i0 _ 5 72 (by kernel_rfl) hi hz0 hz1 hz2 rfl (by decide) v' (flN ps tx).length xs' (by simp [Act.eval, Act.put]) (by first | exact HOWN'.out | exact HOWN'.out.alloc _) ⟨W3.heap.size, 0, none⟩ 1 1 [.int .i64 o1, .string s1, .string t1, .int .i64 n1, .slice la1 lk1 lc1] (by simp [Act.eval, Act.put]) rfl (World.news_of_block (HNB.out _ _ _ HE3.out (HNA.out _ _ _ _ rfl (Go.MapKept.heap_alloc _ _).1))) (cell5 rfl rfl rfl rfl) (by decide) (by have := HPL.out; unfold maxLen; omega) (by have := HPL.out; omega) (by first | exact HSB.out | exact Nat.le_trans HSB.out (by simp)) _ rfl ?_
               | refine step_append_lies _ rfl (.tmp 30) (.tmp 32) 26 rfl (R + 1) 28 i0 _ 5 72 (by kernel_rfl) hi hz0 hz1 hz2 rfl (by decide) v' (flN ps tx).length xs' (by simp [Act.eval, Act.put]) (by first | exact HOWN'.out | exact HOWN'.out.alloc _) ⟨wd.heap.size, 0, none⟩ 1 1 [.int .i64 o1, .string s1, .string t1, .int .i64 n1, .slice la1 lk1 lc1] (by simp [Act.eval, Act.put]) rfl (World.news_of_block (HNB.out _ _ _ HEA.out (Go.MapKept.heap_alloc _ _).1)) (cell5 rfl rfl rfl rfl) (by decide) (by have := HPL.out; unfold maxLen; omega) (by have := HPL.out; omega) (by first | exact HSB.out | exact Nat.le_trans HSB.out (by simp)) _ rfl ?_
               | refine step_append_lies _ rfl (.tmp 30) (.tmp 32) 26 rfl (R + 1) 28 i0 _ 5 72 (by kernel_rfl) hi hz0 hz1 hz2 rfl (by decide) v' (flN ps tx).length xs' (by simp [Act.eval, Act.put]) (by first | exact HOWN'.out | exact HOWN'.out.alloc _) ⟨ws.heap.size, 0, none⟩ 1 1 [.int .i64 o1, .string s1, .string t1, .int .i64 n1, .slice la1 lk1 lc1] (by simp [Act.eval, Act.put]) rfl (World.news_of_block (Go.MapKept.heap_alloc _ _).1) (cell5 rfl rfl rfl rfl) (by decide) (by have := HPL.out; unfold maxLen; omega) (by have := HPL.out; omega) (by first | exact HSB.out | exact Nat.le_trans HSB.out (by simp)) _ rfl ?_
               intro g6 cap6 w4 ho6 hg6 hG6 hlt6
               have HO6 : Hid (Rws (R + 1) (.slice (some ⟨g6, 0, none⟩) ((flN ps tx).length + 1) cap6) (flN ps tx ++ [.mk o1 s1 t1 n1 m]) w4) := by first | exact rws_put HOWN'.out.1 HNC'.out HFZ.out (fun g h1 h2 => hg6.block g h1 h2) (hG6.imp (fun h => h.symm) (fun h => congrArg some h)) (Nat.le_refl _) ho6 | exact rws_put HOWN'.out.1 (HNC'.out.move (fz_keep (keep_alloc _ _ _))) (HFZ.out.move (fz_keep (keep_alloc _ _ _))) (fun g h1 h2 => hg6.block g h1 h2) (hG6.imp (fun h => h.symm) (fun h => congrArg some h)) (Nat.le_refl _) ho6
               have HB6 : Hid (Below (R + 1) ws w4) := by first | exact (Below.refl _ _).grown hg6 HSB.out fun g hg => (HOWN'.out.lt g hg).1 | exact ((Below.refl _ _).alloc HSB.out _).grown hg6 (Nat.le_trans HSB.out (by simp)) fun g hg => (HOWN'.out.lt g hg).1
               have HD6 : Hid (Bld (R + 1) (R + 1) tx w4) := by first | exact HBDB.out.stay (keep_grown HRB.out fun g h1 h2 => hg6.block g h1 h2) | exact (HBDB.out.alloc _).stay (keep_grown (HRB.out.stay (keep_alloc _ _ _)) fun g h1 h2 => hg6.block g h1 h2)
               clear ho6 hg6 hG6 hlt6))
          all_goals (
            have HB9 : Hid (Below (R + 1) W1 w4) := ((HB3.out.trans HBA9.out).trans HBB.out).trans HB6.out
            have HRS := Lib.hid (reset_any (R + 1) (R + 1) tx w4 HD6.out)
            clear HNA HBA9 HBDA HRWA HNSA HXA HTA HEA HNB HBB HFZ HBDB HXB HSB HEB HRB HOWN' HNC' HB6 k0 k1 k2 k3 k4
            go_wp2_with fail
            refine HRS.out.mono ?_
            rintro e W7 ⟨rfl, hk⟩
            have HRW7 := Lib.hid (HO6.out.stay (keep_built HD6.out hk))
            have HBD7 : Hid (Bld (R + 1) (R + 1) [] W7) := hk.1
            have HBL7 : Hid (Below (R + 1) W1 W7) := HB9.out.trans hk.2.1
            clear hk HRS HO6 HD6 HB9
            go_wp2
            rw [HSUF.out]
            go_roundw
            case rel => exact ⟨_, [], r', rfl, HG, HRW7, HBD7, HBL7⟩
            case measure =>
              show (bs r').size < (bs r).size
              have := HSD.out
              have := HRS0.out
              have := HLT.out
              omega)

end Go.Proofs.YtaocbhfehncdcaaGreatDoor
