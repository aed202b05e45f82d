/-
  Elements, as package tree reads them in texts. Conditions: texts of at most 100000 bytes. Variables, as package tree reads them in texts. Conditions: texts of at most 100000 bytes. Rows of trees and texts that grow: what stays of them where blocks of other types change; one more tree behind a row. Conditions: none.
-/
import Derived.Test.YtaocbhfehncdcaaGreatDoorXM24
import Derived.Maps.AppendAt
namespace Go.Proofs.YtaocbhfehncdcaaGreatDoor
open Go.RowKit

/-- New blocks that are rows of nodes. -/
def Ty (E : Nat) (w : World) : Nat → Prop := fun g => E ≤ g ∧ ∃ es cur, w.heap[g]? = some (.cells es 28 cur)
theorem NdAt.typed {E F : Nat} {w w' : World} {t : Nd} {v : Value} (h : NdAt (Ty E w) w t v) (hF : F ≤ E) (hb : ∀ g, E ≤ g → g < w.heap.size → w'.heap[g]? = w.heap[g]?) : NdAt (Ty F w') w' t v := h.move fun g h1 h2 => by
  have := hb g h1.1 h2
  obtain ⟨h3, es, cur, h4⟩ := h1
  exact ⟨this, Nat.le_trans hF h3, es, cur, this.trans h4⟩
def NdT (t : Nd) (w : World) (e : Ending) (w' : World) : Prop := ∃ v, e = .returned v ∧ Below w.heap.size w w' ∧ NdAt (Ty w.heap.size w') w' t v
set_option maxRecDepth 100000 in
set_option maxHeartbeats 4000000 in
theorem pairT_any (op : Int) (a b : Nd) (va vb : Value) (w : World) (ha : NdAt (fun _ => False) w a va) (hb : NdAt (fun _ => False) w b vb) :
    Calls Tryz.prog 93 #[.int .i64 op, va, vb] w (NdT (.mk op ⟨#[]⟩ ⟨#[]⟩ 0 [a, b]) w) := by
  cases ha with
  | @mk o1 s1 t1 n1 l1 L1 ha =>
    cases hb with
    | @mk o2 s2 t2 n2 l2 L2 hb =>
      go_enter Tryz.func93, Tryz.ntmps93
      go_wp2
      refine bodyPost_ret (v := .agg #[.int .i64 op, .string ⟨#[]⟩, .string ⟨#[]⟩, .int .i64 0, .slice (some ⟨w.heap.size + 1 + 1 + 1, 0, none⟩) 2 2]) (by simp [results, Tryz.results93, go_sem]) rfl ?_
      generalize hW : World.alloc _ (Obj.cells #[.int .i64 o1, .string s1, .string t1, .int .i64 n1, L1, .int .i64 o2, .string s2, .string t2, .int .i64 n2, L2] 28) = W
      have hbl : Below w.heap.size w W := by
        rw [← hW]
        exact ((((Below.refl _ _).alloc (Nat.le_refl _) _).alloc (by simp) _).alloc (by simp; omega) _).alloc (by simp; omega) _
      have hl := last_at (n := w.heap.size + 1 + 1 + 1) hW.symm (by simp)
      exact ⟨_, rfl, hbl, .mk (.some ⟨by omega, _, _, hl⟩ hl (.cons (ha.move fun g h => h.elim) (.cons (hb.move fun g h => h.elim) .nil)) rfl (by decide))⟩
/-- A node and how many bytes it takes: the node's rows are new. -/
def NvP (x : Nd × Nat) (w : World) (e : Ending) (w' : World) : Prop :=
  ∃ (o n : Int) (s t : ByteArray) (a : Option Addr) (k c : Nat), e = .returned (.tuple #[.agg #[.int .i64 o, .string s, .string t, .int .i64 n, .slice a k c], .int .i64 x.2]) ∧ Below w.heap.size w w' ∧ NdAt (Ty w.heap.size w') w' x.1 (.agg #[.int .i64 o, .string s, .string t, .int .i64 n, .slice a k c])
def VoP (o : Option (Nd × Nat)) (w : World) (e : Ending) (w' : World) : Prop :=
  match o with
  | some x => NvP x w e w'
  | none => e = .returned (.tuple #[.agg #[.int .i64 0, .string ⟨#[]⟩, .string ⟨#[]⟩, .int .i64 0, .slice none 0 0], .int .i64 0]) ∧ Below w.heap.size w w'
/-- What a function leaves that lays a node into its result's block. -/
theorem nv_ret {x : Nd × Nat} {w W : World} {T : Nat} {S : Nat → Prop} {o n : Int} {s t : ByteArray} {a : Option Addr} {k c : Nat} (hT : w.heap.size = T) (hB : Below T w W) (hN : NdAt S W x.1 (.agg #[.int .i64 o, .string s, .string t, .int .i64 n, .slice a k c])) (hS : ∀ g, S g → T < g ∧ ∃ es cur, W.heap[g]? = some (.cells es 28 cur)) (m : Int) (hm : m = (x.2 : Int)) :
    NvP x w (.returned (.tuple #[.agg #[.int .i64 o, .string s, .string t, .int .i64 n, .slice a k c], .int .i64 m])) (ndW W T (.int .i64 o) (.string s) (.string t) (.int .i64 n) (.slice a k c)) := by
  subst hm hT
  exact ⟨o, n, s, t, a, k, c, rfl, hB.trans (ndW_below _ _ _ _ _ _ _), hN.move fun g h1 h2 => by
    obtain ⟨h3, es, cur, h4⟩ := hS g h1
    have h5 := ndW_block W w.heap.size (.int .i64 o) (.string s) (.string t) (.int .i64 n) (.slice a k c) g (by omega)
    exact ⟨h5, Nat.le_of_lt h3, es, cur, h5.trans h4⟩⟩
theorem ty_gt {T E g : Nat} {W : World} (h : Ty E W g) (hG : T < E) : T < g ∧ ∃ es cur, W.heap[g]? = some (.cells es 28 cur) := ⟨Nat.lt_of_lt_of_le hG h.1, h.2⟩
theorem leafAt (op : Int) (s : List UInt8) (w : World) : NdAt (fun _ => False) w (leafN op s) (.agg #[.int .i64 op, .string (bs s), .string ⟨#[]⟩, .int .i64 0, .slice none 0 0]) := .mk .none
theorem plN_leaf {l : List UInt8} {x : Nd × Nat} (h : plN l = some x) : ∃ (o v : Int) (s : List UInt8), x.1 = .mk o (bs s) ⟨#[]⟩ v [] ∧ 0 < x.2 := by
  unfold plN at h
  split at h
  · split at h
    · unfold plI at h
      split at h
      · split at h
        · injection h with h
          rw [← h]
          exact ⟨5, 0, _, rfl, Nat.succ_pos _⟩
        · cases h
      · split at h
        · injection h with h
          rw [← h]
          exact ⟨1, _, [], rfl, Nat.succ_pos _⟩
        · cases h
    · cases h
  · cases h
theorem nd_form {S : Nat → Prop} {w : World} {t : Nd} {v : Value} (h : NdAt S w t v) : ∃ (o : Int) (s u : ByteArray) (n : Int) (L : Value), v = .agg #[.int .i64 o, .string s, .string u, .int .i64 n, L] := by
  cases h with
  | mk h => exact ⟨_, _, _, _, _, rfl⟩
theorem nd_slice {S : Nat → Prop} {w : World} {t : Nd} {o n : Int} {s u : ByteArray} {L : Value} (h : NdAt S w t (.agg #[.int .i64 o, .string s, .string u, .int .i64 n, L])) : ∃ a k c, L = .slice a k c := by
  cases h with
  | mk h => exact h.val
theorem plN_size {l : List UInt8} {x : Nd × Nat} (hz : l.length ≤ 100000) (h : plN l = some x) : x.2 ≤ 100002 := by
  unfold plN at h
  split at h
  · rename_i b r
    simp only [List.length_cons] at hz
    split at h
    · unfold plI at h
      split at h
      · split at h
        · injection h with h
          rw [← h]
          have := wd_le (r.drop 1)
          rw [List.length_drop] at this
          show wd (r.drop 1) + 3 ≤ _
          omega
        · cases h
      · split at h
        · injection h with h
          rw [← h]
          have := takeWhile_le (p := dgB) r
          show (r.takeWhile dgB).length + 2 ≤ _
          omega
        · cases h
    · cases h
  · cases h
set_option maxRecDepth 100000 in
set_option maxHeartbeats 4000000 in
theorem elementAt_any (d l : List UInt8) (n : Nat) (hz : l.length ≤ 100000) (hn : n ≤ l.length) (w : World) : Calls Tryz.prog 62 #[.string (bs d), .string (bs l), .int .i64 n] w (NvP (elN d n (l.drop n)) w) := by
  have hrz : (l.drop n).length ≤ 100000 := by rw [List.length_drop]; omega
  have hsuf := bs_suf l n hn
  have hsz : (bs l).size = l.length := bs_size l
  have x0 : (0 : Int) ≤ (n : Int) := by omega
  have x1 : (n : Int) ≤ ((bs l).size : Int) := by omega
  have x2 : n ≤ (bs l).size := by omega
  have H1 : Hid (∀ w, Calls Tryz.prog 91 #[.string ((bs l).extract n (bs l).size)] w (BrP (brN (l.drop n)) w)) := fun w => by
    rw [hsuf]
    exact tbr_any _ hrz w
  have H2 : Hid (∀ w, Calls Tryz.prog 94 #[.string ((bs l).extract n (bs l).size)] w (PlP (plN (l.drop n)) w)) := fun w => by
    rw [hsuf]
    exact placeAt_any _ hrz w
  have HP := Lib.hid (fun (op : Int) (a b : Nd) (va vb : Value) (w : World) (ha : NdAt (fun _ => False) w a va) (hb : NdAt (fun _ => False) w b vb) => pairT_any op a b va vb w ha hb)
  cases hb0 : brN (l.drop n) with
  | some x =>
    obtain ⟨kk, m⟩ := x
    have hpos : 0 < m := brN_pos hb0
    have y0 : (0 : Int) < (m : Int) := by omega
    have hbn : m ≤ 100002 := by
      unfold brN at hb0
      split at hb0
      · split at hb0
        · rename_i r hq _
          injection hb0 with hb0
          injection hb0 with _ hb0
          have := wd_le r
          have h3 : (l.drop n).length = r.length + 1 := by rw [hq]; rfl
          omega
        · cases hb0
      · cases hb0
    have y1 : IntKind.i64.wrap ((n : Int) + (m : Int)) = (n : Int) + (m : Int) := IntWalk.i64_in _ (by omega)
    have HEL : Hid (elN d n (l.drop n) = (pairN 9 (leafN 7 d) (leafN 2 kk), n + m)) := by
      show _ = _
      unfold elN
      rw [hb0]
    rw [hb0] at H1
    rw [HEL.out]
    have HR : Hid (∀ W v, Calls Tryz.prog 93 #[.int .i64 9, .agg #[.int .i64 7, .string (bs d), .string ⟨#[]⟩, .int .i64 0, .slice none 0 0], .agg #[.int .i64 2, .string v, .string ⟨#[]⟩, .int .i64 0, .slice none 0 0]] W (NdT (.mk 9 ⟨#[]⟩ ⟨#[]⟩ 0 [leafN 7 d, .mk 2 v ⟨#[]⟩ 0 []]) W)) := fun W v => HP.out 9 _ _ _ _ W (leafAt 7 d W) (.mk .none)
    unfold BrP brV at H1
    dsimp only at H1
    have HKK : Hid (.mk 9 ⟨#[]⟩ ⟨#[]⟩ 0 [leafN 7 d, .mk 2 (bs kk) ⟨#[]⟩ 0 []] = pairN 9 (leafN 7 d) (leafN 2 kk)) := rfl
    clear hb0 hz hn hrz hsuf hsz hpos hbn H2 HP HEL
    generalize bs d = sd at *
    generalize bs l = sl at *
    generalize leafN 7 d = nd7 at *
    generalize hkk : bs kk = sk at *
    have HT0 := Lib.hid (NkAt.zero w)
    have HB0 := Lib.hid ((Below.refl w.heap.size w).alloc (Nat.le_refl _) zN)
    unfold zN at HT0 HB0
    go_enter Tryz.func62, Tryz.ntmps62
    go_wp2_with fail
    generalize w.alloc _ = W0 at *
    generalize hTT : w.heap.size = T at *
    have HTT := Lib.hid hTT
    clear hTT
    refine (H1.out _).mono ?_
    rintro e W1 ⟨rfl, hb⟩
    have HT1 := Lib.hid (HT0.out.below hb)
    have HB1 := Lib.hid (HB0.out.trans (hb.mono (Nat.le_of_lt HT0.out.lt)))
    clear hb
    go_wp2_with fail
    refine (HR.out _ _).mono ?_
    rintro e W2 ⟨v, rfl, hb, hnd⟩
    have HT2 := Lib.hid (HT1.out.below hb)
    have HB2 := Lib.hid (HB1.out.trans (hb.mono (Nat.le_of_lt HT1.out.lt)))
    have HG : Hid (T < W1.heap.size) := HT1.out.lt
    clear hb
    obtain ⟨o1, s1, t1, n1, L1, rfl⟩ := nd_form hnd
    obtain ⟨la, lk, lc, rfl⟩ := nd_slice hnd
    have HND := Lib.hid hnd
    clear hnd
    rw [HKK.out] at HND
    obtain ⟨u0, u1, u2, u3, u4⟩ := HT2.out.cells
    have z0 := HT2.out.frozen 0
    have z1 := HT2.out.frozen 1
    have z2 := HT2.out.frozen 2
    have z3 := HT2.out.frozen 3
    have z4 := HT2.out.frozen 4
    go_wp2
    have HR := HT2.out.put (.int .i64 o1) (.string s1) (.string t1) (.int .i64 n1) (.slice la lk lc)
    obtain ⟨r0, r1, r2, r3, r4⟩ := HR.cells
    change bodyPost _ _ _ _ _ (ndW W2 T (.int .i64 o1) (.string s1) (.string t1) (.int .i64 n1) (.slice la lk lc))
    refine bodyPost_ret (v := .tuple #[.agg #[.int .i64 o1, .string s1, .string t1, .int .i64 n1, .slice la lk lc], .int .i64 ((n : Int) + (m : Int))]) ?_ rfl (nv_ret HTT.out HB2.out HND.out (fun g h => ty_gt h HG.out) _ (by simp))
    generalize ndW W2 T (.int .i64 o1) (.string s1) (.string t1) (.int .i64 n1) (.slice la lk lc) = WZ at *
    simp [results, Tryz.results62, go_sem, r0, r1, r2, r3, r4]
  | none =>
    rw [hb0] at H1
    unfold BrP brV at H1
    dsimp only at H1
    cases hp0 : plN (l.drop n) with
    | some x =>
      obtain ⟨pp, m⟩ := x
      obtain ⟨po, pv, ps, rfl, hpos⟩ := plN_leaf hp0
      dsimp only at hpos
      have y0 : (0 : Int) < (m : Int) := by omega
      have hbn : m ≤ 100002 := plN_size hrz hp0
      have y1 : IntKind.i64.wrap ((n : Int) + (m : Int)) = (n : Int) + (m : Int) := IntWalk.i64_in _ (by omega)
      have HEL : Hid (elN d n (l.drop n) = (pairN 8 (leafN 6 d) (.mk po (bs ps) ⟨#[]⟩ pv []), n + m)) := by
        show _ = _
        unfold elN
        rw [hb0]
        dsimp only
        rw [hp0]
      rw [hp0] at H2
      rw [HEL.out]
      have HR : Hid (∀ W v, Calls Tryz.prog 93 #[.int .i64 8, .agg #[.int .i64 6, .string (bs d), .string ⟨#[]⟩, .int .i64 0, .slice none 0 0], .agg #[.int .i64 po, .string v, .string ⟨#[]⟩, .int .i64 pv, .slice none 0 0]] W (NdT (.mk 8 ⟨#[]⟩ ⟨#[]⟩ 0 [leafN 6 d, .mk po v ⟨#[]⟩ pv []]) W)) := fun W v => HP.out 8 _ _ _ _ W (leafAt 6 d W) (.mk .none)
      unfold PlP plV lfV at H2
      dsimp only at H2
      have HKK : Hid (.mk 8 ⟨#[]⟩ ⟨#[]⟩ 0 [leafN 6 d, .mk po (bs ps) ⟨#[]⟩ pv []] = pairN 8 (leafN 6 d) (.mk po (bs ps) ⟨#[]⟩ pv [])) := rfl
      clear hb0 hz hn hrz hsuf hsz hpos hbn HP HEL hp0
      generalize bs d = sd at *
      generalize bs l = sl at *
      generalize leafN 6 d = nd7 at *
      generalize hkk : bs ps = sk at *
      have HT0 := Lib.hid (NkAt.zero w)
      have HB0 := Lib.hid ((Below.refl w.heap.size w).alloc (Nat.le_refl _) zN)
      unfold zN at HT0 HB0
      go_enter Tryz.func62, Tryz.ntmps62
      go_wp2_with fail
      generalize w.alloc _ = W0 at *
      generalize hTT : w.heap.size = T at *
      have HTT := Lib.hid hTT
      clear hTT
      refine (H1.out _).mono ?_
      rintro e W1 ⟨rfl, hb⟩
      have HT1 := Lib.hid (HT0.out.below hb)
      have HB1 := Lib.hid (HB0.out.trans (hb.mono (Nat.le_of_lt HT0.out.lt)))
      clear hb
      go_wp2_with fail
      refine (H2.out _).mono ?_
      rintro e W2 ⟨rfl, hb⟩
      have HT2 := Lib.hid (HT1.out.below hb)
      have HB2 := Lib.hid (HB1.out.trans (hb.mono (Nat.le_of_lt HT1.out.lt)))
      clear hb
      have HBA := Lib.hid ((Below.refl W2.heap.size W2).alloc (Nat.le_refl _) (.cells #[.int .i64 po, .string sk, .string ⟨#[]⟩, .int .i64 pv, .slice none 0 0] 28))
      have HT3 := Lib.hid (HT2.out.below HBA.out)
      have HB3 := Lib.hid (HB2.out.trans (HBA.out.mono (Nat.le_of_lt HT2.out.lt)))
      clear HBA
      go_wp2_with fail
      generalize W2.alloc _ = W3 at *
      refine (HR.out _ _).mono ?_
      rintro e W4 ⟨v, rfl, hb, hnd⟩
      have HT4 := Lib.hid (HT3.out.below hb)
      have HB4 := Lib.hid (HB3.out.trans (hb.mono (Nat.le_of_lt HT3.out.lt)))
      have HG : Hid (T < W3.heap.size) := HT3.out.lt
      clear hb
      obtain ⟨o1, s1, t1, n1, L1, rfl⟩ := nd_form hnd
      obtain ⟨la, lk, lc, rfl⟩ := nd_slice hnd
      have HND := Lib.hid hnd
      clear hnd
      rw [HKK.out] at HND
      obtain ⟨u0, u1, u2, u3, u4⟩ := HT4.out.cells
      have z0 := HT4.out.frozen 0
      have z1 := HT4.out.frozen 1
      have z2 := HT4.out.frozen 2
      have z3 := HT4.out.frozen 3
      have z4 := HT4.out.frozen 4
      go_wp2
      have HR := HT4.out.put (.int .i64 o1) (.string s1) (.string t1) (.int .i64 n1) (.slice la lk lc)
      obtain ⟨r0, r1, r2, r3, r4⟩ := HR.cells
      change bodyPost _ _ _ _ _ (ndW W4 T (.int .i64 o1) (.string s1) (.string t1) (.int .i64 n1) (.slice la lk lc))
      refine bodyPost_ret (v := .tuple #[.agg #[.int .i64 o1, .string s1, .string t1, .int .i64 n1, .slice la lk lc], .int .i64 ((n : Int) + (m : Int))]) ?_ rfl (nv_ret HTT.out HB4.out HND.out (fun g h => ty_gt h HG.out) _ (by simp))
      generalize ndW W4 T (.int .i64 o1) (.string s1) (.string t1) (.int .i64 n1) (.slice la lk lc) = WZ at *
      simp [results, Tryz.results62, go_sem, r0, r1, r2, r3, r4]
    | none =>
      have HEL : Hid (elN d n (l.drop n) = (leafN 5 d, n)) := by
        show _ = _
        unfold elN
        rw [hb0]
        dsimp only
        rw [hp0]
      rw [hp0] at H2
      rw [HEL.out]
      unfold PlP plV at H2
      dsimp only at H2
      have HLF : Hid (∀ W, NdAt (fun _ => False) W (leafN 5 d) (.agg #[.int .i64 5, .string (bs d), .string ⟨#[]⟩, .int .i64 0, .slice none 0 0])) := fun W => leafAt 5 d W
      clear hb0 hz hn hrz hsuf hsz HP HEL hp0
      generalize leafN 5 d = nd5 at *
      generalize bs d = sd at *
      generalize bs l = sl at *
      have HT0 := Lib.hid (NkAt.zero w)
      have HB0 := Lib.hid ((Below.refl w.heap.size w).alloc (Nat.le_refl _) zN)
      unfold zN at HT0 HB0
      go_enter Tryz.func62, Tryz.ntmps62
      go_wp2_with fail
      generalize w.alloc _ = W0 at *
      generalize hTT : w.heap.size = T at *
      have HTT := Lib.hid hTT
      clear hTT
      refine (H1.out _).mono ?_
      rintro e W1 ⟨rfl, hb⟩
      have HT1 := Lib.hid (HT0.out.below hb)
      have HB1 := Lib.hid (HB0.out.trans (hb.mono (Nat.le_of_lt HT0.out.lt)))
      clear hb
      go_wp2_with fail
      refine (H2.out _).mono ?_
      rintro e W2 ⟨rfl, hb⟩
      have HT2 := Lib.hid (HT1.out.below hb)
      have HB2 := Lib.hid (HB1.out.trans (hb.mono (Nat.le_of_lt HT1.out.lt)))
      clear hb
      have HBA := Lib.hid ((Below.refl W2.heap.size W2).alloc (Nat.le_refl _) (.cells #[.int .i64 0, .string ⟨#[]⟩, .string ⟨#[]⟩, .int .i64 0, .slice none 0 0] 28))
      have HT3 := Lib.hid (HT2.out.below HBA.out)
      have HB3 := Lib.hid (HB2.out.trans (HBA.out.mono (Nat.le_of_lt HT2.out.lt)))
      clear HBA
      obtain ⟨u0, u1, u2, u3, u4⟩ := HT3.out.cells
      have z0 := HT3.out.frozen 0
      have z1 := HT3.out.frozen 1
      have z2 := HT3.out.frozen 2
      have z3 := HT3.out.frozen 3
      have z4 := HT3.out.frozen 4
      go_wp2
      have HR := HT3.out.put (.int .i64 5) (.string sd) (.string ⟨#[]⟩) (.int .i64 0) (.slice none 0 0)
      obtain ⟨r0, r1, r2, r3, r4⟩ := HR.cells
      change bodyPost _ _ _ _ _ (ndW (W2.alloc _) T (.int .i64 5) (.string sd) (.string ⟨#[]⟩) (.int .i64 0) (.slice none 0 0))
      refine bodyPost_ret (v := .tuple #[.agg #[.int .i64 5, .string sd, .string ⟨#[]⟩, .int .i64 0, .slice none 0 0], .int .i64 n]) ?_ rfl (nv_ret HTT.out HB3.out (HLF.out _) (fun g h => h.elim) _ rfl)
      generalize ndW (W2.alloc _) T (.int .i64 5) (.string sd) (.string ⟨#[]⟩) (.int .i64 0) (.slice none 0 0) = WZ at *
      simp [results, Tryz.results62, go_sem, r0, r1, r2, r3, r4]

end Go.Proofs.YtaocbhfehncdcaaGreatDoor

namespace Go.Proofs.YtaocbhfehncdcaaGreatDoor
open Go.RowKit

theorem sp_ix : ∀ n : Nat, n < 256 → decide (0 ≤ Lib.indexByte [64, 38, 49, 50, 51, 52, 53, 54, 55, 56, 57] (UInt8.ofNat n)) = spB (UInt8.ofNat n) := by decide +kernel
theorem oth_any (c : UInt8) (w : World) : Calls Tryz.prog 63 #[.string (bs [c])] w (BoS (spB c) w) := by
  have h := sp_ix c.toNat c.toNat_lt
  rw [UInt8.ofNat_toNat] at h
  have H1 : Hid (∀ w, Calls Tryz.prog 95 #[.string ⟨#[64, 38, 49, 50, 51, 52, 53, 54, 55, 56, 57]⟩, .string (bs [c])] w fun e w' => e = .returned (.bool (spB c)) ∧ w' = w) := fun w => by
    have := Tryz.strings_Contains_one ⟨#[64, 38, 49, 50, 51, 52, 53, 54, 55, 56, 57]⟩ c w
    rw [← h]
    exact this
  have hsz : (bs [c]).size = 1 := bs_size [c]
  clear h
  generalize bs [c] = s at *
  go_enter Tryz.func63, Tryz.ntmps63
  go_wp2_with fail
  refine (H1.out _).mono ?_
  rintro e w' ⟨rfl, rfl⟩
  go_wp2
  go_ret
  exact ⟨rfl, rfl⟩
theorem nmN_size {l : List UInt8} {x : List UInt8 × Nat} (h : nmN l = some x) : 0 < x.2 ∧ x.2 ≤ l.length := by
  unfold nmN at h
  split at h
  · rename_i y hy
    injection h with h
    rw [← h]
    refine ⟨brN_pos hy, ?_⟩
    unfold brN at hy
    split at hy
    · rename_i b r
      split at hy
      · rename_i hc
        injection hy with hy
        rw [← hy]
        have h3 : wd r < r.length := by
          have := hc.2.2
          exact (List.getElem?_eq_some_iff.1 this).1
        show wd r + 2 ≤ r.length + 1
        omega
      · cases hy
    · cases hy
  · split at h
    · rename_i h1
      injection h with h
      rw [← h]
      exact ⟨Nat.pos_of_ne_zero h1, wd_le l⟩
    · cases h
theorem vrN_64 (r : List UInt8) : vrN (64 :: r) = (match nmN r with | some x => some (leafN 6 x.1, 1 + x.2) | none => none) := rfl
theorem vrN_36 (r : List UInt8) : vrN (36 :: r) = (match nmN r with | some x => some (elN x.1 (1 + x.2) (r.drop x.2)) | none => match r with | c :: _ => if spB c = true then some (leafN 5 [c], 2) else none | [] => none) := rfl
theorem z_ret {w W : World} {T : Nat} (hT : w.heap.size = T) (hB : Below T w W) : VoP none w (.returned (.tuple #[.agg #[.int .i64 0, .string ⟨#[]⟩, .string ⟨#[]⟩, .int .i64 0, .slice none 0 0], .int .i64 0])) (ndW W T (.int .i64 0) (.string ⟨#[]⟩) (.string ⟨#[]⟩) (.int .i64 0) (.slice none 0 0)) := by
  subst hT
  exact ⟨rfl, hB.trans (ndW_below _ _ _ _ _ _ _)⟩
set_option maxRecDepth 100000 in
set_option maxHeartbeats 4000000 in
theorem varAt_any (l : List UInt8) (hz : l.length ≤ 100000) (hne : l ≠ []) (w : World) : Calls Tryz.prog 39 #[.string (bs l)] w (VoP (vrN l) w) := by
  obtain ⟨b, r, rfl⟩ : ∃ b r, l = b :: r := List.exists_cons_of_ne_nil hne
  have hrz : r.length ≤ 100000 := by simp at hz; omega
  have hlen : (b :: r).length = r.length + 1 := rfl
  have hsz : (bs (b :: r)).size = r.length + 1 := bs_size _
  have hpos : 0 < (bs (b :: r)).size := by omega
  have hgb : (bs (b :: r))[0] = b := by
    have := getElem_list2 (bs (b :: r)) 0 hpos
    rw [bs_list] at this
    exact (Option.some.inj this).symm
  have hsuf : (bs (b :: r)).extract 1 (bs (b :: r)).size = bs r := bs_suf (b :: r) 1 (by simp)
  have H1 : Hid (∀ w, Calls Tryz.prog 61 #[.string ((bs (b :: r)).extract 1 (bs (b :: r)).size)] w (BrP (nmN r) w)) := fun w => by
    rw [hsuf]
    exact nameAt_any r hrz w
  have p1 : (1 : Int) ≤ ((bs (b :: r)).size : Int) := by omega
  by_cases h64 : b = 64
  · have f1 : (((bs (b :: r))[0].toNat : Int) == 64) = true := by rw [hgb, h64]; rfl
    cases hn : nmN r with
    | some x =>
      obtain ⟨d, n⟩ := x
      obtain ⟨hn0, hn1⟩ := nmN_size hn
      dsimp only at hn0 hn1
      have y0 : (0 : Int) < (n : Int) := by omega
      have y1 : IntKind.i64.wrap (1 + (n : Int)) = 1 + (n : Int) := IntWalk.i64_in _ (by omega)
      have HV : Hid (vrN (b :: r) = some (leafN 6 d, 1 + n)) := by
        show _ = _
        simp only [h64, vrN_64, hn]
      rw [hn] at H1
      rw [HV.out]
      unfold BrP brV at H1
      dsimp only at H1
      have HLF : Hid (∀ W, NdAt (fun _ => False) W (leafN 6 d) (.agg #[.int .i64 6, .string (bs d), .string ⟨#[]⟩, .int .i64 0, .slice none 0 0])) := fun W => leafAt 6 d W
      clear hn hz hne hrz hlen hsz hgb hsuf h64 HV hn0 hn1
      generalize leafN 6 d = nd at *
      generalize bs d = sd at *
      generalize bs (b :: r) = s at *
      have HT0 := Lib.hid (NkAt.zero w)
      have HB0 := Lib.hid ((Below.refl w.heap.size w).alloc (Nat.le_refl _) zN)
      unfold zN at HT0 HB0
      go_enter Tryz.func39, Tryz.ntmps39
      go_wp2_with fail
      generalize w.alloc _ = W0 at *
      generalize hTT : w.heap.size = T at *
      have HTT := Lib.hid hTT
      clear hTT
      refine (H1.out _).mono ?_
      rintro e W1 ⟨rfl, hb⟩
      have HT1 := Lib.hid (HT0.out.below hb)
      have HB1 := Lib.hid (HB0.out.trans (hb.mono (Nat.le_of_lt HT0.out.lt)))
      clear hb
      obtain ⟨u0, u1, u2, u3, u4⟩ := HT1.out.cells
      have z0 := HT1.out.frozen 0
      have z1 := HT1.out.frozen 1
      have z2 := HT1.out.frozen 2
      have z3 := HT1.out.frozen 3
      have z4 := HT1.out.frozen 4
      go_wp2
      have HR := HT1.out.put (.int .i64 6) (.string sd) (.string ⟨#[]⟩) (.int .i64 0) (.slice none 0 0)
      obtain ⟨r0, r1, r2, r3, r4⟩ := HR.cells
      change bodyPost _ _ _ _ _ (ndW W1 T (.int .i64 6) (.string sd) (.string ⟨#[]⟩) (.int .i64 0) (.slice none 0 0))
      refine bodyPost_ret (v := .tuple #[.agg #[.int .i64 6, .string sd, .string ⟨#[]⟩, .int .i64 0, .slice none 0 0], .int .i64 (1 + (n : Int))]) ?_ rfl (nv_ret HTT.out HB1.out (HLF.out _) (fun g h => h.elim) _ (by simp))
      generalize ndW W1 T (.int .i64 6) (.string sd) (.string ⟨#[]⟩) (.int .i64 0) (.slice none 0 0) = WZ at *
      simp [results, Tryz.results39, go_sem, r0, r1, r2, r3, r4]
    | none =>
      have HV : Hid (vrN (b :: r) = none) := by
        show _ = _
        simp only [h64, vrN_64, hn]
      rw [hn] at H1
      rw [HV.out]
      unfold BrP brV at H1
      dsimp only at H1
      clear hn hz hne hrz hlen hsz hgb hsuf h64 HV
      generalize bs (b :: r) = s at *
      have HT0 := Lib.hid (NkAt.zero w)
      have HB0 := Lib.hid ((Below.refl w.heap.size w).alloc (Nat.le_refl _) zN)
      unfold zN at HT0 HB0
      go_enter Tryz.func39, Tryz.ntmps39
      go_wp2_with fail
      generalize w.alloc _ = W0 at *
      generalize hTT : w.heap.size = T at *
      have HTT := Lib.hid hTT
      clear hTT
      refine (H1.out _).mono ?_
      rintro e W1 ⟨rfl, hb⟩
      have HT1 := Lib.hid (HT0.out.below hb)
      have HB1 := Lib.hid (HB0.out.trans (hb.mono (Nat.le_of_lt HT0.out.lt)))
      clear hb
      obtain ⟨u0, u1, u2, u3, u4⟩ := HT1.out.cells
      have z0 := HT1.out.frozen 0
      have z1 := HT1.out.frozen 1
      have z2 := HT1.out.frozen 2
      have z3 := HT1.out.frozen 3
      have z4 := HT1.out.frozen 4
      go_wp2
      have HR := HT1.out.put (.int .i64 0) (.string ⟨#[]⟩) (.string ⟨#[]⟩) (.int .i64 0) (.slice none 0 0)
      obtain ⟨r0, r1, r2, r3, r4⟩ := HR.cells
      change bodyPost _ _ _ _ _ (ndW W1 T (.int .i64 0) (.string ⟨#[]⟩) (.string ⟨#[]⟩) (.int .i64 0) (.slice none 0 0))
      refine bodyPost_ret (v := .tuple #[.agg #[.int .i64 0, .string ⟨#[]⟩, .string ⟨#[]⟩, .int .i64 0, .slice none 0 0], .int .i64 0]) ?_ rfl (z_ret HTT.out HB1.out)
      generalize ndW W1 T (.int .i64 0) (.string ⟨#[]⟩) (.string ⟨#[]⟩) (.int .i64 0) (.slice none 0 0) = WZ at *
      simp [results, Tryz.results39, go_sem, r0, r1, r2, r3, r4]
  · have f1 : (((bs (b :: r))[0].toNat : Int) == 64) = false := by
      rw [hgb, beq_eq_false_iff_ne]
      intro h
      exact h64 (UInt8.toNat_inj.1 (by show _ = 64; omega))
    by_cases h36 : b = 36
    · have f2 : (((bs (b :: r))[0].toNat : Int) == 36) = true := by rw [hgb, h36]; rfl
      cases hn : nmN r with
      | some x =>
        obtain ⟨d, n⟩ := x
        obtain ⟨hn0, hn1⟩ := nmN_size hn
        dsimp only at hn0 hn1
        have y0 : (0 : Int) < (n : Int) := by omega
        have y1 : IntKind.i64.wrap (1 + (n : Int)) = 1 + (n : Int) := IntWalk.i64_in _ (by omega)
        have HV : Hid (vrN (b :: r) = some (elN d (1 + n) (r.drop n))) := by
          show _ = _
          simp only [h36, vrN_36, hn]
        rw [hn] at H1
        rw [HV.out]
        unfold BrP brV at H1
        dsimp only at H1
        have HEL : Hid (∀ w, Calls Tryz.prog 62 #[.string (bs d), .string (bs (b :: r)), .int .i64 (1 + (n : Int))] w (NvP (elN d (1 + n) (r.drop n)) w)) := fun w => by
          have := elementAt_any d (b :: r) (1 + n) hz (by simp; omega) w
          rw [Nat.add_comm 1 n] at this ⊢
          rw [show ((n + 1 : Nat) : Int) = 1 + (n : Int) by omega] at this
          exact this
        clear hn hz hne hrz hlen hsz hgb hsuf h36 HV hn0 hn1 h64
        generalize elN d (1 + n) (r.drop n) = nx at *
        generalize bs d = sd at *
        generalize bs (b :: r) = s at *
        have HT0 := Lib.hid (NkAt.zero w)
        have HB0 := Lib.hid ((Below.refl w.heap.size w).alloc (Nat.le_refl _) zN)
        unfold zN at HT0 HB0
        go_enter Tryz.func39, Tryz.ntmps39
        go_wp2_with fail
        generalize w.alloc _ = W0 at *
        generalize hTT : w.heap.size = T at *
        have HTT := Lib.hid hTT
        clear hTT
        refine (H1.out _).mono ?_
        rintro e W1 ⟨rfl, hb⟩
        have HT1 := Lib.hid (HT0.out.below hb)
        have HB1 := Lib.hid (HB0.out.trans (hb.mono (Nat.le_of_lt HT0.out.lt)))
        clear hb
        go_wp2_with fail
        refine (HEL.out _).mono ?_
        rintro e W2 ⟨o1, n1, s1, t1, la, lk, lc, rfl, hb, hnd⟩
        have HT2 := Lib.hid (HT1.out.below hb)
        have HB2 := Lib.hid (HB1.out.trans (hb.mono (Nat.le_of_lt HT1.out.lt)))
        have HG : Hid (T < W1.heap.size) := HT1.out.lt
        have HND := Lib.hid hnd
        clear hb hnd
        obtain ⟨u0, u1, u2, u3, u4⟩ := HT2.out.cells
        have z0 := HT2.out.frozen 0
        have z1 := HT2.out.frozen 1
        have z2 := HT2.out.frozen 2
        have z3 := HT2.out.frozen 3
        have z4 := HT2.out.frozen 4
        go_wp2
        have HR := HT2.out.put (.int .i64 o1) (.string s1) (.string t1) (.int .i64 n1) (.slice la lk lc)
        obtain ⟨r0, r1, r2, r3, r4⟩ := HR.cells
        change bodyPost _ _ _ _ _ (ndW W2 T (.int .i64 o1) (.string s1) (.string t1) (.int .i64 n1) (.slice la lk lc))
        refine bodyPost_ret (v := .tuple #[.agg #[.int .i64 o1, .string s1, .string t1, .int .i64 n1, .slice la lk lc], .int .i64 (nx.2 : Nat)]) ?_ rfl (nv_ret HTT.out HB2.out HND.out (fun g h => ty_gt h HG.out) _ rfl)
        generalize ndW W2 T (.int .i64 o1) (.string s1) (.string t1) (.int .i64 n1) (.slice la lk lc) = WZ at *
        simp [results, Tryz.results39, go_sem, r0, r1, r2, r3, r4]
      | none =>
        rw [hn] at H1
        unfold BrP brV at H1
        dsimp only at H1
        cases r with
        | nil =>
          have HV : Hid (vrN [b] = none) := by
            show _ = _
            simp only [h36, vrN_36, hn]
          rw [HV.out]
          have y2 : ((bs [b]).size : Int) ≤ 1 := by rw [hsz]; simp
          clear hn hz hne hrz hlen hsz hgb hsuf h36 HV h64
          generalize bs [b] = s at *
          have HT0 := Lib.hid (NkAt.zero w)
          have HB0 := Lib.hid ((Below.refl w.heap.size w).alloc (Nat.le_refl _) zN)
          unfold zN at HT0 HB0
          go_enter Tryz.func39, Tryz.ntmps39
          go_wp2_with fail
          generalize w.alloc _ = W0 at *
          generalize hTT : w.heap.size = T at *
          have HTT := Lib.hid hTT
          clear hTT
          refine (H1.out _).mono ?_
          rintro e W1 ⟨rfl, hb⟩
          have HT1 := Lib.hid (HT0.out.below hb)
          have HB1 := Lib.hid (HB0.out.trans (hb.mono (Nat.le_of_lt HT0.out.lt)))
          clear hb
          obtain ⟨u0, u1, u2, u3, u4⟩ := HT1.out.cells
          have z0 := HT1.out.frozen 0
          have z1 := HT1.out.frozen 1
          have z2 := HT1.out.frozen 2
          have z3 := HT1.out.frozen 3
          have z4 := HT1.out.frozen 4
          go_wp2
          have HR := HT1.out.put (.int .i64 0) (.string ⟨#[]⟩) (.string ⟨#[]⟩) (.int .i64 0) (.slice none 0 0)
          obtain ⟨r0, r1, r2, r3, r4⟩ := HR.cells
          change bodyPost _ _ _ _ _ (ndW W1 T (.int .i64 0) (.string ⟨#[]⟩) (.string ⟨#[]⟩) (.int .i64 0) (.slice none 0 0))
          refine bodyPost_ret (v := .tuple #[.agg #[.int .i64 0, .string ⟨#[]⟩, .string ⟨#[]⟩, .int .i64 0, .slice none 0 0], .int .i64 0]) ?_ rfl (z_ret HTT.out HB1.out)
          generalize ndW W1 T (.int .i64 0) (.string ⟨#[]⟩) (.string ⟨#[]⟩) (.int .i64 0) (.slice none 0 0) = WZ at *
          simp [results, Tryz.results39, go_sem, r0, r1, r2, r3, r4]
        | cons c r =>
          have y2 : (1 : Int) < ((bs (b :: c :: r)).size : Int) := by rw [hsz]; simp; omega
          have y3 : (2 : Int) ≤ ((bs (b :: c :: r)).size : Int) := by omega
          have y4 : 2 ≤ (bs (b :: c :: r)).size := by omega
          have hpart : (bs (b :: c :: r)).extract 1 2 = bs [c] := by
            rw [← bs_of ((bs (b :: c :: r)).extract 1 2), Lib.extract_data, bs_list]
            rfl
          have HO : Hid (∀ w, Calls Tryz.prog 63 #[.string ((bs (b :: c :: r)).extract 1 2)] w (BoS (spB c) w)) := fun w => by
            rw [hpart]
            exact oth_any c w
          cases hsp : spB c
          · have HV : Hid (vrN (b :: c :: r) = none) := by
              show _ = _
              simp [h36, vrN_36, hn, hsp]
            rw [hsp] at HO
            rw [HV.out]
            clear hn hz hne hrz hlen hsz hgb hsuf h36 HV h64 hpart hsp
            generalize bs (b :: c :: r) = s at *
            have HT0 := Lib.hid (NkAt.zero w)
            have HB0 := Lib.hid ((Below.refl w.heap.size w).alloc (Nat.le_refl _) zN)
            unfold zN at HT0 HB0
            go_enter Tryz.func39, Tryz.ntmps39
            go_wp2_with fail
            generalize w.alloc _ = W0 at *
            generalize hTT : w.heap.size = T at *
            have HTT := Lib.hid hTT
            clear hTT
            refine (H1.out _).mono ?_
            rintro e W1 ⟨rfl, hb⟩
            have HT1 := Lib.hid (HT0.out.below hb)
            have HB1 := Lib.hid (HB0.out.trans (hb.mono (Nat.le_of_lt HT0.out.lt)))
            clear hb
            go_wp2_with fail
            refine (HO.out _).mono ?_
            rintro e w' ⟨rfl, rfl⟩
            obtain ⟨u0, u1, u2, u3, u4⟩ := HT1.out.cells
            have z0 := HT1.out.frozen 0
            have z1 := HT1.out.frozen 1
            have z2 := HT1.out.frozen 2
            have z3 := HT1.out.frozen 3
            have z4 := HT1.out.frozen 4
            go_wp2
            have HR := HT1.out.put (.int .i64 0) (.string ⟨#[]⟩) (.string ⟨#[]⟩) (.int .i64 0) (.slice none 0 0)
            obtain ⟨r0, r1, r2, r3, r4⟩ := HR.cells
            change bodyPost _ _ _ _ _ (ndW W1 T (.int .i64 0) (.string ⟨#[]⟩) (.string ⟨#[]⟩) (.int .i64 0) (.slice none 0 0))
            refine bodyPost_ret (v := .tuple #[.agg #[.int .i64 0, .string ⟨#[]⟩, .string ⟨#[]⟩, .int .i64 0, .slice none 0 0], .int .i64 0]) ?_ rfl (z_ret HTT.out HB1.out)
            generalize ndW W1 T (.int .i64 0) (.string ⟨#[]⟩) (.string ⟨#[]⟩) (.int .i64 0) (.slice none 0 0) = WZ at *
            simp [results, Tryz.results39, go_sem, r0, r1, r2, r3, r4]
          · have HV : Hid (vrN (b :: c :: r) = some (leafN 5 [c], 2)) := by
              show _ = _
              simp [h36, vrN_36, hn, hsp]
            rw [hsp] at HO
            rw [HV.out]
            have HLF : Hid (∀ W, NdAt (fun _ => False) W (leafN 5 [c]) (.agg #[.int .i64 5, .string ((bs (b :: c :: r)).extract 1 2), .string ⟨#[]⟩, .int .i64 0, .slice none 0 0])) := fun W => by
              rw [hpart]
              exact leafAt 5 [c] W
            clear hn hz hne hrz hlen hsz hgb hsuf h36 HV h64 hpart hsp
            generalize leafN 5 [c] = nd at *
            generalize bs (b :: c :: r) = s at *
            have HT0 := Lib.hid (NkAt.zero w)
            have HB0 := Lib.hid ((Below.refl w.heap.size w).alloc (Nat.le_refl _) zN)
            unfold zN at HT0 HB0
            go_enter Tryz.func39, Tryz.ntmps39
            go_wp2_with fail
            generalize w.alloc _ = W0 at *
            generalize hTT : w.heap.size = T at *
            have HTT := Lib.hid hTT
            clear hTT
            refine (H1.out _).mono ?_
            rintro e W1 ⟨rfl, hb⟩
            have HT1 := Lib.hid (HT0.out.below hb)
            have HB1 := Lib.hid (HB0.out.trans (hb.mono (Nat.le_of_lt HT0.out.lt)))
            clear hb
            go_wp2_with fail
            refine (HO.out _).mono ?_
            rintro e w' ⟨rfl, rfl⟩
            obtain ⟨u0, u1, u2, u3, u4⟩ := HT1.out.cells
            have z0 := HT1.out.frozen 0
            have z1 := HT1.out.frozen 1
            have z2 := HT1.out.frozen 2
            have z3 := HT1.out.frozen 3
            have z4 := HT1.out.frozen 4
            go_wp2
            have HR := HT1.out.put (.int .i64 5) (.string (s.extract 1 2)) (.string ⟨#[]⟩) (.int .i64 0) (.slice none 0 0)
            obtain ⟨r0, r1, r2, r3, r4⟩ := HR.cells
            change bodyPost _ _ _ _ _ (ndW W1 T (.int .i64 5) (.string (s.extract 1 2)) (.string ⟨#[]⟩) (.int .i64 0) (.slice none 0 0))
            refine bodyPost_ret (v := .tuple #[.agg #[.int .i64 5, .string (s.extract 1 2), .string ⟨#[]⟩, .int .i64 0, .slice none 0 0], .int .i64 2]) ?_ rfl (nv_ret HTT.out HB1.out (HLF.out _) (fun g h => h.elim) _ rfl)
            generalize ndW W1 T (.int .i64 5) (.string (s.extract 1 2)) (.string ⟨#[]⟩) (.int .i64 0) (.slice none 0 0) = WZ at *
            simp [results, Tryz.results39, go_sem, r0, r1, r2, r3, r4]
    · have f2 : (((bs (b :: r))[0].toNat : Int) == 36) = false := by
        rw [hgb, beq_eq_false_iff_ne]
        intro h
        exact h36 (UInt8.toNat_inj.1 (by show _ = 36; omega))
      have HV : Hid (vrN (b :: r) = none) := by
        show _ = _
        unfold vrN
        simp only [if_neg h64, if_neg h36]
      rw [HV.out]
      clear hz hne hrz hlen hsz hgb hsuf h36 HV h64 H1
      generalize bs (b :: r) = s at *
      have HT0 := Lib.hid (NkAt.zero w)
      have HB0 := Lib.hid ((Below.refl w.heap.size w).alloc (Nat.le_refl _) zN)
      unfold zN at HT0 HB0
      go_enter Tryz.func39, Tryz.ntmps39
      go_upto_region 2 with fail
      generalize w.alloc _ = W0 at *
      generalize hTT : w.heap.size = T at *
      have HTT := Lib.hid hTT
      clear hTT
      obtain ⟨u0, u1, u2, u3, u4⟩ := HT0.out.cells
      have z0 := HT0.out.frozen 0
      have z1 := HT0.out.frozen 1
      have z2 := HT0.out.frozen 2
      have z3 := HT0.out.frozen 3
      have z4 := HT0.out.frozen 4
      go_wp2
      have HR := HT0.out.put (.int .i64 0) (.string ⟨#[]⟩) (.string ⟨#[]⟩) (.int .i64 0) (.slice none 0 0)
      obtain ⟨r0, r1, r2, r3, r4⟩ := HR.cells
      change bodyPost _ _ _ _ _ (ndW W0 T (.int .i64 0) (.string ⟨#[]⟩) (.string ⟨#[]⟩) (.int .i64 0) (.slice none 0 0))
      refine bodyPost_ret (v := .tuple #[.agg #[.int .i64 0, .string ⟨#[]⟩, .string ⟨#[]⟩, .int .i64 0, .slice none 0 0], .int .i64 0]) ?_ rfl (z_ret HTT.out HB0.out)
      generalize ndW W0 T (.int .i64 0) (.string ⟨#[]⟩) (.string ⟨#[]⟩) (.int .i64 0) (.slice none 0 0) = WZ at *
      simp [results, Tryz.results39, go_sem, r0, r1, r2, r3, r4]

end Go.Proofs.YtaocbhfehncdcaaGreatDoor

namespace Go.Proofs.YtaocbhfehncdcaaGreatDoor
open Go.RowKit

theorem infoR : (Tryz.prog.info? 28).map (fun i => (i.zero, i.size, i.bytes)) = some (some (.agg #[.int .i64 0, .string ⟨#[]⟩, .string ⟨#[]⟩, .int .i64 0, .slice none 0 0]), 5, 72) := by kernel_rfl
theorem at_add (g p k : Nat) : (⟨g, p, none⟩ : Addr).add k = ⟨g, p + k, none⟩ := by
  unfold Addr.add
  cases k <;> rfl
theorem new5 (W : World) (v0 v1 v2 v3 v4 : Value) : ∀ (j : Nat) (u : Value), [v0, v1, v2, v3, v4][j]? = some u → (W.alloc (.cells #[v0, v1, v2, v3, v4] 28)).cell? ((⟨W.heap.size, 0, none⟩ : Addr).add j) = some u := fun j u hu => by
  rw [at_add, Lib.cell_of_heap (NkAt.new W v0 v1 v2 v3 v4)]
  simpa using hu
theorem cell5 {v0 v1 v2 v3 : Value} {a : Option Addr} {n c : Nat} (h0 : v0.oneCell' = true) (h1 : v1.oneCell' = true) (h2 : v2.oneCell' = true) (h3 : v3.oneCell' = true) : ∀ u ∈ [v0, v1, v2, v3, .slice a n c], u.oneCell' = true := fun u hu => by
  simp only [List.mem_cons, List.not_mem_nil, or_false] at hu
  rcases hu with rfl | rfl | rfl | rfl | rfl <;> first | assumption | rfl
theorem NcAt.rest {S : Nat → Prop} {w : World} (ys : List Value) : ∀ {l : List Nd} {cs : List Value}, NcAt S w l cs → NcAt S w l (cs ++ ys)
  | _, _, .nil => .nil
  | _, _, .cons h hr => .cons h (hr.rest ys)
/-- Blocks whose types p holds of stay. -/
def Keep (p : TypeId → Prop) (w w' : World) : Prop := ∀ (g : Nat) (es : Array Value) (ty : TypeId) (cur : Nat × Nat), p ty → w.heap[g]? = some (.cells es ty cur) → w'.heap[g]? = some (.cells es ty cur)
theorem Keep.refl (p : TypeId → Prop) (w : World) : Keep p w w := fun _ _ _ _ _ h => h
theorem Keep.trans {p : TypeId → Prop} {a b c : World} (h : Keep p a b) (k : Keep p b c) : Keep p a c := fun g es ty cur hp hg => k g es ty cur hp (h g es ty cur hp hg)
theorem keep_below (p : TypeId → Prop) {w w' : World} (h : Below w.heap.size w w') : Keep p w w' := fun g _ _ _ _ hg => (h.block g (Array.getElem?_eq_some_iff.1 hg).1).trans hg
theorem keep_all (p : TypeId → Prop) {w w' : World} (h : ∀ g, g < w.heap.size → w'.heap[g]? = w.heap[g]?) : Keep p w w' := fun g _ _ _ _ hg => (h g (Array.getElem?_eq_some_iff.1 hg).1).trans hg
theorem keep_alloc (p : TypeId → Prop) (w : World) (o : Obj) : Keep p w (w.alloc o) := keep_below p ((Below.refl _ _).alloc (Nat.le_refl _) o)
theorem keep_drew (p : TypeId → Prop) (w : World) : Keep p w w.drew := fun _ _ _ _ _ h => h
def isNd (t : TypeId) : Prop := t = 28
def isBy (t : TypeId) : Prop := t = 5
def noNd (t : TypeId) : Prop := t ≠ 28
def noBy (t : TypeId) : Prop := t ≠ 5
/-- The blocks of a row's trees: of the call's own, rows of nodes, and not the row's own block. -/
def Fz (B : Nat) (v : Value) (w : World) : Nat → Prop := fun g => B ≤ g ∧ some g ≠ v.ownBlock ∧ ∃ es cur, w.heap[g]? = some (Obj.cells es 28 cur)
/-- A row of trees of the call's own. -/
structure Rws (B : Nat) (v : Value) (l : List Nd) (w : World) : Prop where
  ex : ∃ xs, w.ownsRow B 28 5 v l.length xs ∧ NcAt (Fz B v w) w l xs
  nil : l = [] → v = .slice none 0 0
theorem Rws.empty (B : Nat) (w : World) : Rws B (.slice none 0 0) [] w := ⟨⟨[], World.ownsRow_nil _ _ _ _, .nil⟩, fun _ => rfl⟩
theorem Rws.form {B : Nat} {v : Value} {l : List Nd} {w : World} (h : Rws B v l w) : ∃ a c, v = .slice a l.length c ∧ ((l = [] → a = none ∧ c = 0) ∧ (l ≠ [] → a ≠ none)) := by
  obtain ⟨xs, h1, _⟩ := h.ex
  rcases h1.2 with ⟨rfl, h0⟩ | ⟨g, cap, cur, rfl, _⟩
  · refine ⟨_, _, by rw [h0], fun _ => ⟨rfl, rfl⟩, fun hne => absurd (List.eq_nil_of_length_eq_zero h0) hne⟩
  · refine ⟨_, _, rfl, fun hl => ?_, fun _ => by simp⟩
    have := h.nil hl
    simp at this
theorem Rws.lt {B : Nat} {v : Value} {l : List Nd} {w : World} (h : Rws B v l w) {g : Nat} (hg : v.ownBlock = some g) : B ≤ g ∧ g < w.heap.size := by
  obtain ⟨xs, h1, _⟩ := h.ex
  exact h1.lt g hg
theorem Rws.typed {B : Nat} {v : Value} {l : List Nd} {w : World} (h : Rws B v l w) {g : Nat} (hg : v.ownBlock = some g) : ∃ es, w.heap[g]? = some (.cells es 28 (0, 0)) := by
  obtain ⟨xs, h1, _⟩ := h.ex
  rcases h1.2 with ⟨rfl, h0⟩ | ⟨g', cap, cur, rfl, _, hg', _⟩
  · simp [Value.ownBlock] at hg
  · simp only [Value.ownBlock, Option.some.injEq] at hg
    subst hg
    exact ⟨_, hg'⟩
theorem fz_keep {B : Nat} {v : Value} {w w' : World} (hk : Keep isNd w w') : ∀ g, Fz B v w g → g < w.heap.size → w'.heap[g]? = w.heap[g]? ∧ Fz B v w' g := fun g ⟨h1, h2, es, cur, h3⟩ _ => by
  have h4 := hk g es _ cur rfl h3
  exact ⟨h4.trans h3.symm, h1, h2, es, cur, h4⟩
theorem Rws.stay {B : Nat} {v : Value} {l : List Nd} {w w' : World} (h : Rws B v l w) (hk : Keep isNd w w') : Rws B v l w' := by
  obtain ⟨xs, h1, h2⟩ := h.ex
  refine ⟨⟨xs, ⟨h1.1, ?_⟩, h2.move (fz_keep hk)⟩, h.nil⟩
  rcases h1.2 with h0 | ⟨g, cap, cur, h0, h3, hg, h4⟩
  · exact .inl h0
  · exact .inr ⟨g, cap, cur, h0, h3, hk g _ _ _ rfl hg, h4⟩
theorem Rws.ns {B : Nat} {v : Value} {l : List Nd} {w : World} (h : Rws B v l w) : NsAt (Ty B w) w l v := by
  obtain ⟨xs, h1, h2⟩ := h.ex
  rcases h1.2 with ⟨rfl, h0⟩ | ⟨g, cap, cur, rfl, h3, hg, hn, hm, _, ht⟩
  · obtain rfl : l = [] := List.eq_nil_of_length_eq_zero h0
    exact .none
  · refine .some ⟨h3, _, _, hg⟩ hg ?_ rfl (by omega)
    rw [List.drop_zero, ← List.take_append_drop (l.length * 5) cur.toList, ht]
    exact (h2.move fun g h5 h6 => ⟨rfl, h5.1, h5.2.2⟩).rest _
theorem ty_keep {E : Nat} {w w' : World} {t : Nd} {v : Value} (h : NdAt (Ty E w) w t v) (hk : Keep isNd w w') : NdAt (Ty E w') w' t v := h.move fun g ⟨h1, es, cur, h3⟩ _ => by
  have h4 := hk g es _ cur rfl h3
  exact ⟨h4.trans h3.symm, h1, es, cur, h4⟩
theorem NcAt.put {S : Nat → Prop} {w : World} {op n : Int} {s t : ByteArray} {m : List Nd} {L : Value} (hL : NsAt S w m L) : ∀ {l : List Nd} {xs : List Value}, NcAt S w l xs → xs.length = l.length * 5 → NcAt S w (l ++ [.mk op s t n m]) (xs ++ [.int .i64 op, .string s, .string t, .int .i64 n, L])
  | _, xs, .nil, h => by
    obtain rfl : xs = [] := List.eq_nil_of_length_eq_zero (by simpa using h)
    exact .cons hL .nil
  | _, _, .cons h hr, hl => .cons h (hr.put hL (by simp only [List.length_cons] at hl; omega))
/-- One more tree behind a row that an append has grown: w is the world ahead of the append and of the new element's own block. -/
theorem rws_put {B H : Nat} {w w4 : World} {v v' L : Value} {op n : Int} {s t : ByteArray} {l m : List Nd} {xs : List Value}
    (hlen : xs.length = l.length * 5) (hc : NcAt (Fz B v w) w l xs) (hL : NsAt (Fz B v w) w m L)
    (hg : ∀ g, g < w.heap.size → some g ≠ v.ownBlock → w4.heap[g]? = w.heap[g]?) (hat : v'.ownBlock = v.ownBlock ∨ v'.ownBlock = some H) (hH : w.heap.size ≤ H)
    (hown : w4.ownsRow B 28 5 v' (l.length + 1) (xs ++ [.int .i64 op, .string s, .string t, .int .i64 n, L])) : Rws B v' (l ++ [.mk op s t n m]) w4 := by
  have hm : ∀ g, Fz B v w g → g < w.heap.size → w4.heap[g]? = w.heap[g]? ∧ Fz B v' w4 g := fun g ⟨h1, h2, es, cur, h3⟩ h4 => by
    have h5 := hg g h4 h2
    refine ⟨h5, h1, ?_, es, cur, h5.trans h3⟩
    rcases hat with h | h
    · rw [h]
      exact h2
    · rw [h]
      intro e
      injection e with e
      omega
  refine ⟨⟨_, ?_, NcAt.put (hL.move hm) (hc.move hm) hlen⟩, fun h => by simp at h⟩
  rw [List.length_append]
  exact hown
/-- What becomes of the other blocks where a row grows. -/
theorem keep_grown {B : Nat} {v : Value} {l : List Nd} {w w4 : World} (h : Rws B v l w) (hg : ∀ g, g < w.heap.size → some g ≠ v.ownBlock → w4.heap[g]? = w.heap[g]?) : Keep noNd w w4 := fun g es ty cur hp hgg => by
  refine (hg g (Array.getElem?_eq_some_iff.1 hgg).1 fun e => ?_).trans hgg
  obtain ⟨es', h1⟩ := h.typed e.symm
  rw [hgg] at h1
  simp only [Option.some.injEq, Obj.cells.injEq] at h1
  exact hp h1.2.1
theorem Bld.stay {B b : Nat} {l : List UInt8} {w w' : World} (h : Bld B b l w) (hk : Keep noNd w w') : Bld B b l w' := by
  have go : ∀ p, Lib.BuilderAtF 54 5 B b p (Lib.byteCells l) w → Lib.BuilderAtF 54 5 B b p (Lib.byteCells l) w' := fun p ⟨h1, v, h2, h3, h4⟩ => by
    refine ⟨h1, v, hk b _ _ _ (by unfold noNd; decide) h2, ⟨h3.1, ?_⟩, h4⟩
    rcases h3.2 with h0 | ⟨g, cap, cur, fz, h0, h5, hg, h6⟩
    · exact .inl h0
    · exact .inr ⟨g, cap, cur, fz, h0, h5, hk g _ _ _ (by unfold noNd; decide) hg, h6⟩
  exact h.elim (fun h => .inl (go _ h)) fun h => .inr (go _ h)
/-- Behind a method of a builder the rows of nodes stay. -/
theorem keep_built {B b : Nat} {l l' : List UInt8} {w w' : World} (h : Bld B b l w) (hk : BldKept B b l' w w') : Keep isNd w w' := fun g es ty cur hp hg => by
  refine hk.2.2 g _ hg (fun e => ?_) fun c fz e => ?_
  · obtain ⟨_, p, v, hb⟩ := h.parts
    injection e with e
    subst e
    rw [hg] at hb
    simp only [Option.some.injEq, Obj.cells.injEq] at hb
    exact absurd (hp.symm.trans hb.2.1) (by decide)
  · simp only [Obj.cells.injEq] at e
    exact absurd (hp.symm.trans e.2.1) (by decide)
theorem below_any {w W : World} (h : ∀ g, g < w.heap.size → W.heap[g]? = w.heap[g]?) (B : Below 0 w W) : Below w.heap.size w W := ⟨B.os, B.tape, B.output, B.size, h⟩

end Go.Proofs.YtaocbhfehncdcaaGreatDoor
