/-
  The document's reader: what escape leaves, where a backslash stands. Conditions: texts of at most 100000 bytes.
-/
import Derived.Test.YtaocbhfehncdcaaGreatDoorXM28
import Derived.Test.YtaocbhfehncdcaaGreatDoorXIv
namespace Go.Proofs.YtaocbhfehncdcaaGreatDoor
open Go.RowKit

theorem step_append_str {P : Program} {ops : Array Oper} {o : Oper} {a : Act} {w : World} {K : Act → World → Prop} {Q : Exit → Act → World → Prop} {E : Prop} (hgd : o.guard = none) (sl x : Operand) (t u : TypeId)
    (ho : o.op = .call { callee := .builtin .append, args := #[sl, x], argTypes := #[t, u] })
    (base : Nat) (e : TypeId) (i : TypeInfo) (ht : P.underlying t = some (.slice e)) (hu : P.underlying u = some .string) (hi : P.info? e = some i) (hz : i.zero = some (.int .u8 0))
    (hsize : i.size = 1) (hby : i.bytes = 1)
    (v : Value) (n : Nat) (xs : List Value) (hs : a.eval sl = v) (hown : w.ownsRow base e 1 v n xs) (s : ByteArray) (hx : a.eval x = .string s) (hne : 0 < n + s.size)
    (h63 : n + s.size ≤ maxLen) (hbytes : n + s.size ≤ 140737488355328) (hbase : base ≤ w.heap.size)
    (h : ∀ g cap w', w'.ownsRow base e 1 (.slice (some ⟨g, 0, none⟩) (n + s.size) cap) (n + s.size) (xs ++ Lib.strCells s) → w.grownBy w' v.ownBlock → K (a.put o.dst (.slice (some ⟨g, 0, none⟩) (n + s.size) cap)) w') :
    if Region.wanted o (yielded ops a.tmps) = true then Oper.wp P o a w K Q else E := by
  have hw : Region.wanted o (yielded ops a.tmps) = true := by simp [Region.wanted, hgd]
  rw [if_pos hw]
  obtain ⟨v', w', hr, h2, h3, _⟩ := Lib.run_append_own_string (P := P) w base t u o.type e i ht hu hi hz hsize hby v n xs hown s h63 hbytes hbase
  obtain ⟨g, cap, rfl, _⟩ := h2.form hne
  unfold Oper.wp execOp
  simp only [ho, resolve, invoke, builtin, Sem.run_bind, Sem.run_pure, Result.andThen_ok, List.map_toArray, List.map_cons, List.map_nil, hs, hx, hr]
  exact h g cap w' h2 h3
theorem write_enter (v : Value) (w : World) : (callFunc 67 #[v]).run Tryz.prog w = .ok (.enter 67 #[v]) w := by kernel_rfl
/-- The text, grown, and the reader told of it. -/
theorem text_put {B R a g cap m : Nat} {src tx y : List UInt8} {ps : List Nd} {tv lv : Value} {w w2 : World} {ys : List Value} (H : DiAt B R src a tx ps tv lv w)
    (ho : w2.ownsRow B 5 1 (.slice (some ⟨g, 0, none⟩) m cap) m (Lib.byteCells tx ++ ys)) (hm : m = tx.length + y.length) (hy : ys = Lib.byteCells y) (hgw : ∀ k, k < w.heap.size → some k ≠ tv.ownBlock → w2.heap[k]? = w.heap[k]?) (hbw : Below B w w2) :
    DiAt B R src a (tx ++ y) ps (.slice (some ⟨g, 0, none⟩) m cap) lv (w2.setCell ⟨R, 2, none⟩ (.slice (some ⟨g, 0, none⟩) m cap)) ∧ Below B w (w2.setCell ⟨R, 2, none⟩ (.slice (some ⟨g, 0, none⟩) m cap)) ∧ w2.cell? ⟨R, 2, none⟩ = some tv ∧ w2.frozen? ⟨R, 2, none⟩ = false := by
  have hb := (hgw R H.lt H.txFar).trans H.blk
  refine ⟨H.setTx ?_ hgw, hbw.setCell (p := ⟨R, 2, none⟩) H.lo _, by rw [Lib.cell_of_heap hb]; rfl, Lib.frozen_of_heap hb 2⟩
  unfold Bytes
  subst hm hy
  rw [List.length_append]
  have : Lib.byteCells (tx ++ y) = Lib.byteCells tx ++ Lib.byteCells y := by simp [Lib.byteCells]
  rw [this]
  exact ho
/-- What escape leaves: the text with the bytes, and the place behind them. -/
def EsQ (B R : Nat) (L : List UInt8) (a : Nat) (tx : List UInt8) (ps : List Nd) (x : List UInt8 × Nat) (lv : Value) (w : World) (e : Ending) (w' : World) : Prop :=
  e = .returned (.tuple #[]) ∧ ∃ tv, DiAt B R L (a + x.2) (tx ++ x.1) ps tv lv w' ∧ Below B w w'
theorem es_of {B R a b : Nat} {L tx y : List UInt8} {ps : List Nd} {o : List UInt8 × Nat} {lv : Value} {w : World} {k : Nat} (h : o = (y, k)) (hb : b = a + k) : ∀ tv w', DiAt B R L b (tx ++ y) ps tv lv w' → Below B w w' → EsQ B R L a tx ps o lv w (.returned (.tuple #[])) w' := fun tv w' h1 h2 => by
  subst h hb
  exact ⟨rfl, tv, h1, h2⟩
def nbV (l : List UInt8) : Value := match nbN l with
  | some x => .tuple #[.int .i64 x.1, .int .i64 x.2]
  | none => .tuple #[.int .i64 0, .int .i64 0]
theorem nbN_short {l : List UInt8} (h : l.length < 4) : nbN l = none := by
  cases hn : nbN l with
  | none => rfl
  | some x =>
    exfalso
    unfold nbN at hn
    split at hn
    · rename_i b c u
      split at hn
      · split at hn
        · rename_i y hy
          have h1 := (brc_len (c := y.1) (r := y.2) hy).1
          have h2 : hxt 6 u ≠ [] := fun e => by
            unfold brc at hy
            rw [if_pos e] at hy
            cases hy
          have h3 := List.length_pos_iff.2 h2
          simp only [List.length_cons] at h
          omega
        · cases hn
      · cases hn
    · cases hn
theorem braced2_any (l : List UInt8) (hz : l.length ≤ 100000) (w : World) : Calls Tryz.prog 66 #[.string (bs l)] w fun e w' => e = .returned (nbV l) ∧ w = w' := by
  have hsz : (bs l).size = l.length := bs_size l
  have hno : nbN l = none → nbV l = .tuple #[.int .i64 0, .int .i64 0] := fun h => by
    unfold nbV
    rw [h]
  by_cases h4 : l.length < 4
  · refine (rBraced_short (bs l) (by omega) w).mono ?_
    rintro e w' ⟨rfl, rfl⟩
    exact ⟨by rw [hno (nbN_short h4)], rfl⟩
  · by_cases hp : l.take 2 = [120, 123]
    · obtain ⟨u, rfl⟩ : ∃ u, l = 120 :: 123 :: u := by
        match l, hp with
        | b :: c :: u, hp =>
          simp only [List.take_succ_cons, List.take_zero, List.cons.injEq, and_true] at hp
          exact ⟨u, by rw [hp.1, hp.2]⟩
      simp only [List.length_cons] at h4 hz
      refine (rBraced_x u (by omega) (by omega) w).mono ?_
      rintro e w' ⟨rfl, rfl⟩
      refine ⟨?_, rfl⟩
      unfold nbV bcV
      rw [nbN_br]
      cases hb : brc u with
      | none => rfl
      | some y =>
        obtain ⟨c, r⟩ := y
        have h1 := (brc_len hb).1
        dsimp only
        rw [show u.length + 2 - r.length = (hxt 6 u).length + 3 by omega]
    · refine (rBraced_other (bs l) (by omega) (by omega) ?_ w).mono ?_
      · rw [Lib.extract_data, bs_list]
        exact hp
      · rintro e w' ⟨rfl, rfl⟩
        have hnn : nbN l = none := by
          match l, h4, hp with
          | b :: c :: u, _, hp =>
            exact if_neg fun h => hp (by rw [h.1, h.2]; rfl)
          | [], h4, _ => exact absurd (by simp) h4
          | [b], h4, _ => exact absurd (by simp) h4
        rw [hno hnn]
        exact ⟨rfl, rfl⟩
set_option maxRecDepth 100000 in
set_option maxHeartbeats 16000000 in
theorem escape_any (B R : Nat) (L : List UInt8) (a : Nat) (tx : List UInt8) (ps : List Nd) (tv lv : Value) (w : World) (h : DiAt B R L a tx ps tv lv w) (hB : B ≤ w.heap.size) (htx : tx.length ≤ 900000) (hz : L.length ≤ 100000) (t : List UInt8) (hr : L.drop a = 92 :: t) :
    Calls Tryz.prog 45 #[.pointer (some ⟨R, 0, none⟩)] w (EsQ B R L a tx ps (pcN (92 :: t)) lv w) := by
  obtain ⟨i0, hi, hz0, hz1, hz2⟩ := info_parts infoB
  obtain ⟨ta, tc, rfl⟩ := h.btx.form
  have hlen : L.length = a + 1 + t.length := by
    have h1 := congrArg List.length hr
    rw [List.length_drop, List.length_cons] at h1
    omega
  have hdt : L.drop (a + 1) = t := by
    rw [← List.drop_drop, hr]
    rfl
  have hsz : (bs L).size = L.length := bs_size L
  have HSU : Hid ((bs L).extract (a + 1) (bs L).size = bs t) := by
    show _ = _
    rw [bs_suf L (a + 1) (by omega), hdt]
  have x0 : IntKind.i64.wrap ((a : Int) + 1) = (a : Int) + 1 := IntWalk.i64_in _ (by omega)
  have x1 : (0 : Int) ≤ (a : Int) + 1 := by omega
  have x2 : (a : Int) + 1 ≤ ((bs L).size : Int) := by omega
  have x3 : a + 1 ≤ (bs L).size := by omega
  have HLEN := Lib.hid hlen
  have HZ := Lib.hid hz
  have HTX := Lib.hid htx
  have HH := Lib.hid h
  have HBW := Lib.hid hB
  obtain ⟨c0, c1, _, _⟩ := h.cells
  have htz : t.length ≤ 100000 := by omega
  clear hlen hdt hsz hr h hB htx hz
  match t with
  | [] =>
    have HF := Lib.hid (es_of (B := B) (R := R) (L := L) (tx := tx) (ps := ps) (lv := lv) (w := w) (a := a) (b := a + 1) (o := pcN (92 :: [])) (y := [92]) (k := 1) rfl rfl)
    go_enter Tryz.func45, Tryz.ntmps45
    go_wp2
    go_quiet (fail)
    have H1 : Hid (DiAt B R L a tx ps (.slice ta tx.length tc) lv (w.drewN nq)) := HH.out.below (bl_drewN (Below.refl _ _) _)
    have HB1 : Hid (Below B w (w.drewN nq)) := bl_drewN (Below.refl _ _) _
    have HS1 : Hid (B ≤ (w.drewN nq).heap.size) := HBW.out
    generalize w.drewN nq = W1 at *
    clear c0 c1 x0 x1 x2 x3
    go_upto_region 1 with fail
    rw [HSU.out]
    obtain ⟨_, c1, c2, _⟩ := H1.out.cells
    have f2 := H1.out.frozen 2
    have htl := HTX.out
    rw [show bs ([] : List UInt8) = ⟨#[]⟩ from rfl]
    have d2 := (H1.out.alloc (.cells #[.int .u8 92] 5)).cells.2.2.1
    go_upto_region 3 with (at_builtin; refine wpList_append_lies _ rfl (.tmp 21) (.tmp 22) 52 rfl B 5 i0 (.int .u8 0) 1 1 Tryz.underlying52 hi hz0 hz1 hz2 rfl (by decide) (.slice ta tx.length tc) tx.length (Lib.byteCells tx) rfl (H1.out.alloc _).btx ⟨W1.heap.size, 0, none⟩ 1 1 [.int .u8 92] rfl rfl (cell_one_new _ _ _) (fun x hx => by simp at hx; subst hx; rfl) (by decide) (by unfold maxLen; omega) (by omega) (by have := HS1.out; simp; omega) _ rfl ?_; intro g cap w2 ho hg hG hlt; obtain ⟨hd3, hb3, e2, e2f⟩ := text_put (y := [92]) H1.out ho rfl rfl (fun k h1 h2 => (hg.block k (Nat.lt_of_lt_of_le h1 (by simp)) h2).trans (Lib.alloc_old W1 _ k h1)) (((Below.refl B W1).alloc HS1.out _).grown hg (by have := HS1.out; simp; omega) fun k hk => (H1.out.btx.lt k hk).1); have H3 := Lib.hid hd3; have HB3 := Lib.hid hb3; clear ho hg hG hlt hd3 hb3)
    clear c1 c2 f2 d2 e2 e2f
    generalize w2.setCell _ _ = W3 at *
    obtain ⟨_, c1, _, _⟩ := H3.out.cells
    have f1 := H3.out.frozen 1
    have y9 : IntKind.i64.wrap ((a : Int) + 1) = (a : Int) + 1 := IntWalk.i64_in _ (by have := HLEN.out; have := HZ.out; omega)
    have H4 := Lib.hid (H3.out.setAtI (a + 1) ((a : Int) + 1) (by omega))
    have HB4 := Lib.hid (HB3.out.setCell (p := ⟨R, 1, none⟩) H3.out.lo (.int .i64 ((a : Int) + 1)))
    go_wp2
    go_end0
    exact HF.out _ _ H4.out (HB1.out.trans HB4.out)
  | c :: r =>
    have he := bs_some (l := c :: r) (by simp)
    have hszc : (bs (c :: r)).size = r.length + 1 := bs_size _
    have hpos : 0 < (bs (c :: r)).size := by omega
    have hgc : (bs (c :: r))[0] = c := byte_at (c :: r) 0 (by simp) hpos
    by_cases h110 : c = 110
    · obtain ⟨f110, _⟩ := byte_is (b := (bs (c :: r))[0]) (n := 110) (by rw [hgc, h110]; rfl)
      have HF := Lib.hid (es_of (B := B) (R := R) (L := L) (tx := tx) (ps := ps) (lv := lv) (w := w) (a := a) (b := a + 2) (o := pcN (92 :: c :: r)) (y := [10]) (k := 2) (by rw [h110, pcN_esc, if_pos rfl]) rfl)
      clear htz hszc hgc h110
      go_enter Tryz.func45, Tryz.ntmps45
      go_wp2
      go_quiet (fail)
      have H1 : Hid (DiAt B R L a tx ps (.slice ta tx.length tc) lv (w.drewN nq)) := HH.out.below (bl_drewN (Below.refl _ _) _)
      have HB1 : Hid (Below B w (w.drewN nq)) := bl_drewN (Below.refl _ _) _
      have HS1 : Hid (B ≤ (w.drewN nq).heap.size) := HBW.out
      generalize w.drewN nq = W1 at *
      clear c0 c1 x0 x1 x2 x3
      go_upto_region 1 with fail
      rw [HSU.out]
      obtain ⟨_, c1, c2, _⟩ := H1.out.cells
      have f2 := H1.out.frozen 2
      have htl := HTX.out
      have d2 := (H1.out.alloc (.cells #[.int .u8 10] 5)).cells.2.2.1
      go_upto_region 14 with (at_builtin; refine wpList_append_lies _ rfl (.tmp 79) (.tmp 80) 52 rfl B 5 i0 (.int .u8 0) 1 1 Tryz.underlying52 hi hz0 hz1 hz2 rfl (by decide) (.slice ta tx.length tc) tx.length (Lib.byteCells tx) rfl (H1.out.alloc _).btx ⟨W1.heap.size, 0, none⟩ 1 1 [.int .u8 10] rfl rfl (cell_one_new _ _ _) (fun x hx => by simp at hx; subst hx; rfl) (by decide) (by unfold maxLen; omega) (by omega) (by have := HS1.out; simp; omega) _ rfl ?_; intro g cap w2 ho hg hG hlt; obtain ⟨hd3, hb3, e2, e2f⟩ := text_put (y := [10]) H1.out ho rfl rfl (fun k h1 h2 => (hg.block k (Nat.lt_of_lt_of_le h1 (by simp)) h2).trans (Lib.alloc_old W1 _ k h1)) (((Below.refl B W1).alloc HS1.out _).grown hg (by have := HS1.out; simp; omega) fun k hk => (H1.out.btx.lt k hk).1); have H3 := Lib.hid hd3; have HB3 := Lib.hid hb3; clear ho hg hG hlt hd3 hb3)
      clear c1 c2 f2 d2 e2 e2f
      generalize w2.setCell _ _ = W3 at *
      obtain ⟨_, c1, _, _⟩ := H3.out.cells
      have f1 := H3.out.frozen 1
      have y9 : IntKind.i64.wrap ((a : Int) + 2) = (a : Int) + 2 := IntWalk.i64_in _ (by have := HLEN.out; have := HZ.out; omega)
      have H4 := Lib.hid (H3.out.setAtI (a + 2) ((a : Int) + 2) (by omega))
      have HB4 := Lib.hid (HB3.out.setCell (p := ⟨R, 1, none⟩) H3.out.lo (.int .i64 ((a : Int) + 2)))
      go_wp2
      go_end0
      exact HF.out _ _ H4.out (HB1.out.trans HB4.out)
    obtain ⟨f110, _⟩ := byte_neq (b := (bs (c :: r))[0]) (n := 110) (by rw [hgc]; exact byte_off (c := 110) h110)
    by_cases h116 : c = 116
    · obtain ⟨f116, _⟩ := byte_is (b := (bs (c :: r))[0]) (n := 116) (by rw [hgc, h116]; rfl)
      have HF := Lib.hid (es_of (B := B) (R := R) (L := L) (tx := tx) (ps := ps) (lv := lv) (w := w) (a := a) (b := a + 2) (o := pcN (92 :: c :: r)) (y := [9]) (k := 2) (by rw [h116, pcN_esc, if_neg (by decide), if_pos rfl]) rfl)
      clear htz hszc hgc h110 h116
      go_enter Tryz.func45, Tryz.ntmps45
      go_wp2
      go_quiet (fail)
      have H1 : Hid (DiAt B R L a tx ps (.slice ta tx.length tc) lv (w.drewN nq)) := HH.out.below (bl_drewN (Below.refl _ _) _)
      have HB1 : Hid (Below B w (w.drewN nq)) := bl_drewN (Below.refl _ _) _
      have HS1 : Hid (B ≤ (w.drewN nq).heap.size) := HBW.out
      generalize w.drewN nq = W1 at *
      clear c0 c1 x0 x1 x2 x3
      go_upto_region 1 with fail
      rw [HSU.out]
      obtain ⟨_, c1, c2, _⟩ := H1.out.cells
      have f2 := H1.out.frozen 2
      have htl := HTX.out
      have d2 := (H1.out.alloc (.cells #[.int .u8 9] 5)).cells.2.2.1
      go_upto_region 14 with (at_builtin; refine wpList_append_lies _ rfl (.tmp 90) (.tmp 91) 52 rfl B 5 i0 (.int .u8 0) 1 1 Tryz.underlying52 hi hz0 hz1 hz2 rfl (by decide) (.slice ta tx.length tc) tx.length (Lib.byteCells tx) rfl (H1.out.alloc _).btx ⟨W1.heap.size, 0, none⟩ 1 1 [.int .u8 9] rfl rfl (cell_one_new _ _ _) (fun x hx => by simp at hx; subst hx; rfl) (by decide) (by unfold maxLen; omega) (by omega) (by have := HS1.out; simp; omega) _ rfl ?_; intro g cap w2 ho hg hG hlt; obtain ⟨hd3, hb3, e2, e2f⟩ := text_put (y := [9]) H1.out ho rfl rfl (fun k h1 h2 => (hg.block k (Nat.lt_of_lt_of_le h1 (by simp)) h2).trans (Lib.alloc_old W1 _ k h1)) (((Below.refl B W1).alloc HS1.out _).grown hg (by have := HS1.out; simp; omega) fun k hk => (H1.out.btx.lt k hk).1); have H3 := Lib.hid hd3; have HB3 := Lib.hid hb3; clear ho hg hG hlt hd3 hb3)
      clear c1 c2 f2 d2 e2 e2f
      generalize w2.setCell _ _ = W3 at *
      obtain ⟨_, c1, _, _⟩ := H3.out.cells
      have f1 := H3.out.frozen 1
      have y9 : IntKind.i64.wrap ((a : Int) + 2) = (a : Int) + 2 := IntWalk.i64_in _ (by have := HLEN.out; have := HZ.out; omega)
      have H4 := Lib.hid (H3.out.setAtI (a + 2) ((a : Int) + 2) (by omega))
      have HB4 := Lib.hid (HB3.out.setCell (p := ⟨R, 1, none⟩) H3.out.lo (.int .i64 ((a : Int) + 2)))
      go_wp2
      go_end0
      exact HF.out _ _ H4.out (HB1.out.trans HB4.out)
    obtain ⟨f116, _⟩ := byte_neq (b := (bs (c :: r))[0]) (n := 116) (by rw [hgc]; exact byte_off (c := 116) h116)
    have hpc : pcN (92 :: c :: r) = (match nbN (c :: r) with | some x => (en x.1, 1 + x.2) | none => ([c], 2)) := by
      rw [pcN_esc, if_neg h110, if_neg h116]
      cases nbN (c :: r) <;> rfl
    have HBC := Lib.hid (fun w => braced2_any (c :: r) htz w)
    cases hn : nbN (c :: r) with
    | none =>
      rw [hn] at hpc
      dsimp only at hpc
      have HF := Lib.hid (es_of (B := B) (R := R) (L := L) (tx := tx) (ps := ps) (lv := lv) (w := w) (a := a) (b := a + 2) (o := pcN (92 :: c :: r)) (y := [c]) (k := 2) hpc rfl)
      unfold nbV at HBC
      rw [hn] at HBC
      dsimp only at HBC
      have HGC := Lib.hid hgc
      clear hn hpc htz hszc hgc h110 h116
      go_enter Tryz.func45, Tryz.ntmps45
      go_wp2
      go_quiet (fail)
      have H1 : Hid (DiAt B R L a tx ps (.slice ta tx.length tc) lv (w.drewN nq)) := HH.out.below (bl_drewN (Below.refl _ _) _)
      have HB1 : Hid (Below B w (w.drewN nq)) := bl_drewN (Below.refl _ _) _
      have HS1 : Hid (B ≤ (w.drewN nq).heap.size) := HBW.out
      generalize w.drewN nq = W1 at *
      clear c0 c1 x0 x1 x2 x3
      go_upto_region 1 with fail
      rw [HSU.out]
      obtain ⟨_, c1, c2, _⟩ := H1.out.cells
      have f2 := H1.out.frozen 2
      have htl := HTX.out
      go_wp2_with fail
      refine (HBC.out _).mono ?_
      rintro e w' ⟨rfl, rfl⟩
      go_wp2
      have d2 := (H1.out.alloc (.cells #[.int .u8 ((bs (c :: r))[0].toNat : Int)] 5)).cells.2.2.1
      go_region_law (first
        | (refine step_append_lies _ rfl (.tmp 66) (.tmp 69) 52 rfl B 5 i0 (.int .u8 0) 1 1 Tryz.underlying52 hi hz0 hz1 hz2 rfl (by decide) (.slice ta tx.length tc) tx.length (Lib.byteCells tx) (by simp [Act.eval, Act.put]) (H1.out.alloc _).btx ⟨W1.heap.size, 0, none⟩ 1 1 [.int .u8 ((bs (c :: r))[0].toNat : Int)] (by simp [Act.eval, Act.put]) rfl (World.news_of_block (Go.MapKept.heap_alloc _ _).1) (fun x hx => by simp at hx; subst hx; rfl) (by decide) (by unfold maxLen; omega) (by omega) (Nat.le_trans HS1.out (by simp)) _ rfl ?_
           intro g cap w2 ho hg hG hlt
           obtain ⟨hd3, hb3, e2, e2f⟩ := text_put (y := [c]) H1.out ho rfl (by rw [HGC.out]; rfl) (fun k h1 h2 => (hg.block k (Nat.lt_of_lt_of_le h1 (by simp)) h2).trans (Lib.alloc_old W1 _ k h1)) ((((Below.refl B W1).alloc HS1.out _).drew).grown hg (Nat.le_trans HS1.out (by simp)) fun k hk => (H1.out.btx.lt k hk).1)
           have H3 := Lib.hid hd3
           have HB3 := Lib.hid hb3
           clear ho hg hG hlt hd3 hb3))
      all_goals (
        clear c1 c2 f2 d2 e2 e2f
        generalize w2.setCell _ _ = W3 at *
        obtain ⟨_, c1, _, _⟩ := H3.out.cells
        have f1 := H3.out.frozen 1
        have y9 : IntKind.i64.wrap ((a : Int) + 2) = (a : Int) + 2 := IntWalk.i64_in _ (by have := HLEN.out; have := HZ.out; omega)
        have H4 := Lib.hid (H3.out.setAtI (a + 2) ((a : Int) + 2) (by omega))
        have HB4 := Lib.hid (HB3.out.setCell (p := ⟨R, 1, none⟩) H3.out.lo (.int .i64 ((a : Int) + 2)))
        go_wp2
        go_end0
        exact HF.out _ _ H4.out (HB1.out.trans HB4.out))
    | some x =>
      obtain ⟨v, nn⟩ := x
      rw [hn] at hpc
      dsimp only at hpc
      have hns := nbN_size hn
      have hnl := hns.1
      have hic := hns.2
      dsimp only at hnl hic
      simp only [List.length_cons] at hnl
      have HF := Lib.hid (es_of (B := B) (R := R) (L := L) (tx := tx) (ps := ps) (lv := lv) (w := w) (a := a) (b := a + (1 + nn)) (o := pcN (92 :: c :: r)) (y := en v) (k := (1 + nn)) hpc rfl)
      have HNS : Hid (nn ≤ (c :: r).length) := by
        show _ ≤ _
        simp only [List.length_cons]
        omega
      have hnp : 0 < nn := by
        unfold nbN at hn
        split at hn
        · split at hn
          · split at hn
            · injection hn with hn
              injection hn with _ hn
              omega
            · cases hn
          · cases hn
        · cases hn
      have y0 : (0 : Int) < (nn : Int) := by omega
      unfold nbV at HBC
      rw [hn] at HBC
      dsimp only at HBC
      have HCS : Hid (allC [v]) := fun z hz => by
        simp only [List.mem_cons, List.not_mem_nil, or_false] at hz
        rw [hz]
        exact hic
      have henl := en_length v
      have HEN : Hid ((bs (ens [v])).size = (en v).length) := by
        show _ = _
        rw [ens_one]
        exact bs_size _
      have HEB : Hid (Lib.strCells (bs (ens [v])) = Lib.byteCells (en v)) := by
        show _ = _
        rw [ens_one]
        simp [Lib.strCells, Lib.byteCells, bs]
      clear hn hpc htz hszc hgc h110 h116 hns hnl hic hnp
      go_enter Tryz.func45, Tryz.ntmps45
      go_wp2
      go_quiet (fail)
      have H1 : Hid (DiAt B R L a tx ps (.slice ta tx.length tc) lv (w.drewN nq)) := HH.out.below (bl_drewN (Below.refl _ _) _)
      have HB1 : Hid (Below B w (w.drewN nq)) := bl_drewN (Below.refl _ _) _
      have HS1 : Hid (B ≤ (w.drewN nq).heap.size) := HBW.out
      generalize w.drewN nq = W1 at *
      clear c0 c1 x0 x1 x2 x3
      go_upto_region 1 with fail
      rw [HSU.out]
      obtain ⟨_, c1, c2, _⟩ := H1.out.cells
      have f2 := H1.out.frozen 2
      have htl := HTX.out
      go_wp2_with fail
      refine (HBC.out _).mono ?_
      rintro e w' ⟨rfl, rfl⟩
      go_wp2
      have d2 := (H1.out.alloc (.cells #[.int .i64 v] 3)).cells.2.2.1
      have HRD : Hid (Rd .i64 (W1.alloc (.cells #[.int .i64 v] 3)).heap.size (.slice (some ⟨W1.heap.size, 0, none⟩) 1 1) (up [v]) (W1.alloc (.cells #[.int .i64 v] 3)).drew) := by
        refine ⟨some ⟨W1.heap.size, 0, none⟩, 1, rfl, Nat.le_refl _, fun _ => ⟨W1.heap.size, 0, rfl, by simp, fun j hj => ?_⟩⟩
        have hj0 : j = 0 := by
          have : (up [v]).length = 1 := rfl
          omega
        subst hj0
        show (W1.alloc (.cells #[.int .i64 v] 3)).cell? _ = _
        rw [Lib.cell_of_heap (Go.MapKept.heap_alloc W1 _).1]
        rfl
      go_region_law (first
        | (refine step_c1 rfl 67 (.tmp 48) 88 rfl (.slice (some ⟨W1.heap.size, 0, none⟩) 1 1) (by simp [Act.eval, Act.put]) (write_enter _ _) _ (Write_any [v] HCS.out (W1.alloc (.cells #[.int .i64 v] 3)).heap.size _ _ (Nat.le_refl _) HRD.out (by simp)) ?_
           rintro e9 wd ⟨rfl, hb9⟩
           refine ⟨_, rfl, ?_⟩
           have hbd : Below W1.heap.size W1 wd := (((Below.refl W1.heap.size W1).alloc (Nat.le_refl _) _).drew).trans (hb9.mono (by simp))
           have H2 := Lib.hid (H1.out.below hbd)
           have HB2 : Hid (Below B W1 wd) := hbd.mono HS1.out
           have e2 := H2.out.cells.2.2.1
           clear hb9 hbd)
        | (refine step_append_str rfl (.tmp 46) (.tmp 49) 52 9 rfl B 5 i0 Tryz.underlying52 Tryz.underlying9 hi hz0 hz1 hz2 (.slice ta tx.length tc) tx.length (Lib.byteCells tx) (by simp [Act.eval, Act.put]) H2.out.btx (bs (ens [v])) (by simp [Act.eval, Act.put]) (by have := HEN.out; omega) (by have := HEN.out; unfold maxLen; omega) (by have := HEN.out; omega) (Nat.le_trans HS1.out HB2.out.size) ?_
           intro g cap w2 ho hg
           obtain ⟨hd3, hb3, e2, e2f⟩ := text_put (y := en v) H2.out ho (by rw [HEN.out]) HEB.out (fun k h1 h2 => hg.block k h1 h2) ((Below.refl B _).grown hg (Nat.le_trans HS1.out HB2.out.size) fun k hk => (H2.out.btx.lt k hk).1)
           have H3 := Lib.hid hd3
           have HB3 : Hid (Below B W1 _) := HB2.out.trans hb3
           clear ho hg hd3 hb3))
      all_goals (
        clear c1 c2 f2 d2 e2 e2f
        generalize w2.setCell _ _ = W3 at *
        obtain ⟨_, c1, _, _⟩ := H3.out.cells
        have f1 := H3.out.frozen 1
        have y9 : IntKind.i64.wrap ((a : Int) + (1 + (nn : Int))) = (a : Int) + (1 + (nn : Int)) := IntWalk.i64_in _ (by have := HLEN.out; have := HZ.out; have := HNS.out; omega)
        have H4 := Lib.hid (H3.out.setAtI (a + (1 + nn)) ((a : Int) + (1 + (nn : Int))) (by omega))
        have HB4 := Lib.hid (HB3.out.setCell (p := ⟨R, 1, none⟩) H3.out.lo (.int .i64 ((a : Int) + (1 + (nn : Int)))))
        have y8 : IntKind.i64.wrap (1 + (nn : Int)) = 1 + (nn : Int) := IntWalk.i64_in _ (by have := HLEN.out; have := HZ.out; have := HNS.out; omega)
        go_wp2
        go_end0
        exact HF.out _ _ H4.out (HB1.out.trans HB4.out))

end Go.Proofs.YtaocbhfehncdcaaGreatDoor
