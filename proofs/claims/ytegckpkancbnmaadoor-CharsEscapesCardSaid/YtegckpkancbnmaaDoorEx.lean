/-
  The document's Unescape, whole. No condition.
-/
import Derived.Test.YtegckpkancbnmaaDoorEw
namespace Go.Proofs.YtegckpkancbnmaaDoor
open Go.RowKit

theorem brc_suffix {t r : List UInt8} {c : Nat} (h : brc t = some (c, r)) : ∃ d, t = d ++ r := by
  unfold brc at h
  split at h
  · cases h
  · split at h
    · rename_i b r' he
      split at h
      · simp only [Option.some.injEq, Prod.mk.injEq] at h
        obtain ⟨_, rfl⟩ := h
        refine ⟨t.take (hxt 6 t).length ++ [b], ?_⟩
        rw [List.append_assoc]
        show t = t.take (hxt 6 t).length ++ b :: r'
        rw [← he, List.take_append_drop]
      · cases h
    · cases h
theorem esb_suffix {t r : List UInt8} {c : Nat} (h : esb t = some (c, r)) : t.drop (t.length - r.length) = r := by
  have : ∃ d, t = d ++ r := by
    unfold esb at h
    split at h
    · simp only [Option.some.injEq, Prod.mk.injEq] at h
      obtain ⟨_, rfl⟩ := h
      exact ⟨[92], rfl⟩
    · obtain ⟨d, rfl⟩ := brc_suffix h
      exact ⟨120 :: 123 :: d, rfl⟩
    · cases h
  obtain ⟨d, rfl⟩ := this
  rw [List.length_append, show d.length + r.length - r.length = d.length by omega, List.drop_left]

/-- What Braced gives behind a backslash that no other follows. -/
def bxV (t : List UInt8) : Value := match esb t with
  | some (c, r) => .tuple #[.int .i64 c, .int .i64 (t.length - r.length : Nat)]
  | none => .tuple #[.int .i64 0, .int .i64 0]
def BxP (t : List UInt8) (w : World) (e : Ending) (w' : World) : Prop := e = .returned (bxV t) ∧ w = w'
theorem rBraced_any (t : List UInt8) (hn : ∀ r, t ≠ 92 :: r) (hz : t.length ≤ 100000) (w : World) : Calls Tryd.prog 41 #[.string (bs t)] w (BxP t w) := by
  have hno : (∀ u, t ≠ 120 :: 123 :: u) → bxV t = .tuple #[.int .i64 0, .int .i64 0] := fun hx => by
    have : esb t = none := by
      unfold esb
      split
      · rename_i r
        exact absurd rfl (hn r)
      · rename_i u
        exact absurd rfl (hx u)
      · rfl
    unfold bxV
    rw [this]
  by_cases h4 : t.length < 4
  · refine (rBraced_short (bs t) (by rw [bs_size]; exact h4) w).mono ?_
    rintro e w' ⟨rfl, rfl⟩
    refine ⟨?_, rfl⟩
    by_cases hx : ∃ u, t = 120 :: 123 :: u
    · obtain ⟨u, rfl⟩ := hx
      have hb : brc u = none := by
        cases hb : brc u with
        | none => rfl
        | some p =>
          exfalso
          obtain ⟨c, r⟩ := p
          unfold brc at hb
          split at hb
          · cases hb
          · rename_i hne
            split at hb
            · rename_i b r' he
              have h1 := congrArg List.length he
              have h2 : 0 < (hxt 6 u).length := List.length_pos_iff.2 hne
              simp at h1 h4
              omega
            · cases hb
      have : esb (120 :: 123 :: u) = none := hb
      unfold bxV
      rw [this]
    · rw [hno (fun u h => hx ⟨u, h⟩)]
  · by_cases hx : ∃ u, t = 120 :: 123 :: u
    · obtain ⟨u, rfl⟩ := hx
      simp at h4 hz
      refine (rBraced_x u (by omega) (by omega) w).mono ?_
      rintro e w' ⟨rfl, rfl⟩
      refine ⟨?_, rfl⟩
      have he : esb (120 :: 123 :: u) = brc u := rfl
      unfold bxV bcV
      rw [he]
      rfl
    · refine (rBraced_other (bs t) (by rw [bs_size]; omega) (by rw [bs_size]; omega) ?_ w).mono ?_
      · intro h
        rw [Lib.extract_data, bs_list] at h
        apply hx
        match t, h with
        | a :: b :: u, h =>
          simp at h
          exact ⟨u, by rw [h.1, h.2]⟩
        | [a], h => simp at h
        | [], h => simp at h
      · rintro e w' ⟨rfl, rfl⟩
        exact ⟨by rw [hno (fun u h => hx ⟨u, h⟩)], rfl⟩

theorem Bytes.more {B : Nat} {v : Value} {l : List UInt8} {c : UInt8} {w : World} (h : w.ownsRow B 5 1 v (l.length + 1) (Lib.byteCells l ++ [.int .u8 (c.toNat : Int)])) : Bytes B v (l ++ [c]) w := by
  unfold Bytes
  rw [List.length_append]
  have : Lib.byteCells (l ++ [c]) = Lib.byteCells l ++ [.int .u8 (c.toNat : Int)] := by
    rw [byteCells_app]
    simp [Lib.strCells, bs]
  rw [this]
  exact h

theorem rUnescape_bad (s : ByteArray) (hb : ckE s ≠ 0) (w : World) : Calls Tryd.prog 12 #[.string s] w (TxP [] (ckE s) w) := by
  have HK := Lib.hid (fun w => Checked_any s w)
  have hn : (ckE s != 0) = true := by simpa using hb
  have HP : Hid (∀ w, TxP [] (ckE s) w (.returned (.tuple #[.string ⟨#[]⟩, .int .i64 (ckE s)])) w) := fun w => ⟨rfl, Below.refl _ _⟩
  clear hb
  generalize ckE s = x at *
  go_enter Tryd.func12, Tryd.ntmps12
  go_wp2_with fail
  refine (HK.out _).mono ?_
  rintro e w' ⟨rfl, rfl⟩
  go_wp2
  go_ret2
  exact HP.out _

theorem cell_u8_new (w : World) (x : Value) (T : TypeId) : ∀ j u, [x][j]? = some u → (w.alloc (.cells #[x] T)).cell? ((⟨w.heap.size, 0, none⟩ : Addr).add j) = some u := cell_one_new w x T

set_option maxRecDepth 100000 in
set_option maxHeartbeats 4000000 in
theorem rUnescape_ok (s : ByteArray) (L : List Nat) (hC : allC L) (hl : s.data.toList = ens L) (hs : s.size ≤ 4096) (w : World) :
    Calls Tryd.prog 12 #[.string s] w (TxP (unL s.data.toList) (unE s.data.toList) w) := by
  obtain ⟨i0, hi, hz0, hz1, hz2⟩ := info_parts infoB
  have HK : Hid (∀ w, Calls Tryd.prog 29 #[.string s] w (ErrS 0 w)) := fun w => by
    have := Checked_any s w
    rwa [ckE_ok hs hC hl] at this
  obtain ⟨l0, hl0⟩ : ∃ l0, l0 = s.data.toList := ⟨_, rfl⟩
  have hsl : s.size = l0.length := by rw [hl0, ← Lib.size_eq]
  have HSL := Lib.hid hsl
  have HAT : Hid (∀ k (h : k < s.size) (h2 : k < l0.length), s[k] = l0[k]) := fun k h h2 => by
    have h4 := getElem_list s k h
    rw [← hl0, List.getElem?_eq_getElem h2] at h4
    exact (Option.some.inj h4).symm
  have HEX : Hid (∀ k, s.extract k s.size = bs (l0.drop k)) := fun k => by
    rw [← bs_of (s.extract k s.size), extract_list, hl0]
  rw [← hl0]
  have H0 : Hid (UnAt l0 [] (l0.drop 0)) := .start (by rw [← hsl]; exact hs)
  have HP : Hid (∀ x n w', x = bs (unL l0) → n = unE l0 → Below w.heap.size w w' → TxP (unL l0) (unE l0) w (.returned (.tuple #[.string x, .int .i64 n])) w') := fun x n w' h1 h2 h => by
    subst h1
    subst h2
    exact ⟨rfl, h⟩
  have HN : Hid (Bytes w.heap.size (.slice none 0 0) [] w) := World.ownsRow_nil _ _ _ _
  have HB := Lib.hid (Below.refl w.heap.size w)
  clear hl hl0 hC
  generalize hR1 : unL l0 = R1 at *
  generalize hR2 : unE l0 = R2 at *
  have HR1 := Lib.hid hR1
  have HR2 := Lib.hid hR2
  clear hR1 hR2 hsl
  go_enter Tryd.func12, Tryd.ntmps12
  go_wp2_with fail
  refine (HK.out _).mono ?_
  rintro e w' ⟨rfl, rfl⟩
  go_wp2
  go_loopw [5, 6] (fun v iv wr => ∃ (k : Nat) (out : List UInt8) (ao : Option Addr) (cv : Nat), k ≤ s.size ∧ iv = .int .i64 k ∧ v = .slice ao out.length cv ∧ Hid (UnAt l0 out (l0.drop k)) ∧ Hid (Bytes w.heap.size v out wr) ∧ Hid (Below w.heap.size w wr)) (fun _ iv _ => s.size - (intOf iv).toNat)
  case atStart => exact ⟨0, [], none, 0, by omega, rfl, rfl, H0, HN, HB⟩
  case round =>
    obtain ⟨k, out, ao, cv, hk, rfl, rfl, hat, hby, hbl⟩ := hrel
    have hlen := hat.out.2
    have hsize := hbl.out.size
    have hown : wr.ownsRow w.heap.size 5 1 (.slice ao out.length cv) out.length (Lib.byteCells out) := hby.out
    by_cases hlt : k < s.size
    · have hlt2 : k < l0.length := by have := HSL.out; omega
      have hd : l0.drop k = l0[k] :: l0.drop (k + 1) := List.drop_eq_getElem_cons hlt2
      have hA : UnAt l0 out (l0[k] :: l0.drop (k + 1)) := by
        have := hat.out
        rwa [hd] at this
      have hsk := HAT.out k hlt hlt2
      by_cases hb : l0[k] = 92
      · rw [hb] at hA hsk
        have hsn : s[k].toNat = 92 := by rw [hsk]; rfl
        have f1 : ((s[k].toNat : Int) != 92) = false := by rw [hsn]; rfl
        by_cases h2 : ∃ r, l0.drop (k + 1) = 92 :: r
        · obtain ⟨r, hr⟩ := h2
          have hk2 : k + 1 < l0.length := by
            have := congrArg List.length hr
            simp at this
            omega
          have hk3 : k + 1 < s.size := by have := HSL.out; omega
          have hr2 : l0[k + 1] = 92 ∧ l0.drop (k + 2) = r := by
            rw [List.drop_eq_getElem_cons hk2] at hr
            exact List.cons.inj hr
          have hs2 : s[k + 1].toNat = 92 := by rw [HAT.out (k + 1) hk3 hk2, hr2.1]; rfl
          have f2 : ((s[k + 1].toNat : Int) == 92) = true := by rw [hs2]; rfl
          rw [hr] at hA
          have hA2 : UnAt l0 (out ++ [92]) (l0.drop (k + 2)) := by
            rw [hr2.2]
            exact hA.esc (c := 92) (r := r) rfl
          have HA2 := Lib.hid hA2
          have hf3 : (k : Int) + 1 < (s.size : Int) := by omega
          clear hA hA2 hr2 hr hb hsk hsn hs2 hd hat
          go_wp2_with (first
            | (at_builtin; refine wpList_append_own _ rfl _ _ 43 rfl w.heap.size 5 i0 (.int .u8 0) 1 1 Tryd.underlying43 hi hz0 hz1 hz2 rfl (by decide) _ _ _ rfl (hown.alloc _) ⟨wr.heap.size, 0, none⟩ 1 1 [.int .u8 (((92 : UInt8).toNat : Nat) : Int)] rfl rfl (cell_one_new _ _ _) (fun x hx => by simp at hx; subst hx; rfl) (by unfold maxLen; omega) (by omega) (by simp; omega) ?_; intro v' w3 hown' hgrow3 hnil3))
          have hb3 : Hid (Below w.heap.size w w3) := (hbl.out.alloc hsize _).grown hgrow3 (by simp; omega) (fun q hq => (hown.lt q hq).1)
          have HBY : Hid (Bytes w.heap.size v' (out ++ [92]) w3) := Bytes.more hown'
          obtain ⟨ao2, cv2, rfl⟩ := HBY.out.form
          clear hown' hgrow3 hnil3 hown
          go_wp2
          go_roundw
          case rel => exact ⟨k + 2, out ++ [92], ao2, cv2, by omega, by go_num, rfl, HA2, HBY, hb3⟩
          case measure => simp [intOf]; omega
        · have hn2 : ∀ r, l0.drop (k + 1) ≠ 92 :: r := fun r h => h2 ⟨r, h⟩
          have HBX : Hid (∀ w, Calls Tryd.prog 41 #[.string (bs (l0.drop (k + 1)))] w (BxP (l0.drop (k + 1)) w)) := fun w => rBraced_any _ hn2 (by rw [List.length_drop]; have := HSL.out; omega) w
          have hex := HEX.out (k + 1)
          have htl : (l0.drop (k + 1)).length = s.size - (k + 1) := by rw [List.length_drop, HSL.out]
          have hcase : (s.size ≤ k + 1) ∨ (∃ h : k + 1 < s.size, ((s[k + 1].toNat : Int) == 92) = false) := by
            by_cases h3 : k + 1 < s.size
            · refine .inr ⟨h3, ?_⟩
              have h4 : k + 1 < l0.length := by have := HSL.out; omega
              rw [beq_eq_false_iff_ne]
              intro h5
              have h6 : l0[k + 1] = 92 := by
                rw [← HAT.out (k + 1) h3 h4]
                exact UInt8.toNat_inj.1 (by show _ = 92; omega)
              exact hn2 (l0.drop (k + 2)) (by rw [List.drop_eq_getElem_cons h4, h6])
            · exact .inl (by omega)
          have hle : k + 1 ≤ s.size := by omega
          cases he : esb (l0.drop (k + 1)) with
          | none =>
            obtain ⟨e1, e2⟩ := hA.bad he
            have HQ : Hid ((⟨#[]⟩ : ByteArray) = bs R1 ∧ (2 : Int) = R2) := ⟨by rw [← HR1.out, e1]; rfl, by rw [← HR2.out, e2]⟩
            have HV : Hid (bxV (l0.drop (k + 1)) = .tuple #[.int .i64 0, .int .i64 0]) := by
              show _ = _
              unfold bxV
              rw [he]
            clear hA e1 e2 he hb hsk hsn hd hat htl hn2 h2
            generalize bs (l0.drop (k + 1)) = T at *
            rcases hcase with hc | ⟨hc, f2⟩
            · have f3 : (s.size : Int) ≤ (k : Int) + 1 := by omega
              clear hc
              go_wp2_with (go_at_call 41; refine (HBX.out _).mono ?_; rintro e w' ⟨rfl, rfl⟩; rw [HV.out])
              go_ret2
              exact HP.out _ _ _ HQ.out.1 HQ.out.2 hbl.out
            · have f3 : (k : Int) + 1 < (s.size : Int) := by omega
              go_wp2_with (go_at_call 41; refine (HBX.out _).mono ?_; rintro e w' ⟨rfl, rfl⟩; rw [HV.out])
              go_ret2
              exact HP.out _ _ _ HQ.out.1 HQ.out.2 hbl.out
          | some p =>
            obtain ⟨c, r⟩ := p
            have hsh := esb_shorter he
            have hA2 : UnAt l0 (out ++ en c) r := hA.esc he
            have hsuf := esb_suffix he
            obtain ⟨n, hn⟩ : ∃ n, n = (l0.drop (k + 1)).length - r.length := ⟨_, rfl⟩
            rw [← hn, List.drop_drop] at hsuf
            have HV : Hid (bxV (l0.drop (k + 1)) = .tuple #[.int .i64 c, .int .i64 (n : Nat)]) := by
              show _ = _
              unfold bxV
              rw [he, hn]
            have hn0 : 0 < n := by omega
            have hn1 : k + 1 + n ≤ s.size := by omega
            have HA2 : Hid (UnAt l0 (out ++ en c) (l0.drop (k + n + 1))) := by
              show UnAt _ _ _
              rw [show k + n + 1 = k + 1 + n by omega, hsuf]
              exact hA2
            have HO := Lib.hid (fun w => one_any c hsh.2 w)
            unfold StrP at HO
            have hszn : (bs (en c)).size = (en c).length := bs_size _
            have HSZ := Lib.hid hszn
            have hszb : (bs (en c)).size ≤ 4 := by have := (en_length c).2; omega
            have f4 : ((n : Int) == 0) = false := by rw [beq_eq_false_iff_ne]; omega
            have HBL2 := Lib.hid hbl.out
            clear hA hA2 he hb hsk hsn hd hat htl hn2 h2 hsuf hn hsh hszn
            generalize bs (l0.drop (k + 1)) = T at *
            have hgo : ∀ w2, Below wr.heap.size wr w2 → w2.ownsRow w.heap.size 5 1 (.slice ao out.length cv) out.length (Lib.byteCells out) := fun w2 h => owns_below hown h
            have HGO := Lib.hid hgo
            clear hgo hown
            rcases hcase with hc | ⟨hc, f2⟩
            · exfalso
              omega
            · have f3 : (k : Int) + 1 < (s.size : Int) := by omega
              go_wp2_with fail
              refine (HBX.out _).mono ?_
              rintro e w' ⟨rfl, rfl⟩
              rw [HV.out]
              go_wp2_with fail
              refine (HO.out _).mono ?_
              rintro e w2 ⟨rfl, hb2⟩
              have HB2 : Hid (Below w.heap.size w w2) := HBL2.out.trans (hb2.mono HBL2.out.size)
              have hown2 := HGO.out w2 hb2
              have HOW2 := Lib.hid hown2
              have hsize2 := HB2.out.size
              clear hb2
              go_wp2_with (first
                | (at_builtin; refine Lib.wpList_append_own_string _ rfl _ _ 43 9 rfl w.heap.size 5 i0 Tryd.underlying43 Tryd.underlying9 hi hz0 hz1 hz2 _ _ _ rfl hown2 (bs (en c)) rfl (by unfold maxLen; omega) (by omega) (by omega) ?_; intro v' w3 hown' hgrow3 hnil3))
              have hb3 : Hid (Below w.heap.size w w3) := HB2.out.grown hgrow3 hsize2 (fun q hq => (HOW2.out.lt q hq).1)
              have HBY : Hid (Bytes w.heap.size v' (out ++ en c) w3) := by
                show Bytes _ _ _ _
                unfold Bytes
                rw [byteCells_app, List.length_append, ← HSZ.out]
                exact hown'
              obtain ⟨ao2, cv2, rfl⟩ := HBY.out.form
              clear hown' hgrow3 hnil3 hown2
              go_wp2
              go_roundw
              case rel => exact ⟨k + n + 1, out ++ en c, ao2, cv2, by omega, by go_num, rfl, HA2, HBY, hb3⟩
              case measure => simp [intOf]; omega
      · have hA2 : UnAt l0 (out ++ [l0[k]]) (l0.drop (k + 1)) := by
          refine UnAt.plain (d := [l0[k]]) hA ?_
          simpa using fun h => hb h.symm
        have hsn : s[k].toNat ≠ 92 := by
          rw [hsk]
          intro h
          exact hb (UInt8.toNat_inj.1 h)
        have f1 : ((s[k].toNat : Int) != 92) = true := by rw [bne_iff_ne]; omega
        rw [← hsk] at hA2
        have HA2 := Lib.hid hA2
        clear hA hA2 hb hsk hsn hd hat
        generalize hx : s[k] = b at *
        go_wp2_with (first
          | (at_builtin; refine wpList_append_own _ rfl _ _ 43 rfl w.heap.size 5 i0 (.int .u8 0) 1 1 Tryd.underlying43 hi hz0 hz1 hz2 rfl (by decide) _ _ _ rfl (hown.alloc _) ⟨wr.heap.size, 0, none⟩ 1 1 [.int .u8 (b.toNat : Int)] rfl rfl (cell_one_new _ _ _) (fun x hx => by simp at hx; subst hx; rfl) (by unfold maxLen; omega) (by omega) (by simp; omega) ?_; intro v' w3 hown' hgrow3 hnil3))
        have hb3 : Hid (Below w.heap.size w w3) := (hbl.out.alloc hsize _).grown hgrow3 (by simp; omega) (fun q hq => (hown.lt q hq).1)
        have HBY : Hid (Bytes w.heap.size v' (out ++ [b]) w3) := Bytes.more hown'
        obtain ⟨ao2, cv2, rfl⟩ := HBY.out.form
        clear hown' hgrow3 hnil3 hown
        go_wp2
        go_roundw
        case rel => exact ⟨k + 1, out ++ [b], ao2, cv2, by omega, by go_num, rfl, HA2, HBY, hb3⟩
        case measure => simp [intOf]; omega
    · have hd : l0.drop k = [] := List.drop_eq_nil_of_le (by have := HSL.out; omega)
      have hat2 := hat.out
      rw [hd] at hat2
      obtain ⟨e1, e2⟩ := hat2.done (by simp)
      rw [List.append_nil] at e1 e2
      have HQ : Hid (bs (szL out) = bs R1 ∧ szE out = R2) := ⟨by rw [← HR1.out, e1], by rw [← HR2.out, e2]⟩
      have HSZ : Hid (∀ w, Calls Tryd.prog 33 #[.string (bs out)] w (TxS (szL out) (szE out) w)) := fun w => sized_any _ w (by omega)
      have hcv := hby.out.back
      clear e1 e2 hat2 hd hlen hown hat
      generalize out.length = n at *
      go_wp2_with fail
      refine (HSZ.out _).mono ?_
      rintro e w' ⟨rfl, rfl⟩
      go_wp2
      go_ret2
      exact HP.out _ _ _ HQ.out.1 HQ.out.2 hbl.out

end Go.Proofs.YtegckpkancbnmaaDoor
