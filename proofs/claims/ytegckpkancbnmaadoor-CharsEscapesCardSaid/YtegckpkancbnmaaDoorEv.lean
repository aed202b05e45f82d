/-
  chars.Unescape, whole. Conditions: the variable strconv.ErrSyntax holds an error.
-/
import Derived.Test.YtegckpkancbnmaaDoorEu
namespace Go.Proofs.YtegckpkancbnmaaDoor
open Go.RowKit

/-- What Unescape gives of a text that is one. -/
def unL (l : List UInt8) : List UInt8 := match une l with | some r => szL r | none => []
def unE (l : List UInt8) : Int := match une l with | some r => szE r | none => 2
/-- Where the loop of Unescape stands: what has been written, what is left. -/
def UnAt (l0 out l : List UInt8) : Prop := une l0 = (une l).map (out ++ ·) ∧ out.length + 4 * l.length ≤ 16384
theorem UnAt.start {l : List UInt8} (h : l.length ≤ 4096) : UnAt l [] l := by
  refine ⟨?_, by simp; omega⟩
  cases une l <;> rfl
theorem UnAt.plain {l0 out d t : List UInt8} (h : UnAt l0 out (d ++ t)) (hd : (92 : UInt8) ∉ d) : UnAt l0 (out ++ d) t := by
  refine ⟨?_, ?_⟩
  · rw [h.1, une_app d t hd]
    cases une t
    · rfl
    · simp
  · have := h.2
    rw [List.length_append] at this ⊢
    omega
theorem UnAt.esc {l0 out t r : List UInt8} {c : Nat} (h : UnAt l0 out (92 :: t)) (he : esb t = some (c, r)) : UnAt l0 (out ++ en c) r := by
  refine ⟨?_, ?_⟩
  · rw [h.1, une_esc he]
    cases une r
    · rfl
    · simp
  · have h1 := h.2
    have h2 := (esb_shorter he).1
    have h3 := (en_length c).2
    rw [List.length_append]
    simp at h1
    omega
theorem UnAt.done {l0 out l : List UInt8} (h : UnAt l0 out l) (hd : (92 : UInt8) ∉ l) : unL l0 = szL (out ++ l) ∧ unE l0 = szE (out ++ l) := by
  unfold unL unE
  rw [show une l0 = some (out ++ l) by
    rw [h.1]
    have := une_app l [] hd
    rw [List.append_nil] at this
    rw [this]
    simp [une_nil]]
  exact ⟨rfl, rfl⟩
theorem UnAt.bad {l0 out t : List UInt8} (h : UnAt l0 out (92 :: t)) (he : esb t = none) : unL l0 = [] ∧ unE l0 = 2 := by
  unfold unL unE
  rw [show une l0 = none by
    rw [h.1, une_bad he]
    rfl]
  exact ⟨rfl, rfl⟩

theorem Unescape_bad (s : ByteArray) (hb : ckE s ≠ 0) (w : World) : Calls Tryd.prog 11 #[.string s] w (TxP [] (ckE s) w) := by
  have HK := Lib.hid (fun w => check1_any s w)
  have hn : (ckE s != 0) = true := by simpa using hb
  have HP : Hid (∀ w w', Below w.heap.size w w' → TxP [] (ckE s) w (.returned (.tuple #[.string ⟨#[]⟩, .int .i64 (ckE s)])) w') := fun w w' h => ⟨rfl, h⟩
  clear hb
  generalize ckE s = x at *
  go_enter Tryd.func11, Tryd.ntmps11
  go_wp2_with fail
  refine (HK.out _).mono ?_
  rintro e w' ⟨rfl, hb⟩
  have HB := Lib.hid hb
  clear hb
  go_wp2
  go_ret2
  exact HP.out _ _ HB.out

def strIs (v : Value) : ByteArray := match v with | .string x => x | _ => ⟨#[]⟩

set_option maxRecDepth 100000 in
set_option maxHeartbeats 2000000 in
theorem Unescape_ok (s : ByteArray) (L : List Nat) (hC : allC L) (hl : s.data.toList = ens L) (hs : s.size ≤ 4096) (w : World) (hE : ErrAt w) :
    Calls Tryd.prog 11 #[.string s] w (TxP (unL s.data.toList) (unE s.data.toList) w) := by
  have HK : Hid (∀ w, Calls Tryd.prog 34 #[.slice (some ⟨w.heap.size, 0, none⟩) 1 1] (w.alloc (.cells #[.string s] 9)) (ErrP 0 w)) := fun w => by
    have := check1_any s w
    rwa [ckE_ok hs hC hl] at this
  have hsz : s.data.toList.length ≤ 4096 := by rw [← Lib.size_eq]; exact hs
  obtain ⟨l0, hl0⟩ : ∃ l0, l0 = s.data.toList := ⟨_, rfl⟩
  have hsb : s = bs l0 := by rw [hl0, bs_of]
  rw [← hl0] at hsz ⊢
  have H0 : Hid (UnAt l0 [] l0) := .start hsz
  have HP : Hid (∀ x n w', x = bs (unL l0) → n = unE l0 → Below w.heap.size w w' → TxP (unL l0) (unE l0) w (.returned (.tuple #[.string x, .int .i64 n])) w') := fun x n w' h1 h2 h => by
    subst h1
    subst h2
    exact ⟨rfl, h⟩
  have HES : Hid (∀ w' t, Below w.heap.size w w' → t.length ≤ 4096 → Calls Tryd.prog 39 #[.string (bs t)] w' (EsP t w')) := fun w' t hb ht => escaped_any t (by omega) w' (hE.later hb)
  clear hl hl0 hC hE hs hsz
  subst hsb
  generalize hR1 : unL l0 = R1 at *
  generalize hR2 : unE l0 = R2 at *
  have HR1 := Lib.hid hR1
  have HR2 := Lib.hid hR2
  clear hR1 hR2
  go_enter Tryd.func11, Tryd.ntmps11
  go_wp2_with fail
  refine (HK.out _).mono ?_
  rintro e w1 ⟨rfl, hb1⟩
  have HB1 := Lib.hid hb1
  clear hb1
  go_wp2_with fail
  have HF0 : Hid (Bld w1.heap.size w1.heap.size [] (w1.alloc (.cells #[.pointer none, .slice none 0 0] 45))) := Bld.fresh _ w1 (Nat.le_refl _)
  have HB2 : Hid (Below w.heap.size w (w1.alloc (.cells #[.pointer none, .slice none 0 0] 45))) := HB1.out.alloc HB1.out.size _
  have HS1 : Hid (w1.heap.size ≤ (w1.alloc (.cells #[.pointer none, .slice none 0 0] 45)).heap.size) := by
    show _ ≤ _
    simp
  have HBB : Hid (w.heap.size ≤ w1.heap.size) := HB1.out.size
  generalize w1.alloc (.cells #[.pointer none, .slice none 0 0] 45) = w2 at *
  generalize w1.heap.size = b at *
  go_loopw [0] (fun sv wr => ∃ (l out : List UInt8), sv = .string (bs l) ∧ Hid (UnAt l0 out l) ∧ Hid (Bld b b out wr) ∧ Hid (Below w.heap.size w wr) ∧ Hid (b ≤ wr.heap.size)) (fun sv _ => (strIs sv).size)
  case atStart => exact ⟨l0, [], rfl, H0, HF0, HB2, HS1⟩
  case round =>
    obtain ⟨l, out, rfl, hat, hbd, hbl, hbs⟩ := hrel
    have hlen := hat.out.2
    by_cases hm : (92 : UInt8) ∈ l
    · obtain ⟨d, t, hu, hd⟩ := first_of hm
      subst hu
      have hA1 : UnAt l0 (out ++ d) (92 :: t) := hat.out.plain hd
      have hlen1 := hA1.2
      rw [List.length_append] at hlen1
      simp only [List.length_cons] at hlen1
      have HC := Lib.hid (fun w => sCut_hit 92 d t hd (by omega) w)
      have HME : Hid ((bs t).size < (bs (d ++ 92 :: t)).size) := by
        show _ < _
        rw [bs_size, bs_size, List.length_append, List.length_cons]
        omega
      have HWS : Hid (∀ w', Bld b b out w' → b ≤ w'.heap.size → Calls Tryd.prog 36 #[.pointer (some ⟨b, 0, none⟩), .string (bs d)] w' (WrP (bs d).size b b (out ++ d) w')) := fun w' h1 h2 => by
        have := WriteString_any b b out (bs d) w' h1 (by rw [bs_size]; omega) h2
        rwa [bs_list] at this
      have HEt : Hid (∀ w', Below w.heap.size w w' → Calls Tryd.prog 39 #[.string (bs t)] w' (EsP t w')) := fun w' h => HES.out w' t h (by omega)
      generalize bs (d ++ 92 :: t) = s at *
      generalize bs d = td at *
      cases he : esb t with
      | none =>
        obtain ⟨e1, e2⟩ := hA1.bad he
        have HQ : Hid ((⟨#[]⟩ : ByteArray) = bs R1 ∧ (2 : Int) = R2) := ⟨by rw [← HR1.out, e1]; rfl, by rw [← HR2.out, e2]⟩
        have HV : Hid (esV t = .tuple #[.int .i32 0, .string ⟨#[]⟩, .bool false]) := by
          show _ = _
          unfold esV
          rw [he]
        clear e1 e2 he hlen hlen1 hm hd hA1
        generalize bs t = tt at *
        go_wp2_with fail
        refine (HC.out _).mono ?_
        rintro e w3 ⟨rfl, hb3⟩
        have HBL3 : Hid (Below w.heap.size w w3) := hbl.out.trans (hb3.mono hbl.out.size)
        have HBD3 : Hid (Bld b b out w3) := hbd.out.later hb3
        have HBS3 : Hid (b ≤ w3.heap.size) := Nat.le_trans hbs.out hb3.size
        clear hb3
        go_wp2_with fail
        refine (HWS.out _ HBD3.out HBS3.out).mono ?_
        rintro e w4 ⟨rfl, hk4⟩
        have HBL4 : Hid (Below w.heap.size w w4) := HBL3.out.trans (hk4.2.1.mono HBB.out)
        clear hk4
        go_wp2_with fail
        refine (HEt.out _ HBL4.out).mono ?_
        rintro e w5 ⟨rfl, hb5⟩
        have HBL5 : Hid (Below w.heap.size w w5) := HBL4.out.trans (hb5.mono HBL4.out.size)
        clear hb5
        rw [HV.out]
        go_wp2
        go_ret2
        exact HP.out _ _ _ HQ.out.1 HQ.out.2 HBL5.out
      | some p =>
        obtain ⟨c, r⟩ := p
        have HA2 : Hid (UnAt l0 (out ++ d ++ en c) r) := hA1.esc he
        have hsh := esb_shorter he
        have HV : Hid (esV t = .tuple #[.int .i32 c, .string (bs r), .bool true]) := by
          show _ = _
          unfold esV
          rw [he]
        have HME2 : Hid ((bs r).size < s.size) := by
          show _ < _
          have h1 := HME.out
          rw [bs_size] at h1
          rw [bs_size]
          omega
        have HWR : Hid (∀ w', Bld b b (out ++ d) w' → b ≤ w'.heap.size → Calls Tryd.prog 40 #[.pointer (some ⟨b, 0, none⟩), .int .i32 c] w' (WrP (en c).length b b (out ++ d ++ en c) w')) := fun w' h1 h2 => WriteRune_any b b (out ++ d) c hsh.2 w' h1 (by rw [List.length_append]; omega) h2
        clear he hlen hlen1 hm hd hA1 hsh HME
        generalize bs t = tt at *
        go_wp2_with fail
        refine (HC.out _).mono ?_
        rintro e w3 ⟨rfl, hb3⟩
        have HBL3 : Hid (Below w.heap.size w w3) := hbl.out.trans (hb3.mono hbl.out.size)
        have HBD3 : Hid (Bld b b out w3) := hbd.out.later hb3
        have HBS3 : Hid (b ≤ w3.heap.size) := Nat.le_trans hbs.out hb3.size
        clear hb3
        go_wp2_with fail
        refine (HWS.out _ HBD3.out HBS3.out).mono ?_
        rintro e w4 ⟨rfl, hk4⟩
        have HBL4 : Hid (Below w.heap.size w w4) := HBL3.out.trans (hk4.2.1.mono HBB.out)
        have HBD4 : Hid (Bld b b (out ++ d) w4) := hk4.1
        have HBS4 : Hid (b ≤ w4.heap.size) := Nat.le_trans HBS3.out hk4.2.1.size
        clear hk4
        go_wp2_with fail
        refine (HEt.out _ HBL4.out).mono ?_
        rintro e w5 ⟨rfl, hb5⟩
        have HBL5 : Hid (Below w.heap.size w w5) := HBL4.out.trans (hb5.mono HBL4.out.size)
        have HBD5 : Hid (Bld b b (out ++ d) w5) := HBD4.out.later hb5
        have HBS5 : Hid (b ≤ w5.heap.size) := Nat.le_trans HBS4.out hb5.size
        clear hb5
        rw [HV.out]
        go_wp2_with fail
        refine (HWR.out _ HBD5.out HBS5.out).mono ?_
        rintro e w6 ⟨rfl, hk6⟩
        have HBL6 : Hid (Below w.heap.size w w6) := HBL5.out.trans (hk6.2.1.mono HBB.out)
        have HBD6 : Hid (Bld b b (out ++ d ++ en c) w6) := hk6.1
        have HBS6 : Hid (b ≤ w6.heap.size) := Nat.le_trans HBS5.out hk6.2.1.size
        clear hk6
        go_wp2
        go_roundw
        case rel => exact ⟨r, out ++ d ++ en c, rfl, HA2, HBD6, HBL6, HBS6⟩
        case measure =>
          have := HME2.out
          simpa [strIs] using this
    · have HC := Lib.hid (fun w => sCut_miss 92 l hm w)
      obtain ⟨e1, e2⟩ := hat.out.done hm
      have HQ : Hid (bs (szL (out ++ l)) = bs R1 ∧ szE (out ++ l) = R2) := ⟨by rw [← HR1.out, e1], by rw [← HR2.out, e2]⟩
      have HWS : Hid (∀ w', Bld b b out w' → b ≤ w'.heap.size → Calls Tryd.prog 36 #[.pointer (some ⟨b, 0, none⟩), .string (bs l)] w' (WrP (bs l).size b b (out ++ l) w')) := fun w' h1 h2 => by
        have := WriteString_any b b out (bs l) w' h1 (by rw [bs_size]; omega) h2
        rwa [bs_list] at this
      have HLM : Hid (∀ w, Calls Tryd.prog 37 #[.string (bs (out ++ l))] w (TxS (szL (out ++ l)) (szE (out ++ l)) w)) := fun w => limited_any _ w (by rw [List.length_append]; omega)
      clear e1 e2 hlen hm
      generalize bs l = s at *
      go_wp2_with fail
      refine (HC.out _).mono ?_
      rintro e w3 ⟨rfl, hb3⟩
      have HBL3 : Hid (Below w.heap.size w w3) := hbl.out.trans (hb3.mono hbl.out.size)
      have HBD3 : Hid (Bld b b out w3) := hbd.out.later hb3
      have HBS3 : Hid (b ≤ w3.heap.size) := Nat.le_trans hbs.out hb3.size
      clear hb3
      go_wp2_with fail
      refine (HWS.out _ HBD3.out HBS3.out).mono ?_
      rintro e w4 ⟨rfl, hk4⟩
      have HBL4 : Hid (Below w.heap.size w w4) := HBL3.out.trans (hk4.2.1.mono HBB.out)
      have HBD4 : Hid (Bld b b (out ++ l) w4) := hk4.1
      have HBS4 : Hid (b ≤ w4.heap.size) := Nat.le_trans HBS3.out hk4.2.1.size
      clear hk4
      have HST := Lib.hid (String_any b b (out ++ l) w4 HBD4.out HBS4.out)
      go_wp2_with fail
      refine (HST.out).mono ?_
      rintro e w5 ⟨rfl, hk5⟩
      have HBL5 : Hid (Below w.heap.size w w5) := HBL4.out.trans (hk5.2.1.mono HBB.out)
      clear hk5
      go_wp2_with fail
      refine (HLM.out _).mono ?_
      rintro e w' ⟨rfl, rfl⟩
      go_wp2
      go_ret2
      exact HP.out _ _ _ HQ.out.1 HQ.out.2 HBL5.out

end Go.Proofs.YtegckpkancbnmaaDoor
