/-
  A text whose pieces are replaced; unslashed. Conditions: texts of at most 100000 bytes.
-/
import Derived.Test.YtnfoafcpcabpmaaDoorFl
namespace Go.Proofs.YtnfoafcpcabpmaaDoor
open Go.RowKit

def SsS (l : List UInt8) (w : World) (e : Ending) (w' : World) : Prop := e = .returned (.string (bs l)) ∧ w = w'
def SsP (l : List UInt8) (w : World) (e : Ending) (w' : World) : Prop := e = .returned (.string (bs l)) ∧ Below w.heap.size w w'
/-- A text whose bytes, or a backslash with the byte behind it, are replaced. -/
def rwL (g : List UInt8 → List UInt8) : List UInt8 → List UInt8
  | [] => []
  | [b] => g [b]
  | b :: c :: t => if b = 92 then g [b, c] ++ rwL g t else g [b] ++ rwL g (c :: t)
theorem rwL_two (g : List UInt8 → List UInt8) (c : UInt8) (t : List UInt8) : rwL g (92 :: c :: t) = g [92, c] ++ rwL g t := by
  show (if (92 : UInt8) = 92 then _ else _) = _
  rw [if_pos rfl]
theorem rwL_one (g : List UInt8 → List UInt8) (b : UInt8) (t : List UInt8) (h : b ≠ 92 ∨ t = []) : rwL g (b :: t) = g [b] ++ rwL g t := by
  match t with
  | [] => simp [rwL]
  | c :: t =>
    have hb : b ≠ 92 := by
      rcases h with h | h
      · exact h
      · cases h
    show (if b = 92 then _ else _) = _
    rw [if_neg hb]
def stLen : Value → Nat | .string x => x.size | _ => 0
theorem bs_cons (b : UInt8) (t : List UInt8) : (bs (b :: t)).size = t.length + 1 := by rw [bs_size]; rfl
theorem bs_ne (b : UInt8) (t : List UInt8) : (bs (b :: t)).toList.isEmpty = false := by
  rw [Lib.toList_data, bs_list]
  rfl
theorem bs_zero (b : UInt8) (t : List UInt8) (h : 0 < (bs (b :: t)).size) : (bs (b :: t))[0] = b := by
  have := getElem_list2 (bs (b :: t)) 0 h
  rw [bs_list] at this
  exact (Option.some.inj this).symm

set_option maxRecDepth 100000 in
set_option maxHeartbeats 4000000 in
/-- A text with its pieces replaced, by a function that captures nothing. -/
theorem rewritten_any (F : Nat) (g : List UInt8 → List UInt8) (hg : ∀ p, p.length ≤ 2 → (g p).length ≤ 4) (l0 : List UInt8) (hs : l0.length ≤ 100000) (w : World)
    (er : ∀ args w, (callFunc F args).run Tryd.prog w = .ok (.enter F args) w)
    (hf : ∀ p, p.length ≤ 2 → p ≠ [] → ∀ w, Calls Tryd.prog F #[.string (bs p)] w (SsS (g p) w)) :
    Calls Tryd.prog 85 #[.string (bs l0), .func (.func F) #[] #[]] w (SsP (rwL g l0) w) := by
  have HP : Hid (∀ l w', l = rwL g l0 → Below w.heap.size w w' → SsP (rwL g l0) w (.returned (.string (bs l))) w') := fun l w' h1 h2 => by
    subst h1
    exact ⟨rfl, h2⟩
  have HF : Hid (∀ p, p.length ≤ 2 → p ≠ [] → ∀ w, Calls Tryd.prog F #[.string (bs p)] w (SsS (g p) w)) := hf
  have HW : Hid (∀ (q out : List UInt8) w', Bld w.heap.size w.heap.size out w' → out.length ≤ 500000 → q.length ≤ 4 → w.heap.size ≤ w'.heap.size → Calls Tryd.prog 31 #[.pointer (some ⟨w.heap.size, 0, none⟩), .string (bs q)] w' (WrP (bs q).size w.heap.size w.heap.size (out ++ q) w')) := fun q out w' h1 h2 h3 h4 => by
    have := WriteString_any w.heap.size w.heap.size out (bs q) w' h1 (by rw [bs_size]; omega) h4
    rwa [bs_list] at this
  have HG := Lib.hid hg
  have HF0 : Hid (Bld w.heap.size w.heap.size [] (w.alloc (.cells #[.pointer none, .slice none 0 0] 53))) := Bld.fresh _ w (Nat.le_refl _)
  have HB0 : Hid (Below w.heap.size w (w.alloc (.cells #[.pointer none, .slice none 0 0] 53))) := (Below.refl _ _).alloc (Nat.le_refl _) _
  have H00 : Hid (rwL g l0 = [] ++ rwL g l0) := rfl
  clear hf hg
  go_enter Tryd.func85, Tryd.ntmps85
  go_wp2
  generalize w.alloc (.cells #[.pointer none, .slice none 0 0] 53) = w1 at *
  go_loopw [0] (fun sv wr => ∃ (l out : List UInt8), sv = .string (bs l) ∧ l.length ≤ l0.length ∧ out.length + 4 * l.length ≤ 4 * l0.length ∧ Hid (rwL g l0 = out ++ rwL g l) ∧ Hid (Bld w.heap.size w.heap.size out wr) ∧ Hid (Below w.heap.size w wr)) (fun sv _ => stLen sv)
  case atStart => exact ⟨l0, [], rfl, Nat.le_refl _, by simp, H00, HF0, HB0⟩
  case round =>
    obtain ⟨l, out, rfl, hll, hol, hrw, hbd, hbl⟩ := hrel
    match l with
    | [] =>
      have hemp : (bs []).toList.isEmpty = true := by rw [Lib.toList_data]; rfl
      have HST := Lib.hid (String_any _ _ out wr hbd.out hbl.out.size)
      have HN : Hid (out = rwL g l0) := by
        show _ = _
        rw [hrw.out]
        simp [rwL]
      clear hol hll
      generalize bs [] = s at *
      go_wp2_with fail
      refine (HST.out).mono ?_
      rintro e w3 ⟨rfl, hk3⟩
      have HBL3 : Hid (Below w.heap.size w w3) := hbl.out.trans hk3.2.1
      clear hk3
      go_wp2
      go_ret
      exact HP.out _ _ HN.out HBL3.out
    | b :: t =>
      have hsz := bs_cons b t
      have hne := bs_ne b t
      have hpos : 0 < (bs (b :: t)).size := by omega
      have hb0 := bs_zero b t hpos
      have x1 : (bs (b :: t)).extract 0 1 = bs [b] := bs_take [b] t 1 rfl
      have x2 : (bs (b :: t)).extract 1 (bs (b :: t)).size = bs t := bs_drop [b] t 1 rfl
      simp only [List.length_cons] at hll hol
      by_cases h92 : b = 92 ∧ t ≠ []
      · obtain ⟨rfl, hne2⟩ := h92
        match t, hne2 with
        | c :: r, _ =>
          have y1 : (bs (92 :: c :: r)).extract 0 2 = bs [92, c] := bs_take [92, c] r 2 rfl
          have y2 : (bs (92 :: c :: r)).extract 2 (bs (92 :: c :: r)).size = bs r := bs_drop [92, c] r 2 rfl
          have HN : Hid (rwL g l0 = (out ++ g [92, c]) ++ rwL g r) := by
            show _ = _
            rw [hrw.out, rwL_two, List.append_assoc]
          have hg2 := HG.out [92, c] (by simp)
          have hf2 := Lib.hid (HF.out [92, c] (by simp) (by simp))
          have HWs := Lib.hid (HW.out (g [92, c]) out)
          simp only [List.length_cons] at hll hol hsz
          have HME : Hid ((bs r).size < (bs (92 :: c :: r)).size) := by
            show _ < _
            rw [hsz, bs_size]
            omega
          have f1 : (((bs (92 :: c :: r))[0].toNat : Int) == 92) = true := by rw [hb0]; rfl
          have z2 : min (2 : Int) ((bs (92 :: c :: r)).size : Int) = 2 := by omega
          have z3 : 2 ≤ (bs (92 :: c :: r)).size := by omega
          clear x1 x2 hsz hb0
          generalize bs (92 :: c :: r) = s at *
          go_wp2_with fail
          refine (hf2.out _).mono ?_
          rintro e w2 ⟨rfl, rfl⟩
          go_wp2_with fail
          refine (HWs.out _ hbd.out (by omega) hg2 hbl.out.size).mono ?_
          rintro e w3 ⟨rfl, hk3⟩
          have HBD3 : Hid (Bld w.heap.size w.heap.size (out ++ g [92, c]) w3) := hk3.1
          have HBL3 : Hid (Below w.heap.size w w3) := hbl.out.trans hk3.2.1
          clear hk3
          go_wp2
          go_roundw
          case rel => exact ⟨r, out ++ g [92, c], rfl, by omega, by rw [List.length_append]; omega, HN, HBD3, HBL3⟩
          case measure =>
            have := HME.out
            simpa [stLen] using this
      · have HN : Hid (rwL g l0 = (out ++ g [b]) ++ rwL g t) := by
          show _ = _
          rw [hrw.out, rwL_one g b t (by
            by_cases hb : b = 92
            · exact .inr (Classical.byContradiction fun h => h92 ⟨hb, h⟩)
            · exact .inl hb), List.append_assoc]
        have hg2 := HG.out [b] (by simp)
        have hf2 := Lib.hid (HF.out [b] (by simp) (by simp))
        have HWs := Lib.hid (HW.out (g [b]) out)
        have HME : Hid ((bs t).size < (bs (b :: t)).size) := by
          show _ < _
          rw [hsz, bs_size]
          omega
        by_cases hb : b = 92
        · have ht : t = [] := Classical.byContradiction fun h => h92 ⟨hb, h⟩
          have f1 : (((bs (b :: t))[0].toNat : Int) == 92) = true := by rw [hb0, hb]; rfl
          have z2 : min (2 : Int) ((bs (b :: t)).size : Int) = 1 := by
            rw [hsz, ht]
            decide
          clear hsz hb0 hb ht h92
          generalize bs (b :: t) = s at *
          go_wp2_with fail
          refine (hf2.out _).mono ?_
          rintro e w2 ⟨rfl, rfl⟩
          go_wp2_with fail
          refine (HWs.out _ hbd.out (by omega) hg2 hbl.out.size).mono ?_
          rintro e w3 ⟨rfl, hk3⟩
          have HBD3 : Hid (Bld w.heap.size w.heap.size (out ++ g [b]) w3) := hk3.1
          have HBL3 : Hid (Below w.heap.size w w3) := hbl.out.trans hk3.2.1
          clear hk3
          go_wp2
          go_roundw
          case rel => exact ⟨t, out ++ g [b], rfl, by omega, by rw [List.length_append]; omega, HN, HBD3, HBL3⟩
          case measure =>
            have := HME.out
            simpa [stLen] using this
        · have f1 : (((bs (b :: t))[0].toNat : Int) == 92) = false := by rw [hb0]; exact u8_ne (b := 92) hb
          clear hsz hb0 hb h92
          generalize bs (b :: t) = s at *
          go_wp2_with fail
          refine (hf2.out _).mono ?_
          rintro e w2 ⟨rfl, rfl⟩
          go_wp2_with fail
          refine (HWs.out _ hbd.out (by omega) hg2 hbl.out.size).mono ?_
          rintro e w3 ⟨rfl, hk3⟩
          have HBD3 : Hid (Bld w.heap.size w.heap.size (out ++ g [b]) w3) := hk3.1
          have HBL3 : Hid (Below w.heap.size w w3) := hbl.out.trans hk3.2.1
          clear hk3
          go_wp2
          go_roundw
          case rel => exact ⟨t, out ++ g [b], rfl, by omega, by rw [List.length_append]; omega, HN, HBD3, HBL3⟩
          case measure =>
            have := HME.out
            simpa [stLen] using this

end Go.Proofs.YtnfoafcpcabpmaaDoor
