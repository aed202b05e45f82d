/-
  A text whose pieces are replaced; unslashed. Conditions: texts of at most 100000 bytes. unslashed; whether a term is expected behind a word, behind a token. Conditions: texts of at most 100000 bytes. A scanner whose rows grow: what an append to one of them leaves of the others. Conditions: none beside those stated.
-/
import Derived.Test.YtaocbhfehncdcaaGreatDoorXM06
namespace Go.Proofs.YtaocbhfehncdcaaGreatDoor
open Go.RowKit

def SsS (l : List UInt8) (w : World) (e : Ending) (w' : World) : Prop := e = .returned (.string (bs l)) ∧ w = w'
def SsP (l : List UInt8) (w : World) (e : Ending) (w' : World) : Prop := e = .returned (.string (bs l)) ∧ Below w.heap.size w w'
/-- A text whose bytes, or a backslash with the byte behind it, are replaced. -/
def rwL (g : List UInt8 → List UInt8) : List UInt8 → List UInt8
  | [] => []
  | [b] => g [b]
  | b :: c :: t => if b = 92 then g [b, c] ++ rwL g t else g [b] ++ rwL g (c :: t)
theorem rwL_two (g : List UInt8 → List UInt8) (c : UInt8) (t : List UInt8) : rwL g (92 :: c :: t) = g [92, c] ++ rwL g t := by
  show (if (92 : UInt8) = 92 then _ else _) = _
  rw [if_pos rfl]
theorem rwL_one (g : List UInt8 → List UInt8) (b : UInt8) (t : List UInt8) (h : b ≠ 92 ∨ t = []) : rwL g (b :: t) = g [b] ++ rwL g t := by
  match t with
  | [] => simp [rwL]
  | c :: t =>
    have hb : b ≠ 92 := by
      rcases h with h | h
      · exact h
      · cases h
    show (if b = 92 then _ else _) = _
    rw [if_neg hb]
def stLen : Value → Nat | .string x => x.size | _ => 0
theorem bs_cons (b : UInt8) (t : List UInt8) : (bs (b :: t)).size = t.length + 1 := by rw [bs_size]; rfl
theorem bs_ne (b : UInt8) (t : List UInt8) : (bs (b :: t)).toList.isEmpty = false := by
  rw [Lib.toList_data, bs_list]
  rfl
theorem bs_zero (b : UInt8) (t : List UInt8) (h : 0 < (bs (b :: t)).size) : (bs (b :: t))[0] = b := by
  have := getElem_list2 (bs (b :: t)) 0 h
  rw [bs_list] at this
  exact (Option.some.inj this).symm

set_option maxRecDepth 100000 in
set_option maxHeartbeats 4000000 in
/-- A text with its pieces replaced, by a function that captures nothing. -/
theorem rewritten_any (F : Nat) (g : List UInt8 → List UInt8) (hg : ∀ p, p.length ≤ 2 → (g p).length ≤ 4) (l0 : List UInt8) (hs : l0.length ≤ 100000) (w : World)
    (er : ∀ args w, (callFunc F args).run Tryz.prog w = .ok (.enter F args) w)
    (hf : ∀ p, p.length ≤ 2 → p ≠ [] → ∀ w, Calls Tryz.prog F #[.string (bs p)] w (SsS (g p) w)) :
    Calls Tryz.prog 201 #[.string (bs l0), .func (.func F) #[] #[]] w (SsP (rwL g l0) w) := by
  have HP : Hid (∀ l w', l = rwL g l0 → Below w.heap.size w w' → SsP (rwL g l0) w (.returned (.string (bs l))) w') := fun l w' h1 h2 => by
    subst h1
    exact ⟨rfl, h2⟩
  have HF : Hid (∀ p, p.length ≤ 2 → p ≠ [] → ∀ w, Calls Tryz.prog F #[.string (bs p)] w (SsS (g p) w)) := hf
  have HW : Hid (∀ (q out : List UInt8) w', Bld w.heap.size w.heap.size out w' → out.length ≤ 500000 → q.length ≤ 4 → w.heap.size ≤ w'.heap.size → Calls Tryz.prog 41 #[.pointer (some ⟨w.heap.size, 0, none⟩), .string (bs q)] w' (WrP (bs q).size w.heap.size w.heap.size (out ++ q) w')) := fun q out w' h1 h2 h3 h4 => by
    have := WriteString_any w.heap.size w.heap.size out (bs q) w' h1 (by rw [bs_size]; omega) h4
    rwa [bs_list] at this
  have HG := Lib.hid hg
  have HF0 : Hid (Bld w.heap.size w.heap.size [] (w.alloc (.cells #[.pointer none, .slice none 0 0] 54))) := Bld.fresh _ w (Nat.le_refl _)
  have HB0 : Hid (Below w.heap.size w (w.alloc (.cells #[.pointer none, .slice none 0 0] 54))) := (Below.refl _ _).alloc (Nat.le_refl _) _
  have H00 : Hid (rwL g l0 = [] ++ rwL g l0) := rfl
  clear hf hg
  go_enter Tryz.func201, Tryz.ntmps201
  go_wp2
  generalize w.alloc (.cells #[.pointer none, .slice none 0 0] 54) = w1 at *
  go_loopw [0] (fun sv wr => ∃ (l out : List UInt8), sv = .string (bs l) ∧ l.length ≤ l0.length ∧ out.length + 4 * l.length ≤ 4 * l0.length ∧ Hid (rwL g l0 = out ++ rwL g l) ∧ Hid (Bld w.heap.size w.heap.size out wr) ∧ Hid (Below w.heap.size w wr)) (fun sv _ => stLen sv)
  case atStart => exact ⟨l0, [], rfl, Nat.le_refl _, by simp, H00, HF0, HB0⟩
  case round =>
    obtain ⟨l, out, rfl, hll, hol, hrw, hbd, hbl⟩ := hrel
    match l with
    | [] =>
      have hemp : (bs []).toList.isEmpty = true := by rw [Lib.toList_data]; rfl
      have HST := Lib.hid (String_any _ _ out wr hbd.out hbl.out.size)
      have HN : Hid (out = rwL g l0) := by
        show _ = _
        rw [hrw.out]
        simp [rwL]
      clear hol hll
      generalize bs [] = s at *
      go_wp2_with fail
      refine (HST.out).mono ?_
      rintro e w3 ⟨rfl, hk3⟩
      have HBL3 : Hid (Below w.heap.size w w3) := hbl.out.trans hk3.2.1
      clear hk3
      go_wp2
      go_ret
      exact HP.out _ _ HN.out HBL3.out
    | b :: t =>
      have hsz := bs_cons b t
      have hne := bs_ne b t
      have hpos : 0 < (bs (b :: t)).size := by omega
      have hb0 := bs_zero b t hpos
      have x1 : (bs (b :: t)).extract 0 1 = bs [b] := bs_take [b] t 1 rfl
      have x2 : (bs (b :: t)).extract 1 (bs (b :: t)).size = bs t := bs_drop [b] t 1 rfl
      simp only [List.length_cons] at hll hol
      by_cases h92 : b = 92 ∧ t ≠ []
      · obtain ⟨rfl, hne2⟩ := h92
        match t, hne2 with
        | c :: r, _ =>
          have y1 : (bs (92 :: c :: r)).extract 0 2 = bs [92, c] := bs_take [92, c] r 2 rfl
          have y2 : (bs (92 :: c :: r)).extract 2 (bs (92 :: c :: r)).size = bs r := bs_drop [92, c] r 2 rfl
          have HN : Hid (rwL g l0 = (out ++ g [92, c]) ++ rwL g r) := by
            show _ = _
            rw [hrw.out, rwL_two, List.append_assoc]
          have hg2 := HG.out [92, c] (by simp)
          have hf2 := Lib.hid (HF.out [92, c] (by simp) (by simp))
          have HWs := Lib.hid (HW.out (g [92, c]) out)
          simp only [List.length_cons] at hll hol hsz
          have HME : Hid ((bs r).size < (bs (92 :: c :: r)).size) := by
            show _ < _
            rw [hsz, bs_size]
            omega
          have f1 : (((bs (92 :: c :: r))[0].toNat : Int) == 92) = true := by rw [hb0]; rfl
          have z2 : min (2 : Int) ((bs (92 :: c :: r)).size : Int) = 2 := by omega
          have z3 : 2 ≤ (bs (92 :: c :: r)).size := by omega
          clear x1 x2 hsz hb0
          generalize bs (92 :: c :: r) = s at *
          go_wp2_with fail
          refine (hf2.out _).mono ?_
          rintro e w2 ⟨rfl, rfl⟩
          go_wp2_with fail
          refine (HWs.out _ hbd.out (by omega) hg2 hbl.out.size).mono ?_
          rintro e w3 ⟨rfl, hk3⟩
          have HBD3 : Hid (Bld w.heap.size w.heap.size (out ++ g [92, c]) w3) := hk3.1
          have HBL3 : Hid (Below w.heap.size w w3) := hbl.out.trans hk3.2.1
          clear hk3
          go_wp2
          go_roundw
          case rel => exact ⟨r, out ++ g [92, c], rfl, by omega, by rw [List.length_append]; omega, HN, HBD3, HBL3⟩
          case measure =>
            have := HME.out
            simpa [stLen] using this
      · have HN : Hid (rwL g l0 = (out ++ g [b]) ++ rwL g t) := by
          show _ = _
          rw [hrw.out, rwL_one g b t (by
            by_cases hb : b = 92
            · exact .inr (Classical.byContradiction fun h => h92 ⟨hb, h⟩)
            · exact .inl hb), List.append_assoc]
        have hg2 := HG.out [b] (by simp)
        have hf2 := Lib.hid (HF.out [b] (by simp) (by simp))
        have HWs := Lib.hid (HW.out (g [b]) out)
        have HME : Hid ((bs t).size < (bs (b :: t)).size) := by
          show _ < _
          rw [hsz, bs_size]
          omega
        by_cases hb : b = 92
        · have ht : t = [] := Classical.byContradiction fun h => h92 ⟨hb, h⟩
          have f1 : (((bs (b :: t))[0].toNat : Int) == 92) = true := by rw [hb0, hb]; rfl
          have z2 : min (2 : Int) ((bs (b :: t)).size : Int) = 1 := by
            rw [hsz, ht]
            decide
          clear hsz hb0 hb ht h92
          generalize bs (b :: t) = s at *
          go_wp2_with fail
          refine (hf2.out _).mono ?_
          rintro e w2 ⟨rfl, rfl⟩
          go_wp2_with fail
          refine (HWs.out _ hbd.out (by omega) hg2 hbl.out.size).mono ?_
          rintro e w3 ⟨rfl, hk3⟩
          have HBD3 : Hid (Bld w.heap.size w.heap.size (out ++ g [b]) w3) := hk3.1
          have HBL3 : Hid (Below w.heap.size w w3) := hbl.out.trans hk3.2.1
          clear hk3
          go_wp2
          go_roundw
          case rel => exact ⟨t, out ++ g [b], rfl, by omega, by rw [List.length_append]; omega, HN, HBD3, HBL3⟩
          case measure =>
            have := HME.out
            simpa [stLen] using this
        · have f1 : (((bs (b :: t))[0].toNat : Int) == 92) = false := by rw [hb0]; exact u8_ne (b := 92) hb
          clear hsz hb0 hb h92
          generalize bs (b :: t) = s at *
          go_wp2_with fail
          refine (hf2.out _).mono ?_
          rintro e w2 ⟨rfl, rfl⟩
          go_wp2_with fail
          refine (HWs.out _ hbd.out (by omega) hg2 hbl.out.size).mono ?_
          rintro e w3 ⟨rfl, hk3⟩
          have HBD3 : Hid (Bld w.heap.size w.heap.size (out ++ g [b]) w3) := hk3.1
          have HBL3 : Hid (Below w.heap.size w w3) := hbl.out.trans hk3.2.1
          clear hk3
          go_wp2
          go_roundw
          case rel => exact ⟨t, out ++ g [b], rfl, by omega, by rw [List.length_append]; omega, HN, HBD3, HBL3⟩
          case measure =>
            have := HME.out
            simpa [stLen] using this

end Go.Proofs.YtaocbhfehncdcaaGreatDoor

namespace Go.Proofs.YtaocbhfehncdcaaGreatDoor
open Go.RowKit

/-- A piece without the backslash before a slash. -/
def usG (p : List UInt8) : List UInt8 := if p = [92, 47] then [47] else p
theorem ne_list (s : ByteArray) (t : List UInt8) (h : s.data.toList ≠ t) : (s.toList == t) = false := by
  rw [Lib.toList_data, beq_eq_false_iff_ne]
  exact h
theorem usG_run (p : List UInt8) (w : World) : Calls Tryz.prog 208 #[.string (bs p)] w (SsS (usG p) w) := by
  by_cases h : p = [92, 47]
  · subst h
    rw [show bs [92, 47] = (⟨#[92, 47]⟩ : ByteArray) from rfl, show usG [92, 47] = [47] from rfl]
    go_enter Tryz.func208, Tryz.ntmps208
    go_wp2
    go_ret
    exact ⟨rfl, rfl⟩
  · have f1 := ne_list (bs p) [92, 47] (by rw [bs_list]; exact h)
    have e : usG p = p := if_neg h
    rw [e]
    clear e h
    go_enter Tryz.func208, Tryz.ntmps208
    go_wp2
    go_ret
    exact ⟨rfl, rfl⟩
theorem e_usG (args : Array Value) (w : World) : (callFunc 208 args).run Tryz.prog w = .ok (.enter 208 args) w := by kernel_rfl
theorem usG_len (p : List UInt8) (h : p.length ≤ 2) : (usG p).length ≤ 4 := by
  unfold usG
  split
  · simp
  · omega
theorem unslashed_any (l : List UInt8) (hs : l.length ≤ 100000) (w : World) : Calls Tryz.prog 176 #[.string (bs l)] w (SsP (rwL usG l) w) := by
  have H := Lib.hid (fun w => rewritten_any 208 usG usG_len l hs w e_usG (fun p _ _ w => usG_run p w))
  have HP : Hid (∀ w', Below w.heap.size w w' → SsP (rwL usG l) w (.returned (.string (bs (rwL usG l)))) w') := fun w' h => ⟨rfl, h⟩
  unfold SsP at H
  generalize bs l = s at *
  generalize bs (rwL usG l) = r at *
  go_enter Tryz.func176, Tryz.ntmps176
  go_wp2_with fail
  refine (H.out _).mono ?_
  rintro e w' ⟨rfl, hb⟩
  have HB := Lib.hid hb
  clear hb
  go_wp2
  go_ret
  exact HP.out _ HB.out

/-- The words behind which a term is expected. -/
def ltL : List (List UInt8) := [[114, 101, 116, 117, 114, 110], [97, 110, 100], [111, 114], [110, 111, 116], [120], [108, 116], [103, 116], [108, 101], [103, 101], [101, 113], [110, 101], [99, 109, 112], [105, 102], [117, 110, 108, 101, 115, 115], [101, 108, 115, 105, 102], [101, 108, 115, 101], [119, 104, 105, 108, 101], [117, 110, 116, 105, 108], [102, 111, 114], [100, 111], [101, 118, 97, 108], [115, 117, 98], [109, 97, 112], [103, 114, 101, 112], [115, 111, 114, 116], [109, 121], [111, 117, 114], [108, 111, 99, 97, 108]]
def ltB (l : List UInt8) : Bool := decide (l ∈ ltL)
set_option maxRecDepth 100000 in
set_option maxHeartbeats 8000000 in
theorem leadsTerm_any (l : List UInt8) (w : World) : Calls Tryz.prog 168 #[.string (bs l)] w (BoS (ltB l) w) := by
  have HP : Hid (∀ v w, v = ltB l → BoS (ltB l) w (.returned (.bool v)) w) := fun v w h => BoS.mk h w
  by_cases h : l ∈ ltL
  · have HX : Hid (true = ltB l) := (decide_eq_true h).symm
    have HX2 := Lib.hid HX.out
    clear HX
    simp only [ltL, List.mem_cons, List.not_mem_nil, or_false] at h
    rcases h with rfl | rfl | rfl | rfl | rfl | rfl | rfl | rfl | rfl | rfl | rfl | rfl | rfl | rfl | rfl | rfl | rfl | rfl | rfl | rfl | rfl | rfl | rfl | rfl | rfl | rfl | rfl | rfl
    · rw [show bs [114, 101, 116, 117, 114, 110] = (⟨#[114, 101, 116, 117, 114, 110]⟩ : ByteArray) from rfl]
      go_enter Tryz.func168, Tryz.ntmps168
      go_wp2
      go_ret
      exact HP.out _ _ HX2.out
    · rw [show bs [97, 110, 100] = (⟨#[97, 110, 100]⟩ : ByteArray) from rfl]
      go_enter Tryz.func168, Tryz.ntmps168
      go_wp2
      go_ret
      exact HP.out _ _ HX2.out
    · rw [show bs [111, 114] = (⟨#[111, 114]⟩ : ByteArray) from rfl]
      go_enter Tryz.func168, Tryz.ntmps168
      go_wp2
      go_ret
      exact HP.out _ _ HX2.out
    · rw [show bs [110, 111, 116] = (⟨#[110, 111, 116]⟩ : ByteArray) from rfl]
      go_enter Tryz.func168, Tryz.ntmps168
      go_wp2
      go_ret
      exact HP.out _ _ HX2.out
    · rw [show bs [120] = (⟨#[120]⟩ : ByteArray) from rfl]
      go_enter Tryz.func168, Tryz.ntmps168
      go_wp2
      go_ret
      exact HP.out _ _ HX2.out
    · rw [show bs [108, 116] = (⟨#[108, 116]⟩ : ByteArray) from rfl]
      go_enter Tryz.func168, Tryz.ntmps168
      go_wp2
      go_ret
      exact HP.out _ _ HX2.out
    · rw [show bs [103, 116] = (⟨#[103, 116]⟩ : ByteArray) from rfl]
      go_enter Tryz.func168, Tryz.ntmps168
      go_wp2
      go_ret
      exact HP.out _ _ HX2.out
    · rw [show bs [108, 101] = (⟨#[108, 101]⟩ : ByteArray) from rfl]
      go_enter Tryz.func168, Tryz.ntmps168
      go_wp2
      go_ret
      exact HP.out _ _ HX2.out
    · rw [show bs [103, 101] = (⟨#[103, 101]⟩ : ByteArray) from rfl]
      go_enter Tryz.func168, Tryz.ntmps168
      go_wp2
      go_ret
      exact HP.out _ _ HX2.out
    · rw [show bs [101, 113] = (⟨#[101, 113]⟩ : ByteArray) from rfl]
      go_enter Tryz.func168, Tryz.ntmps168
      go_wp2
      go_ret
      exact HP.out _ _ HX2.out
    · rw [show bs [110, 101] = (⟨#[110, 101]⟩ : ByteArray) from rfl]
      go_enter Tryz.func168, Tryz.ntmps168
      go_wp2
      go_ret
      exact HP.out _ _ HX2.out
    · rw [show bs [99, 109, 112] = (⟨#[99, 109, 112]⟩ : ByteArray) from rfl]
      go_enter Tryz.func168, Tryz.ntmps168
      go_wp2
      go_ret
      exact HP.out _ _ HX2.out
    · rw [show bs [105, 102] = (⟨#[105, 102]⟩ : ByteArray) from rfl]
      go_enter Tryz.func168, Tryz.ntmps168
      go_wp2
      go_ret
      exact HP.out _ _ HX2.out
    · rw [show bs [117, 110, 108, 101, 115, 115] = (⟨#[117, 110, 108, 101, 115, 115]⟩ : ByteArray) from rfl]
      go_enter Tryz.func168, Tryz.ntmps168
      go_wp2
      go_ret
      exact HP.out _ _ HX2.out
    · rw [show bs [101, 108, 115, 105, 102] = (⟨#[101, 108, 115, 105, 102]⟩ : ByteArray) from rfl]
      go_enter Tryz.func168, Tryz.ntmps168
      go_wp2
      go_ret
      exact HP.out _ _ HX2.out
    · rw [show bs [101, 108, 115, 101] = (⟨#[101, 108, 115, 101]⟩ : ByteArray) from rfl]
      go_enter Tryz.func168, Tryz.ntmps168
      go_wp2
      go_ret
      exact HP.out _ _ HX2.out
    · rw [show bs [119, 104, 105, 108, 101] = (⟨#[119, 104, 105, 108, 101]⟩ : ByteArray) from rfl]
      go_enter Tryz.func168, Tryz.ntmps168
      go_wp2
      go_ret
      exact HP.out _ _ HX2.out
    · rw [show bs [117, 110, 116, 105, 108] = (⟨#[117, 110, 116, 105, 108]⟩ : ByteArray) from rfl]
      go_enter Tryz.func168, Tryz.ntmps168
      go_wp2
      go_ret
      exact HP.out _ _ HX2.out
    · rw [show bs [102, 111, 114] = (⟨#[102, 111, 114]⟩ : ByteArray) from rfl]
      go_enter Tryz.func168, Tryz.ntmps168
      go_wp2
      go_ret
      exact HP.out _ _ HX2.out
    · rw [show bs [100, 111] = (⟨#[100, 111]⟩ : ByteArray) from rfl]
      go_enter Tryz.func168, Tryz.ntmps168
      go_wp2
      go_ret
      exact HP.out _ _ HX2.out
    · rw [show bs [101, 118, 97, 108] = (⟨#[101, 118, 97, 108]⟩ : ByteArray) from rfl]
      go_enter Tryz.func168, Tryz.ntmps168
      go_wp2
      go_ret
      exact HP.out _ _ HX2.out
    · rw [show bs [115, 117, 98] = (⟨#[115, 117, 98]⟩ : ByteArray) from rfl]
      go_enter Tryz.func168, Tryz.ntmps168
      go_wp2
      go_ret
      exact HP.out _ _ HX2.out
    · rw [show bs [109, 97, 112] = (⟨#[109, 97, 112]⟩ : ByteArray) from rfl]
      go_enter Tryz.func168, Tryz.ntmps168
      go_wp2
      go_ret
      exact HP.out _ _ HX2.out
    · rw [show bs [103, 114, 101, 112] = (⟨#[103, 114, 101, 112]⟩ : ByteArray) from rfl]
      go_enter Tryz.func168, Tryz.ntmps168
      go_wp2
      go_ret
      exact HP.out _ _ HX2.out
    · rw [show bs [115, 111, 114, 116] = (⟨#[115, 111, 114, 116]⟩ : ByteArray) from rfl]
      go_enter Tryz.func168, Tryz.ntmps168
      go_wp2
      go_ret
      exact HP.out _ _ HX2.out
    · rw [show bs [109, 121] = (⟨#[109, 121]⟩ : ByteArray) from rfl]
      go_enter Tryz.func168, Tryz.ntmps168
      go_wp2
      go_ret
      exact HP.out _ _ HX2.out
    · rw [show bs [111, 117, 114] = (⟨#[111, 117, 114]⟩ : ByteArray) from rfl]
      go_enter Tryz.func168, Tryz.ntmps168
      go_wp2
      go_ret
      exact HP.out _ _ HX2.out
    · rw [show bs [108, 111, 99, 97, 108] = (⟨#[108, 111, 99, 97, 108]⟩ : ByteArray) from rfl]
      go_enter Tryz.func168, Tryz.ntmps168
      go_wp2
      go_ret
      exact HP.out _ _ HX2.out
  · have HX : Hid (false = ltB l) := (decide_eq_false h).symm
    have hn : ∀ t, t ∈ ltL → ((bs l).toList == t) = false := fun t ht => ne_list (bs l) t (by
      rw [bs_list]
      intro e
      exact h (e ▸ ht))
    have m0 := hn [114, 101, 116, 117, 114, 110] (by decide)
    have m1 := hn [97, 110, 100] (by decide)
    have m2 := hn [111, 114] (by decide)
    have m3 := hn [110, 111, 116] (by decide)
    have m4 := hn [120] (by decide)
    have m5 := hn [108, 116] (by decide)
    have m6 := hn [103, 116] (by decide)
    have m7 := hn [108, 101] (by decide)
    have m8 := hn [103, 101] (by decide)
    have m9 := hn [101, 113] (by decide)
    have m10 := hn [110, 101] (by decide)
    have m11 := hn [99, 109, 112] (by decide)
    have m12 := hn [105, 102] (by decide)
    have m13 := hn [117, 110, 108, 101, 115, 115] (by decide)
    have m14 := hn [101, 108, 115, 105, 102] (by decide)
    have m15 := hn [101, 108, 115, 101] (by decide)
    have m16 := hn [119, 104, 105, 108, 101] (by decide)
    have m17 := hn [117, 110, 116, 105, 108] (by decide)
    have m18 := hn [102, 111, 114] (by decide)
    have m19 := hn [100, 111] (by decide)
    have m20 := hn [101, 118, 97, 108] (by decide)
    have m21 := hn [115, 117, 98] (by decide)
    have m22 := hn [109, 97, 112] (by decide)
    have m23 := hn [103, 114, 101, 112] (by decide)
    have m24 := hn [115, 111, 114, 116] (by decide)
    have m25 := hn [109, 121] (by decide)
    have m26 := hn [111, 117, 114] (by decide)
    have m27 := hn [108, 111, 99, 97, 108] (by decide)
    clear hn h
    generalize bs l = s at *
    go_enter Tryz.func168, Tryz.ntmps168
    go_wp2
    go_ret
    exact HP.out _ _ HX.out

/-- Whether a term is expected behind a token. -/
def exB (k : Int) (x : List UInt8) (o : Int) (t : Bool) : Bool :=
  if k = 0 then ltB x
  else if k = 3 then (if x = [43, 43] ∨ x = [45, 45] then t else if x = [41] ∨ x = [93] then false else if x = [125] then decide (o ≠ 2 ∧ o ≠ 3) else true)
  else if 1 ≤ k ∧ k ≤ 9 then false else true
def BoP (b : Bool) (w : World) (e : Ending) (w' : World) : Prop := e = .returned (.bool b) ∧ Below w.heap.size w w'
set_option maxRecDepth 100000 in
set_option maxHeartbeats 4000000 in
theorem expects_any (k at' : Int) (x : List UInt8) (y z : ByteArray) (o : Int) (t : Bool) (w : World) :
    Calls Tryz.prog 148 #[.agg #[.int .i64 k, .int .i64 at', .string (bs x), .string y, .string z, .int .i64 o], .bool t] w (BoP (exB k x o t) w) := by
  have HP : Hid (∀ v w', v = exB k x o t → Below w.heap.size w w' → BoP (exB k x o t) w (.returned (.bool v)) w') := fun v w' h1 h2 => by
    rw [h1]
    exact ⟨rfl, h2⟩
  have HB : Hid (∀ c, Below w.heap.size w (w.alloc (.cells c 101))) := fun c => (Below.refl _ _).alloc (Nat.le_refl _) _
  have HLT := Lib.hid (fun w => leadsTerm_any x w)
  have hne : ∀ c, x ≠ c → ((bs x).toList == c) = false := fun c h => ne_list (bs x) c (by rw [bs_list]; exact h)
  by_cases h0 : k = 0
  · subst h0
    have HX : Hid (ltB x = exB 0 x o t) := by
      show _ = _
      unfold exB
      rw [if_pos rfl]
    clear hne
    generalize bs x = s at *
    go_enter Tryz.func148, Tryz.ntmps148
    go_wp2_with fail
    refine (HLT.out _).mono ?_
    rintro e w' ⟨rfl, rfl⟩
    go_wp2
    go_ret
    exact HP.out _ _ HX.out (HB.out _)
  · have f0 : (k == 0) = false := by rw [beq_eq_false_iff_ne]; exact h0
    by_cases h3 : k = 3
    · subst h3
      by_cases c1 : x = [43, 43]
      · subst c1
        have HX : Hid (t = exB 3 [43, 43] o t) := by show _ = _; unfold exB; rw [if_neg (by decide), if_pos rfl, if_pos (.inl rfl)]
        rw [show bs [43, 43] = (⟨#[43, 43]⟩ : ByteArray) from rfl] at *
        clear hne HLT h0 f0
        go_enter Tryz.func148, Tryz.ntmps148
        go_wp2
        go_ret
        exact HP.out _ _ HX.out (HB.out _)
      have m1 := hne _ c1
      by_cases c2 : x = [45, 45]
      · subst c2
        have HX : Hid (t = exB 3 [45, 45] o t) := by show _ = _; unfold exB; rw [if_neg (by decide), if_pos rfl, if_pos (.inr rfl)]
        rw [show bs [45, 45] = (⟨#[45, 45]⟩ : ByteArray) from rfl] at *
        clear hne HLT h0 f0 m1 c1
        go_enter Tryz.func148, Tryz.ntmps148
        go_wp2
        go_ret
        exact HP.out _ _ HX.out (HB.out _)
      have m2 := hne _ c2
      have hor1 : ¬ (x = [43, 43] ∨ x = [45, 45]) := fun h => h.elim c1 c2
      by_cases c3 : x = [41]
      · subst c3
        have HX : Hid (false = exB 3 [41] o t) := by show _ = _; unfold exB; rw [if_neg (by decide), if_pos rfl, if_neg hor1, if_pos (.inl rfl)]
        rw [show bs [41] = (⟨#[41]⟩ : ByteArray) from rfl] at *
        clear hne HLT h0 f0 m1 m2 c1 c2 hor1
        go_enter Tryz.func148, Tryz.ntmps148
        go_wp2
        go_ret
        exact HP.out _ _ HX.out (HB.out _)
      have m3 := hne _ c3
      by_cases c4 : x = [93]
      · subst c4
        have HX : Hid (false = exB 3 [93] o t) := by show _ = _; unfold exB; rw [if_neg (by decide), if_pos rfl, if_neg hor1, if_pos (.inr rfl)]
        rw [show bs [93] = (⟨#[93]⟩ : ByteArray) from rfl] at *
        clear hne HLT h0 f0 m1 m2 m3 c1 c2 c3 hor1
        go_enter Tryz.func148, Tryz.ntmps148
        go_wp2
        go_ret
        exact HP.out _ _ HX.out (HB.out _)
      have m4 := hne _ c4
      have hor2 : ¬ (x = [41] ∨ x = [93]) := fun h => h.elim c3 c4
      by_cases c5 : x = [125]
      · subst c5
        have HX : Hid (decide (o ≠ 2 ∧ o ≠ 3) = exB 3 [125] o t) := by show _ = _; unfold exB; rw [if_neg (by decide), if_pos rfl, if_neg hor1, if_neg hor2, if_pos rfl]
        rw [show bs [125] = (⟨#[125]⟩ : ByteArray) from rfl] at *
        clear hne HLT h0 f0 m1 m2 m3 m4 c1 c2 c3 c4 hor1 hor2
        by_cases ho : o = 2
        · have f5 : (o == 2) = true := by rw [ho]; rfl
          have g5 : (o != 2) = false := by rw [ho]; rfl
          have HX2 : Hid (false = exB 3 [125] o t) := by show _ = _; rw [← HX.out]; exact (decide_eq_false (fun h => h.1 ho)).symm
          clear ho HX
          go_enter Tryz.func148, Tryz.ntmps148
          go_wp2
          go_ret
          exact HP.out _ _ HX2.out (HB.out _)
        · have f5 : (o == 2) = false := by rw [beq_eq_false_iff_ne]; exact ho
          have g5 : (o != 2) = true := by rw [bne_iff_ne]; exact ho
          by_cases hp : o = 3
          · have f6 : (o == 3) = true := by rw [hp]; rfl
            have g6 : (o != 3) = false := by rw [hp]; rfl
            have HX2 : Hid (false = exB 3 [125] o t) := by show _ = _; rw [← HX.out]; exact (decide_eq_false (fun h => h.2 hp)).symm
            clear ho hp HX
            go_enter Tryz.func148, Tryz.ntmps148
            go_wp2
            go_ret
            exact HP.out _ _ HX2.out (HB.out _)
          · have f6 : (o == 3) = false := by rw [beq_eq_false_iff_ne]; exact hp
            have g6 : (o != 3) = true := by rw [bne_iff_ne]; exact hp
            have HX2 : Hid (true = exB 3 [125] o t) := by show _ = _; rw [← HX.out]; exact (decide_eq_true ⟨ho, hp⟩).symm
            clear ho hp HX
            go_enter Tryz.func148, Tryz.ntmps148
            go_wp2
            go_ret
            exact HP.out _ _ HX2.out (HB.out _)
      have m5 := hne _ c5
      have HX : Hid (true = exB 3 x o t) := by show _ = _; unfold exB; rw [if_neg (by decide), if_pos rfl, if_neg hor1, if_neg hor2, if_neg c5]
      clear hne HLT h0 f0 c1 c2 c3 c4 c5 hor1 hor2
      generalize bs x = s at *
      go_enter Tryz.func148, Tryz.ntmps148
      go_wp2
      go_ret
      exact HP.out _ _ HX.out (HB.out _)
    · have f3 : (k == 3) = false := by rw [beq_eq_false_iff_ne]; exact h3
      by_cases hk : 1 ≤ k ∧ k ≤ 9
      · have HX : Hid (false = exB k x o t) := by show _ = _; unfold exB; rw [if_neg h0, if_neg h3, if_pos hk]
        have hc : k = 1 ∨ k = 2 ∨ k = 4 ∨ k = 5 ∨ k = 6 ∨ k = 7 ∨ k = 8 ∨ k = 9 := by omega
        clear hne HLT h0 h3 f0 f3 hk
        rcases hc with rfl | rfl | rfl | rfl | rfl | rfl | rfl | rfl
        all_goals generalize bs x = s at *
        all_goals (go_enter Tryz.func148, Tryz.ntmps148)
        all_goals go_wp2
        all_goals go_ret
        all_goals exact HP.out _ _ HX.out (HB.out _)
      · have HX : Hid (true = exB k x o t) := by show _ = _; unfold exB; rw [if_neg h0, if_neg h3, if_neg hk]
        have p1 : (k == 1) = false := by rw [beq_eq_false_iff_ne]; omega
        have p2 : (k == 2) = false := by rw [beq_eq_false_iff_ne]; omega
        have p4 : (k == 4) = false := by rw [beq_eq_false_iff_ne]; omega
        have p5 : (k == 5) = false := by rw [beq_eq_false_iff_ne]; omega
        have p6 : (k == 6) = false := by rw [beq_eq_false_iff_ne]; omega
        have p7 : (k == 7) = false := by rw [beq_eq_false_iff_ne]; omega
        have p8 : (k == 8) = false := by rw [beq_eq_false_iff_ne]; omega
        have p9 : (k == 9) = false := by rw [beq_eq_false_iff_ne]; omega
        clear hne HLT h0 h3 hk
        generalize bs x = s at *
        go_enter Tryz.func148, Tryz.ntmps148
        go_wp2
        go_ret
        exact HP.out _ _ HX.out (HB.out _)

end Go.Proofs.YtaocbhfehncdcaaGreatDoor

namespace Go.Proofs.YtaocbhfehncdcaaGreatDoor
open Go.RowKit

theorem own_lt {w : World} {W0 : Nat} {E : TypeId} {size n : Nat} {v : Value} {xs : List Value} (h : w.ownsRow W0 E size v n xs) {g : Nat} (hv : v.ownBlock = some g) : g < w.heap.size ∧ W0 ≤ g := by
  rcases h.2 with ⟨h0, _⟩ | ⟨g', cap, cur, h0, h1, hg, _⟩
  · rw [h0] at hv
    simp [Value.ownBlock] at hv
  · rw [h0] at hv
    simp only [Value.ownBlock, Option.some.injEq] at hv
    subst hv
    exact ⟨(Array.getElem?_eq_some_iff.1 hg).1, h1⟩
theorem row_keep {w w' : World} {W0 : Nat} {E : TypeId} {size n : Nat} {v : Value} {xs : List Value} (h : w.ownsRow W0 E size v n xs) (hb : ∀ g, v.ownBlock = some g → w'.heap[g]? = w.heap[g]?) : w'.ownsRow W0 E size v n xs := by
  refine ⟨h.1, ?_⟩
  rcases h.2 with h0 | ⟨g, cap, cur, h0, h1, hg, h2⟩
  · exact .inl h0
  · exact .inr ⟨g, cap, cur, h0, h1, (hb g (by rw [h0]; rfl)).trans hg, h2⟩
theorem row_apart {w : World} {W0 W1 : Nat} {E F : TypeId} {s s' n n' : Nat} {v v' : Value} {xs ys : List Value} (h : w.ownsRow W0 E s v n xs) (h' : w.ownsRow W1 F s' v' n' ys) (hE : E ≠ F) {g : Nat} (hv : v.ownBlock = some g) : some g ≠ v'.ownBlock := by
  intro hv'
  rcases h.2 with ⟨h0, _⟩ | ⟨a, cap, cur, h0, _, hg, _⟩
  · rw [h0] at hv
    simp [Value.ownBlock] at hv
  · rcases h'.2 with ⟨k0, _⟩ | ⟨b, cap', cur', k0, _, kg, _⟩
    · rw [k0] at hv'
      simp [Value.ownBlock] at hv'
    · rw [h0] at hv
      rw [k0] at hv'
      simp only [Value.ownBlock, Option.some.injEq] at hv hv'
      subst hv
      subst hv'
      rw [hg] at kg
      simp only [Option.some.injEq, Obj.cells.injEq] at kg
      exact hE kg.2.1
theorem map_row {w : World} {W0 M : Nat} {E : TypeId} {size n : Nat} {v : Value} {xs : List Value} {l : List (Nat × Nat)} (h : w.ownsRow W0 E size v n xs) (hm : IMap M l w) : some M ≠ v.ownBlock := by
  intro hv
  obtain ⟨es, cl, h1, _⟩ := hm
  rcases h.2 with ⟨h0, _⟩ | ⟨a, cap, cur, h0, _, hg, _⟩
  · rw [h0] at hv
    simp [Value.ownBlock] at hv
  · rw [h0] at hv
    simp only [Value.ownBlock, Option.some.injEq] at hv
    subst hv
    rw [hg] at h1
    cases h1

theorem IsSc.scTk {W0 B : Nat} {σ : Sf} {ρ : Sr} {W w2 : World} (h : IsSc W0 B σ ρ W) (hg : W.grownBy w2 σ.tk.ownBlock) : Sc B σ w2 := (hg.block B h.sc.lt (row_ne h.tk h.sc (by decide))).trans h.sc
theorem IsSc.scTm {W0 B : Nat} {σ : Sf} {ρ : Sr} {W w2 : World} (h : IsSc W0 B σ ρ W) (hg : W.grownBy w2 σ.tm.ownBlock) : Sc B σ w2 := (hg.block B h.sc.lt (row_ne h.tm h.sc (by decide))).trans h.sc
/-- The tokens have grown, and the scanner's block has been told. -/
theorem IsSc.growTk {W0 B : Nat} {σ : Sf} {ρ : Sr} {W w2 : World} (h : IsSc W0 B σ ρ W) {g cap m : Nat} {ys : List Value} (ho : w2.ownsRow W0 101 6 (.slice (some ⟨g, 0, none⟩) m cap) m ys) (hg : W.grownBy w2 σ.tk.ownBlock) :
    IsSc W0 B { σ with tk := .slice (some ⟨g, 0, none⟩) m cap } { ρ with n := m, tc := ys } (w2.setCell ⟨B, 5, none⟩ (.slice (some ⟨g, 0, none⟩) m cap)) ∧ Below W0 W (w2.setCell ⟨B, 5, none⟩ (.slice (some ⟨g, 0, none⟩) m cap)) ∧
    ∀ T, T < W.heap.size → T ≠ B → some T ≠ σ.tk.ownBlock → (w2.setCell ⟨B, 5, none⟩ (.slice (some ⟨g, 0, none⟩) m cap)).heap[T]? = W.heap[T]? := by
  have hs2 : Sc B σ w2 := (hg.block B h.sc.lt (row_ne h.tk h.sc (by decide))).trans h.sc
  have htm : w2.ownsRow W0 4 1 σ.tm ρ.tl.length (boolCells ρ.tl) := row_keep h.tm fun k hk => hg.block k (own_lt h.tm hk).1 (row_apart h.tm h.tk (by decide) hk)
  have hop : w2.ownsRow W0 3 1 σ.op ρ.ol.length (intCells ρ.ol) := row_keep h.op fun k hk => hg.block k (own_lt h.op hk).1 (row_apart h.op h.tk (by decide) hk)
  have hmp : IMap σ.M ρ.ml w2 := h.mp.block (hg.block _ h.mp.lt (map_row h.tk h.mp))
  refine ⟨⟨h.base, hs2.setTk _, row_set ho (row_ne ho hs2 (by decide)) 5 _, row_set htm (row_ne htm hs2 (by decide)) 5 _, row_set hop (row_ne hop hs2 (by decide)) 5 _, hmp.block (Below.heap_setCell w2 ⟨B, 5, none⟩ _ σ.M h.mapNe), h.mb⟩, ?_, ?_⟩
  · exact ((Below.refl W0 W).grown hg h.le fun k e => (own_lt h.tk e).2).setCell h.base _
  · intro T hT hB hr
    exact (Below.heap_setCell w2 ⟨B, 5, none⟩ _ T hB).trans (hg.block T hT hr)
/-- The terms have grown. -/
theorem IsSc.growTm {W0 B : Nat} {σ : Sf} {ρ : Sr} {W w2 : World} (h : IsSc W0 B σ ρ W) {g cap m : Nat} {ls : List Bool} {ys : List Value} (ho : w2.ownsRow W0 4 1 (.slice (some ⟨g, 0, none⟩) m cap) m ys) (hm : m = ls.length) (hy : ys = boolCells ls) (hg : W.grownBy w2 σ.tm.ownBlock) :
    IsSc W0 B { σ with tm := .slice (some ⟨g, 0, none⟩) m cap } { ρ with tl := ls } (w2.setCell ⟨B, 6, none⟩ (.slice (some ⟨g, 0, none⟩) m cap)) ∧ Below W0 W (w2.setCell ⟨B, 6, none⟩ (.slice (some ⟨g, 0, none⟩) m cap)) ∧
    ∀ T, T < W.heap.size → T ≠ B → some T ≠ σ.tm.ownBlock → (w2.setCell ⟨B, 6, none⟩ (.slice (some ⟨g, 0, none⟩) m cap)).heap[T]? = W.heap[T]? := by
  subst hm
  subst hy
  have hs2 : Sc B σ w2 := (hg.block B h.sc.lt (row_ne h.tm h.sc (by decide))).trans h.sc
  have htk : w2.ownsRow W0 101 6 σ.tk ρ.n ρ.tc := row_keep h.tk fun k hk => hg.block k (own_lt h.tk hk).1 (row_apart h.tk h.tm (by decide) hk)
  have hop : w2.ownsRow W0 3 1 σ.op ρ.ol.length (intCells ρ.ol) := row_keep h.op fun k hk => hg.block k (own_lt h.op hk).1 (row_apart h.op h.tm (by decide) hk)
  have hmp : IMap σ.M ρ.ml w2 := h.mp.block (hg.block _ h.mp.lt (map_row h.tm h.mp))
  refine ⟨⟨h.base, hs2.setTm _, row_set htk (row_ne htk hs2 (by decide)) 6 _, row_set ho (row_ne ho hs2 (by decide)) 6 _, row_set hop (row_ne hop hs2 (by decide)) 6 _, hmp.block (Below.heap_setCell w2 ⟨B, 6, none⟩ _ σ.M h.mapNe), h.mb⟩, ?_, ?_⟩
  · exact ((Below.refl W0 W).grown hg h.le fun k e => (own_lt h.tm e).2).setCell h.base _
  · intro T hT hB hr
    exact (Below.heap_setCell w2 ⟨B, 6, none⟩ _ T hB).trans (hg.block T hT hr)
/-- The block of a token is not the block of the terms. -/
theorem TkAt.apart {T : Nat} {v0 v1 v2 v3 v4 v5 : Value} {W : World} {W0 n s : Nat} {E : TypeId} {v : Value} {xs : List Value} (h : TkAt T v0 v1 v2 v3 v4 v5 W) (hr : W.ownsRow W0 E s v n xs) (hE : E ≠ 101) : some T ≠ v.ownBlock := by
  intro hv
  rcases hr.2 with ⟨h0, _⟩ | ⟨a, cap, cur, h0, _, hg, _⟩
  · rw [h0] at hv
    simp [Value.ownBlock] at hv
  · rw [h0] at hv
    simp only [Value.ownBlock, Option.some.injEq] at hv
    subst hv
    unfold TkAt at h
    rw [h] at hg
    simp only [Option.some.injEq, Obj.cells.injEq] at hg
    exact hE hg.2.1.symm
theorem TkAt.ne {T B : Nat} {v0 v1 v2 v3 v4 v5 : Value} {W : World} {σ : Sf} (h : TkAt T v0 v1 v2 v3 v4 v5 W) (hs : Sc B σ W) : T ≠ B := by
  rintro rfl
  unfold TkAt at h
  unfold Sc at hs
  rw [h] at hs
  simp [Sf.cells] at hs

/-- Below W0 nothing has turned, and of the other blocks only the scanner's own, its tokens' and its terms' row. -/
structure Bw (W0 B : Nat) (tk tm : Value) (w w' : World) : Prop where
  low : Below W0 w w'
  far : ∀ T, T < w.heap.size → T ≠ B → some T ≠ tk.ownBlock → some T ≠ tm.ownBlock → w'.heap[T]? = w.heap[T]?
theorem Bw.trans {W0 B : Nat} {tk tm : Value} {a b c : World} (h : Bw W0 B tk tm a b) (k : Bw W0 B tk tm b c) : Bw W0 B tk tm a c :=
  ⟨h.low.trans k.low, fun T h1 h2 h3 h4 => (k.far T (Nat.lt_of_lt_of_le h1 h.low.size) h2 h3 h4).trans (h.far T h1 h2 h3 h4)⟩
theorem Bw.below {W0 B : Nat} {tk tm : Value} {w w' : World} (h : Below w.heap.size w w') (hW : W0 ≤ w.heap.size) : Bw W0 B tk tm w w' := ⟨h.mono hW, fun T h1 _ _ _ => h.block T h1⟩
theorem Bw.set {W0 B : Nat} {tk tm : Value} {w w' : World} (h : Bw W0 B tk tm w w') (hB : W0 ≤ B) (i : Nat) (u : Value) : Bw W0 B tk tm w (w'.setCell ⟨B, i, none⟩ u) :=
  ⟨h.low.setCell hB u, fun T h1 h2 h3 h4 => (Below.heap_setCell w' ⟨B, i, none⟩ u T h2).trans (h.far T h1 h2 h3 h4)⟩
/-- A row's new block is its old one, or is beyond all that was there. -/
theorem nr_of {v : Value} {g H T : Nat} (hG : v.ownBlock = some g ∨ g = H) (hT : T ≤ H) : ∀ T', T' < T → some T' ≠ v.ownBlock → T' ≠ g := by
  rintro T' h1 h2 rfl
  rcases hG with h | h
  · exact h2 h.symm
  · omega

end Go.Proofs.YtaocbhfehncdcaaGreatDoor
