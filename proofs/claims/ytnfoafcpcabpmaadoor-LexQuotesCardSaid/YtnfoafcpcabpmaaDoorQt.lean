/-
  escaped on both sides, quoted, Quote on both sides. Conditions: texts of at most 100000 bytes where one is named.
-/
import Derived.Test.YtnfoafcpcabpmaaDoorQz
import Derived.Test.YtnfoafcpcabpmaaDoorFo
namespace Go.Proofs.YtnfoafcpcabpmaaDoor
open Go.RowKit

theorem escL_one (p : UInt8 → Bool) (b : UInt8) (t : List UInt8) : escL p (b :: t) = (if p b then [92, b] else [b]) ++ escL p t := by
  show (if p b then _ else _) = _
  split <;> rfl
set_option maxRecDepth 100000 in
set_option maxHeartbeats 4000000 in
theorem escaped_any (ch : List UInt8) (s : ByteArray) (hs : s.size ≤ 100000) (w : World) :
    Calls Tryd.prog 35 #[.string s, .string (bs ch)] w (SsP (escL (fun b => ch.contains b) s.data.toList) w) := by
  obtain ⟨l, hl⟩ : ∃ l, s.data.toList = l := ⟨_, rfl⟩
  have hsl : s.size = l.length := by rw [← hl, ← Lib.size_eq]
  rw [hl]
  have HIX : Hid (∀ (c : UInt8) w, Calls Tryd.prog 47 #[.string (bs ch), .int .u8 c.toNat] w fun e w' => e = .returned (.int .i64 (Lib.indexByte ch c)) ∧ w = w') := fun c w => by
    have := idxB_any (bs ch) c w
    rwa [bs_list] at this
  have HIN : Hid (∀ c, (0 ≤ Lib.indexByte ch c ↔ c ∈ ch) ∧ -1 ≤ Lib.indexByte ch c) := fun c => ixB_ge c ch
  have HP : Hid (∀ o w', o = escL (fun b => ch.contains b) l → Below w.heap.size w w' → SsP (escL (fun b => ch.contains b) l) w (.returned (.string (bs o))) w') := fun o w' h1 h2 => by
    subst h1
    exact ⟨rfl, h2⟩
  have HWB := Lib.hid (fun l c w' (h1 : Bld w.heap.size w.heap.size l w') (h2 : l.length + 1 ≤ 140737488355328) (h3 : w.heap.size ≤ w'.heap.size) => WriteByte_any w.heap.size w.heap.size l c w' h1 h2 h3)
  have HW92 : Hid (∀ l w', Bld w.heap.size w.heap.size l w' → l.length + 1 ≤ 140737488355328 → w.heap.size ≤ w'.heap.size → Calls Tryd.prog 29 #[.pointer (some ⟨w.heap.size, 0, none⟩), .int .u8 92] w' (WbP w.heap.size w.heap.size (l ++ [92]) w')) := fun l w' h1 h2 h3 => WriteByte_any w.heap.size w.heap.size l 92 w' h1 h2 h3
  have HAT : Hid (∀ k (h : k < s.size), l.drop k = s[k] :: l.drop (k + 1)) := fun k h => drop_at s l hl k h
  have HEN : Hid (∀ k, ¬ k < s.size → l.drop k = []) := fun k h => drop_end s l hl k h
  have HF0 : Hid (Bld w.heap.size w.heap.size [] (w.alloc (.cells #[.pointer none, .slice none 0 0] 53))) := Bld.fresh _ w (Nat.le_refl _)
  have HB0 : Hid (Below w.heap.size w (w.alloc (.cells #[.pointer none, .slice none 0 0] 53))) := (Below.refl _ _).alloc (Nat.le_refl _) _
  have H0 : Hid (escL (fun b => ch.contains b) l = [] ++ escL (fun b => ch.contains b) (l.drop 0)) := rfl
  clear hl hsl
  generalize bs ch = cs at *
  go_enter Tryd.func35, Tryd.ntmps35
  go_wp2
  generalize w.alloc (.cells #[.pointer none, .slice none 0 0] 53) = w1 at *
  go_loopw [9] (fun n wr => ∃ (k : Nat) (out : List UInt8), k ≤ s.size ∧ n = .int .i64 k ∧ out.length ≤ 2 * k ∧ Hid (escL (fun b => ch.contains b) l = out ++ escL (fun b => ch.contains b) (l.drop k)) ∧ Hid (Bld w.heap.size w.heap.size out wr) ∧ Hid (Below w.heap.size w wr)) (fun n _ => s.size - (intOf n).toNat)
  case atStart => exact ⟨0, [], by omega, rfl, by simp, H0, HF0, HB0⟩
  case round =>
    obtain ⟨k, out, hk, rfl, hol, hw, hbd, hbl⟩ := hrel
    by_cases hlt : k < s.size
    · have hat := HAT.out k hlt
      have hlti : (k : Int) < (s.size : Int) := by omega
      have hin := HIN.out s[k]
      have HIXk := Lib.hid (HIX.out s[k])
      have HWBk := Lib.hid (fun out => HWB.out out s[k])
      by_cases hm : s[k] ∈ ch
      · have hge : 0 ≤ Lib.indexByte ch s[k] := hin.1.2 hm
        have HN : Hid (escL (fun b => ch.contains b) l = ((out ++ [92]) ++ [s[k]]) ++ escL (fun b => ch.contains b) (l.drop (k + 1))) := by
          show _ = _
          rw [hw.out, hat, escL_one, if_pos (by simpa using hm)]
          simp
        clear hat hin hm
        generalize Lib.indexByte ch s[k] = ix at *
        go_wp2_with fail
        refine (HIXk.out _).mono ?_
        rintro e w2 ⟨rfl, rfl⟩
        go_wp2_with fail
        refine (HW92.out out _ hbd.out (by omega) hbl.out.size).mono ?_
        rintro e w3 ⟨rfl, hk3⟩
        have HBD3 : Hid (Bld w.heap.size w.heap.size (out ++ [92]) w3) := hk3.1
        have HBL3 : Hid (Below w.heap.size w w3) := hbl.out.trans hk3.2.1
        clear hk3
        go_wp2_with fail
        refine (HWBk.out (out ++ [92]) _ HBD3.out (by rw [List.length_append]; simp only [List.length_cons, List.length_nil]; omega) HBL3.out.size).mono ?_
        rintro e w4 ⟨rfl, hk4⟩
        have HBD4 : Hid (Bld w.heap.size w.heap.size ((out ++ [92]) ++ [s[k]]) w4) := hk4.1
        have HBL4 : Hid (Below w.heap.size w w4) := HBL3.out.trans hk4.2.1
        clear hk4
        go_wp2
        go_roundw
        case rel => exact ⟨k + 1, (out ++ [92]) ++ [s[k]], by omega, by go_num, by simp only [List.length_append, List.length_cons, List.length_nil]; omega, HN, HBD4, HBL4⟩
        case measure => simp [intOf]; omega
      · have hge : ¬ 0 ≤ Lib.indexByte ch s[k] := fun h => hm (hin.1.1 h)
        have hge2 : Lib.indexByte ch s[k] < 0 := by omega
        have HN : Hid (escL (fun b => ch.contains b) l = (out ++ [s[k]]) ++ escL (fun b => ch.contains b) (l.drop (k + 1))) := by
          show _ = _
          rw [hw.out, hat, escL_one, if_neg (by simpa using hm)]
          simp
        clear hat hin hm hge
        generalize Lib.indexByte ch s[k] = ix at *
        go_wp2_with fail
        refine (HIXk.out _).mono ?_
        rintro e w2 ⟨rfl, rfl⟩
        go_wp2_with fail
        refine (HWBk.out out _ hbd.out (by omega) hbl.out.size).mono ?_
        rintro e w4 ⟨rfl, hk4⟩
        have HBD4 : Hid (Bld w.heap.size w.heap.size (out ++ [s[k]]) w4) := hk4.1
        have HBL4 : Hid (Below w.heap.size w w4) := hbl.out.trans hk4.2.1
        clear hk4
        go_wp2
        go_roundw
        case rel => exact ⟨k + 1, out ++ [s[k]], by omega, by go_num, by simp only [List.length_append, List.length_cons, List.length_nil]; omega, HN, HBD4, HBL4⟩
        case measure => simp [intOf]; omega
    · have hX : Hid (out = escL (fun b => ch.contains b) l) := by
        show _ = _
        rw [hw.out, HEN.out k hlt]
        simp [escL]
      have hks : (s.size : Int) ≤ (k : Int) := by omega
      have HST := Lib.hid (String_any _ _ out wr hbd.out hbl.out.size)
      clear hol
      go_wp2_with fail
      refine (HST.out).mono ?_
      rintro e w3 ⟨rfl, hk3⟩
      have HBL3 : Hid (Below w.heap.size w w3) := hbl.out.trans hk3.2.1
      clear hk3
      go_wp2
      go_ret
      exact HP.out _ _ hX.out HBL3.out


/-- What stands before a byte when its first k signs have been looked at. -/
def inB (b : UInt8) (k : Nat) : List UInt8 := (if 1 ≤ k ∧ b = 39 then [92] else []) ++ (if 2 ≤ k ∧ b = 92 then [92] else [])
theorem inB_zero (b : UInt8) : inB b 0 = [] := by simp [inB]
theorem inB_one (b : UInt8) : inB b 1 = if b = 39 then [92] else [] := by simp [inB]
theorem inB_two (b : UInt8) : inB b 2 = inB b 1 ++ if b = 92 then [92] else [] := by simp [inB]
theorem inB_len (b : UInt8) (k : Nat) : (inB b k).length ≤ 1 := by
  unfold inB
  by_cases h1 : 1 ≤ k ∧ b = 39
  · have h2 : ¬ (2 ≤ k ∧ b = 92) := by
      rintro ⟨_, h⟩
      rw [h1.2] at h
      cases h
    rw [if_pos h1, if_neg h2]
    simp
  · rw [if_neg h1]
    split <;> simp
theorem esc_in (b : UInt8) (t : List UInt8) : escL qB (b :: t) = (inB b 2 ++ [b]) ++ escL qB t := by
  rw [escL_one]
  congr 1
  by_cases h1 : b = 39
  · subst h1
    rfl
  · by_cases h2 : b = 92
    · subst h2
      rfl
    · have : qB b = false := by simp [qB, h1, h2]
      rw [this, inB_two, inB_one, if_neg h1, if_neg h2]
      rfl
theorem one_at (s : ByteArray) (i : Nat) (h : i < s.size) : s.extract i (i + 1) = bs [s[i]] := by
  have hl : s.data.toList.drop i = s[i] :: s.data.toList.drop (i + 1) := drop_at s _ rfl i h
  rw [← bs_of (s.extract i (i + 1))]
  congr 1
  rw [Lib.extract_data]
  simp only [show i + 1 - i = 1 by omega]
  rw [hl]
  rfl
set_option maxRecDepth 100000 in
set_option maxHeartbeats 4000000 in
theorem rescaped_any (s : ByteArray) (hs : s.size ≤ 100000) (w : World) :
    Calls Tryd.prog 24 #[.string s, .string ⟨#[39, 92]⟩] w (SsP (escL qB s.data.toList) w) := by
  obtain ⟨l, hl⟩ : ∃ l, s.data.toList = l := ⟨_, rfl⟩
  rw [hl]
  have HP : Hid (∀ o w', o = escL qB l → Below w.heap.size w w' → SsP (escL qB l) w (.returned (.string (bs o))) w') := fun o w' h1 h2 => by
    subst h1
    exact ⟨rfl, h2⟩
  have HAT : Hid (∀ k (h : k < s.size), l.drop k = s[k] :: l.drop (k + 1)) := fun k h => drop_at s l hl k h
  have HEN : Hid (∀ k, ¬ k < s.size → l.drop k = []) := fun k h => drop_end s l hl k h
  have HON : Hid (∀ k (h : k < s.size), s.extract k (k + 1) = bs [s[k]]) := fun k h => one_at s k h
  have HB0 := Lib.hid (Below.refl w.heap.size w)
  have H0 : Hid (escL qB l = [] ++ escL qB (l.drop 0)) := rfl
  clear hl
  go_enter Tryd.func24, Tryd.ntmps24
  go_wp2
  go_loopw [5, 6] (fun o n wr => ∃ (k : Nat) (out : List UInt8), k ≤ s.size ∧ o = .string (bs out) ∧ n = .int .i64 k ∧ out.length ≤ 2 * k ∧ Hid (escL qB l = out ++ escL qB (l.drop k)) ∧ Hid (Below w.heap.size w wr)) (fun _ n _ => s.size - (intOf n).toNat)
  case atStart => exact ⟨0, [], by omega, rfl, rfl, by simp, H0, HB0⟩
  case round =>
    obtain ⟨k, out, hk, rfl, rfl, hol, hw, hbl⟩ := hrel
    by_cases hlt : k < s.size
    · have hat := HAT.out k hlt
      have hone := HON.out k hlt
      have hlti : (k : Int) < (s.size : Int) := by omega
      have HN : Hid (escL qB l = ((out ++ inB s[k] 2) ++ [s[k]]) ++ escL qB (l.drop (k + 1))) := by
        show _ = _
        rw [hw.out, hat, esc_in]
        simp
      clear hat
      go_wp2
      go_loopw [5, 7] (fun o n wr => ∃ j : Nat, j ≤ 2 ∧ o = .string (bs (out ++ inB s[k] j)) ∧ n = .int .i64 j ∧ Hid (Below w.heap.size w wr)) (fun _ n _ => 2 - (intOf n).toNat)
      case atStart => exact ⟨0, by omega, by rw [inB_zero, List.append_nil], rfl, hbl⟩
      case round =>
        obtain ⟨j, hj, rfl, rfl, hbl2⟩ := hrel
        have hin := inB_len s[k] j
        have hz1 : ((bs (out ++ inB s[k] j)).size : Int) ≤ 8388608 := by
          rw [bs_size, List.length_append]
          omega
        match j, hj with
        | 0, _ =>
          by_cases hb : s[k] = 39
          · have f1 : ((s[k].toNat : Int) == (((⟨#[39, 92]⟩ : ByteArray)[0]'(by decide)).toNat : Int)) = true := by rw [hb]; rfl
            have HE : Hid (bs (out ++ inB s[k] 0) ++ ⟨#[92]⟩ = bs (out ++ inB s[k] 1)) := by
              show _ = _
              rw [inB_zero, inB_one, if_pos hb, List.append_nil]
              exact bs_append out [92]
            clear hb
            go_wp2
            go_quiet (fail)
            go_wp2
            go_roundw
            case rel => exact ⟨1, by omega, by rw [HE.out], rfl, bl_drewN hbl2.out _⟩
            case measure => simp [intOf]
          · have f1 : ((s[k].toNat : Int) == (((⟨#[39, 92]⟩ : ByteArray)[0]'(by decide)).toNat : Int)) = false := u8_ne (b := 39) hb
            have HE : Hid (bs (out ++ inB s[k] 0) = bs (out ++ inB s[k] 1)) := by
              show _ = _
              rw [inB_zero, inB_one, if_neg hb]
            clear hb
            go_wp2
            go_quiet (fail)
            go_wp2
            go_roundw
            case rel => exact ⟨1, by omega, by rw [HE.out], rfl, bl_drewN hbl2.out _⟩
            case measure => simp [intOf]
        | 1, _ =>
          by_cases hb : s[k] = 92
          · have f1 : ((s[k].toNat : Int) == (((⟨#[39, 92]⟩ : ByteArray)[1]'(by decide)).toNat : Int)) = true := by rw [hb]; rfl
            have HE : Hid (bs (out ++ inB s[k] 1) ++ ⟨#[92]⟩ = bs (out ++ inB s[k] 2)) := by
              show _ = _
              rw [inB_two, if_pos hb, ← List.append_assoc]
              exact bs_append _ [92]
            clear hb
            go_wp2
            go_quiet (fail)
            go_wp2
            go_roundw
            case rel => exact ⟨2, by omega, by rw [HE.out], rfl, bl_drewN hbl2.out _⟩
            case measure => simp [intOf]
          · have f1 : ((s[k].toNat : Int) == (((⟨#[39, 92]⟩ : ByteArray)[1]'(by decide)).toNat : Int)) = false := u8_ne (b := 92) hb
            have HE : Hid (bs (out ++ inB s[k] 1) = bs (out ++ inB s[k] 2)) := by
              show _ = _
              rw [inB_two, if_neg hb, List.append_nil]
            clear hb
            go_wp2
            go_quiet (fail)
            go_wp2
            go_roundw
            case rel => exact ⟨2, by omega, by rw [HE.out], rfl, bl_drewN hbl2.out _⟩
            case measure => simp [intOf]
        | 2, _ =>
          have HE : Hid (bs (out ++ inB s[k] 2) ++ bs [s[k]] = bs ((out ++ inB s[k] 2) ++ [s[k]])) := bs_append _ _
          have hsz : ((bs [s[k]]).size : Int) ≤ 8388608 := by
            rw [bs_size]
            simp
          go_wp2
          go_roundw
          case rel => exact ⟨k + 1, (out ++ inB s[k] 2) ++ [s[k]], by omega, by rw [HE.out], by go_num, by simp only [List.length_append, List.length_cons, List.length_nil] at *; omega, HN, hbl2⟩
          case measure => simp [intOf]; omega
    · have hX : Hid (out = escL qB l) := by
        show _ = _
        rw [hw.out, HEN.out k hlt]
        simp [escL]
      have hks : (s.size : Int) ≤ (k : Int) := by omega
      clear hol
      go_wp2
      go_ret
      exact HP.out _ _ hX.out hbl.out


theorem cat3 (x : List UInt8) : (⟨#[39]⟩ : ByteArray) ++ bs x ++ ⟨#[39]⟩ = bs (39 :: (x ++ [39])) := by
  rw [show (⟨#[39]⟩ : ByteArray) = bs [39] from rfl, bs_append, bs_append]
  rfl
set_option maxHeartbeats 1000000 in
theorem quoted_any (s : ByteArray) (hs : s.size ≤ 100000) (w : World) : Calls Tryd.prog 22 #[.string s] w (SsP (39 :: (escL qB s.data.toList ++ [39])) w) := by
  have HE : Hid (Calls Tryd.prog 35 #[.string s, .string ⟨#[39, 92]⟩] w (SsP (escL qB s.data.toList) w)) := escaped_any [39, 92] s hs w
  have hl := esc_len qB s.data.toList
  rw [← Lib.size_eq] at hl
  have HC := Lib.hid (cat3 (escL qB s.data.toList))
  have HP : Hid (∀ w', Below w.heap.size w w' → SsP (39 :: (escL qB s.data.toList ++ [39])) w (.returned (.string (bs (39 :: (escL qB s.data.toList ++ [39]))))) w') := fun w' h => ⟨rfl, h⟩
  have hz : ((bs (escL qB s.data.toList)).size : Int) ≤ 8388600 := by
    rw [bs_size]
    omega
  have hz2 : ((bs (escL qB s.data.toList)).size : Int) ≤ 8388608 := by omega
  have hz3 : (((⟨#[39]⟩ : ByteArray) ++ bs (escL qB s.data.toList)).size : Int) ≤ 8388608 := by
    rw [ByteArray.size_append]
    have : (⟨#[39]⟩ : ByteArray).size = 1 := rfl
    omega
  clear hl hz
  unfold SsP at HE
  generalize bs (39 :: (escL qB s.data.toList ++ [39])) = q at *
  generalize bs (escL qB s.data.toList) = x at *
  go_enter Tryd.func22, Tryd.ntmps22
  go_wp2_with fail
  refine HE.out.mono ?_
  rintro e w1 ⟨rfl, hb⟩
  have HB := Lib.hid hb
  clear hb
  go_wp2
  go_ret
  rw [HC.out]
  exact HP.out _ HB.out

/-- A text as a quote, and the error. -/
def quR (l : List UInt8) : List UInt8 × Int := if 4096 < l.length then ([], 3) else if fgN l < l.length then ([], 1) else (39 :: (escL qB l ++ [39]), 0)
def QuP (l : List UInt8) (w : World) (e : Ending) (w' : World) : Prop := e = .returned (.tuple #[.string (bs (quR l).1), .int .i64 (quR l).2]) ∧ Below w.heap.size w w'
theorem QuP.mk {l q : List UInt8} {n : Int} (h : (q, n) = quR l) {w w' : World} (hb : Below w.heap.size w w') : QuP l w (.returned (.tuple #[.string (bs q), .int .i64 n])) w' := by
  unfold QuP
  rw [← h]
  exact ⟨rfl, hb⟩
set_option maxHeartbeats 1000000 in
theorem Quote_any (s : ByteArray) (hs : s.size ≤ 100000) (w : World) : Calls Tryd.prog 13 #[.string s] w (QuP s.data.toList w) := by
  have HB0 := Lib.hid (Below.refl w.heap.size w)
  have hsl : s.size = s.data.toList.length := by rw [← Lib.size_eq]
  have HF := Lib.hid (fun w => foreign_any s w hs)
  have HQ := Lib.hid (fun w => quoted_any s hs w)
  have HP : Hid (∀ q n w', (q, n) = quR s.data.toList → Below w.heap.size w w' → QuP s.data.toList w (.returned (.tuple #[.string (bs q), .int .i64 n])) w') := fun q n w' h hb => QuP.mk h hb
  by_cases h1 : 4096 < s.size
  · have hi : (4096 : Int) < (s.size : Int) := by omega
    have HX : Hid (([], 3) = quR s.data.toList) := by
      show _ = _
      unfold quR
      rw [if_pos (by omega)]
    clear h1 hsl
    go_enter Tryd.func13, Tryd.ntmps13
    go_wp2
    go_ret2
    exact HP.out _ _ _ HX.out HB0.out
  · have hi : (s.size : Int) ≤ 4096 := by omega
    by_cases h2 : fgN s.data.toList < s.size
    · have h2i : (fgN s.data.toList : Int) < (s.size : Int) := by omega
      have HX : Hid (([], 1) = quR s.data.toList) := by
        show _ = _
        unfold quR
        rw [if_neg (by omega), if_pos (by omega)]
      clear h1 h2 hsl
      generalize fgN s.data.toList = g at *
      go_enter Tryd.func13, Tryd.ntmps13
      go_wp2_with fail
      refine (HF.out _).mono ?_
      rintro e w1 ⟨rfl, rfl⟩
      go_wp2
      go_ret2
      exact HP.out _ _ _ HX.out HB0.out
    · have h2i : (s.size : Int) ≤ (fgN s.data.toList : Int) := by omega
      have HX : Hid ((39 :: (escL qB s.data.toList ++ [39]), 0) = quR s.data.toList) := by
        show _ = _
        unfold quR
        rw [if_neg (by omega), if_neg (by omega)]
      clear h1 h2 hsl
      generalize fgN s.data.toList = g at *
      generalize 39 :: (escL qB s.data.toList ++ [39]) = x at *
      go_enter Tryd.func13, Tryd.ntmps13
      go_wp2_with fail
      refine (HF.out _).mono ?_
      rintro e w1 ⟨rfl, rfl⟩
      go_wp2_with fail
      refine (HQ.out _).mono ?_
      rintro e w1 ⟨rfl, hb⟩
      have HB := Lib.hid hb
      clear hb
      go_wp2
      go_ret2
      exact HP.out _ _ _ HX.out HB.out

set_option maxRecDepth 1000000 in
theorem fgN_key : ∀ n, n < 256 → (!(blN n) && (decide (n < 32) || decide (126 < n))) = !(decide (n = 9 ∨ n = 10 ∨ (32 ≤ n ∧ n ≤ 126))) := by decide
theorem fgB_own (b : UInt8) : (!fgB b) = decide (b.toNat = 9 ∨ b.toNat = 10 ∨ (32 ≤ b.toNat ∧ b.toNat ≤ 126)) := by
  have := fgN_key b.toNat b.toNat_lt
  show (!(!(blN b.toNat) && (decide (b.toNat < 32) || decide (126 < b.toNat)))) = _
  rw [this, Bool.not_not]
theorem isByte_any (b : UInt8) (w : World) : Calls Tryd.prog 23 #[.int .u8 b.toNat] w (BoS (!fgB b) w) := by
  rw [fgB_own]
  have HP : Hid (∀ v w, v = decide (b.toNat = 9 ∨ b.toNat = 10 ∨ (32 ≤ b.toNat ∧ b.toNat ≤ 126)) → BoS (decide (b.toNat = 9 ∨ b.toNat = 10 ∨ (32 ≤ b.toNat ∧ b.toNat ≤ 126))) w (.returned (.bool v)) w) := fun v w h => BoS.mk h w
  generalize hQ : decide (b.toNat = 9 ∨ b.toNat = 10 ∨ (32 ≤ b.toNat ∧ b.toNat ≤ 126)) = Q at *
  have HQ := Lib.hid hQ
  clear hQ
  generalize b.toNat = n at *
  by_cases h9 : n = 9
  · have HX : Hid (true = Q) := by show _ = _; rw [← HQ.out]; exact (decide_eq_true (.inl h9)).symm
    subst h9
    clear HQ
    go_enter Tryd.func23, Tryd.ntmps23
    go_wp2
    go_ret
    exact HP.out _ _ HX.out
  · by_cases h10 : n = 10
    · have HX : Hid (true = Q) := by show _ = _; rw [← HQ.out]; exact (decide_eq_true (.inr (.inl h10))).symm
      subst h10
      clear HQ
      go_enter Tryd.func23, Tryd.ntmps23
      go_wp2
      go_ret
      exact HP.out _ _ HX.out
    · have f9 : ((n : Int) == 9) = false := by rw [beq_eq_false_iff_ne]; omega
      have f10 : ((n : Int) == 10) = false := by rw [beq_eq_false_iff_ne]; omega
      by_cases h32 : n < 32
      · have d32 : decide ((32 : Int) ≤ (n : Int)) = false := decide_eq_false (by omega)
        have h32i : (n : Int) < 32 := by omega
        have HX : Hid (false = Q) := by show _ = _; rw [← HQ.out]; exact (decide_eq_false (by omega)).symm
        clear HQ h9 h10 h32
        go_enter Tryd.func23, Tryd.ntmps23
        go_wp2
        go_ret
        exact HP.out _ _ HX.out
      · have h32i : (32 : Int) ≤ (n : Int) := by omega
        have d32 : decide ((32 : Int) ≤ (n : Int)) = true := decide_eq_true h32i
        by_cases h126 : 126 < n
        · have d126 : decide ((n : Int) ≤ 126) = false := decide_eq_false (by omega)
          have HX : Hid (false = Q) := by show _ = _; rw [← HQ.out]; exact (decide_eq_false (by omega)).symm
          clear HQ h9 h10 h32 h126
          go_enter Tryd.func23, Tryd.ntmps23
          go_wp2
          go_ret
          exact HP.out _ _ (by first | exact HX.out | (rw [← HX.out]; simpa using d126))
        · have h126i : (n : Int) ≤ 126 := by omega
          have d126 : decide ((n : Int) ≤ 126) = true := decide_eq_true h126i
          have HX : Hid (true = Q) := by show _ = _; rw [← HQ.out]; exact (decide_eq_true (by omega)).symm
          clear HQ h9 h10 h32 h126
          go_enter Tryd.func23, Tryd.ntmps23
          go_wp2
          go_ret
          exact HP.out _ _ (by first | exact HX.out | (rw [← HX.out]; simpa using d126))

set_option maxRecDepth 100000 in
set_option maxHeartbeats 4000000 in
theorem rQuote_any (s : ByteArray) (hs : s.size ≤ 100000) (w : World) : Calls Tryd.prog 14 #[.string s] w (QuP s.data.toList w) := by
  have HB0 := Lib.hid (Below.refl w.heap.size w)
  have HBY := Lib.hid isByte_any
  obtain ⟨l, hl⟩ : ∃ l, s.data.toList = l := ⟨_, rfl⟩
  have hsl : s.size = l.length := by rw [← hl, ← Lib.size_eq]
  have HAT : Hid (∀ k (h : k < s.size), l.drop k = s[k] :: l.drop (k + 1)) := fun k h => drop_at s l hl k h
  have HEN : Hid (∀ k, ¬ k < s.size → l.drop k = []) := fun k h => drop_end s l hl k h
  have HES := Lib.hid (fun w => rescaped_any s hs w)
  have hel := esc_len qB s.data.toList
  rw [hl] at hel HES ⊢
  have HC := Lib.hid (cat3 (escL qB l))
  have hz2 : ((bs (escL qB l)).size : Int) ≤ 8388608 := by
    rw [bs_size]
    omega
  have hz3 : (((⟨#[39]⟩ : ByteArray) ++ bs (escL qB l)).size : Int) ≤ 8388608 := by
    rw [ByteArray.size_append, bs_size]
    have : (⟨#[39]⟩ : ByteArray).size = 1 := rfl
    omega
  clear hel hl
  have HZ2 := Lib.hid hz2
  have HZ3 := Lib.hid hz3
  clear hz2 hz3
  have HP : Hid (∀ q n w', (q, n) = quR l → Below w.heap.size w w' → QuP l w (.returned (.tuple #[.string (bs q), .int .i64 n])) w') := fun q n w' h hb => QuP.mk h hb
  by_cases h1 : 4096 < s.size
  · have hi : (4096 : Int) < (s.size : Int) := by omega
    have HX : Hid (([], 3) = quR l) := by
      show _ = _
      unfold quR
      rw [if_pos (by omega)]
    clear h1 hsl
    go_enter Tryd.func14, Tryd.ntmps14
    go_wp2
    go_ret2
    exact HP.out _ _ _ HX.out HB0.out
  · have hi : (s.size : Int) ≤ 4096 := by omega
    have HNO : Hid (∀ k, k < s.size → fgN l = k → ([], 1) = quR l) := fun k hk he => by
      unfold quR
      rw [if_neg (by omega), if_pos (by omega)]
    have HYE : Hid (fgN l = s.size → (39 :: (escL qB l ++ [39]), 0) = quR l) := fun he => by
      unfold quR
      rw [if_neg (by omega), if_neg (by omega)]
    clear h1 hsl hs
    have hi2 : ¬ (4096 : Int) < (s.size : Int) := by omega
    clear hi
    go_enter Tryd.func14, Tryd.ntmps14
    go_wp2
    go_loop [4] (fun n => ∃ k : Nat, k ≤ s.size ∧ n = .int .i64 k ∧ Hid (fgN l = k + fgN (l.drop k))) (fun n => s.size - (intOf n).toNat)
    case atStart => exact ⟨0, by omega, rfl, by show _ = _; simp⟩
    case round =>
      obtain ⟨k, hk, rfl, hw⟩ := hrel
      by_cases hlt : k < s.size
      · have hat := HAT.out k hlt
        have hlti : (k : Int) < (s.size : Int) := by omega
        have HBk := Lib.hid (HBY.out s[k])
        cases hf : fgB s[k] with
        | true =>
          have HX : Hid (([], 1) = quR l) := HNO.out k hlt (by rw [hw.out, hat, fgN_yes hf]; omega)
          rw [hf] at HBk
          clear hat hf
          go_wp2_with fail
          refine (HBk.out _).mono ?_
          rintro e w1 ⟨rfl, rfl⟩
          go_wp2
          go_ret2
          exact HP.out _ _ _ HX.out HB0.out
        | false =>
          have HN : Hid (fgN l = (k + 1) + fgN (l.drop (k + 1))) := by
            show _ = _
            rw [hw.out, hat, fgN_no hf]
            omega
          rw [hf] at HBk
          clear hat hf
          go_wp2_with fail
          refine (HBk.out _).mono ?_
          rintro e w1 ⟨rfl, rfl⟩
          go_wp2
          go_round
          case rel => exact ⟨k + 1, by omega, by go_num, HN⟩
          case measure => simp [intOf]; omega
      · have HX : Hid ((39 :: (escL qB l ++ [39]), 0) = quR l) := HYE.out (by
          rw [hw.out, HEN.out k hlt]
          show k + 0 = _
          omega)
        have hks : (s.size : Int) ≤ (k : Int) := by omega
        unfold SsP at HES
        have hz2 := HZ2.out
        have hz3 := HZ3.out
        clear HZ2 HZ3
        generalize 39 :: (escL qB l ++ [39]) = q at *
        generalize bs (escL qB l) = x at *
        go_wp2_with fail
        refine (HES.out _).mono ?_
        rintro e w1 ⟨rfl, hb⟩
        have HB := Lib.hid hb
        clear hb
        go_wp2
        go_ret2
        rw [HC.out]
        exact HP.out _ _ _ HX.out HB.out

end Go.Proofs.YtnfoafcpcabpmaaDoor
