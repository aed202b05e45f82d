/-
  A text between quotes, a part without interpolation: as facts on lists of bytes, and plain. Conditions: texts of at most 100000 bytes.
-/
import Derived.Test.YtnfoafcpcabpmaaDoorRo
namespace Go.Proofs.YtnfoafcpcabpmaaDoor
open Go.RowKit

/-- A text with a backslash before each of some bytes. -/
def escL (p : UInt8 → Bool) : List UInt8 → List UInt8
  | [] => []
  | b :: t => if p b then 92 :: b :: escL p t else b :: escL p t
def qB (b : UInt8) : Bool := ([39, 92] : List UInt8).contains b
/-- A piece of a part without interpolation. -/
def plG (o : UInt8) (p : List UInt8) : List UInt8 := match p with
  | [a, b] => if b = 92 ∨ b = o ∨ b = prB o then [b] else [a, b]
  | p => p
theorem plG_len (o : UInt8) (p : List UInt8) (h : p.length ≤ 2) : (plG o p).length ≤ 4 := by
  unfold plG
  split
  · split <;> simp
  · omega
theorem rw_esc : ∀ l, rwL (plG 39) (escL qB l) = l
  | [] => rfl
  | b :: t => by
    unfold escL
    by_cases hb : qB b = true
    · rw [if_pos hb, rwL_two, rw_esc t]
      have : b = 39 ∨ b = 92 := by simpa [qB] using hb
      have h2 : plG 39 [92, b] = [b] := by
        unfold plG
        exact if_pos (by
          rcases this with h | h
          · exact .inr (.inl h)
          · exact .inl h)
      rw [h2]
      rfl
    · rw [if_neg hb, rwL_one _ _ _ (.inl (by
        intro h
        exact hb (by rw [h]; rfl))), rw_esc t]
      rfl
theorem esc_len (p : UInt8 → Bool) : ∀ l, l.length ≤ (escL p l).length ∧ (escL p l).length ≤ 2 * l.length
  | [] => ⟨Nat.le_refl _, Nat.le_refl _⟩
  | b :: t => by
    have := esc_len p t
    unfold escL
    by_cases hb : p b = true
    · rw [if_pos hb]
      simp only [List.length_cons]
      omega
    · rw [if_neg hb]
      simp only [List.length_cons]
      omega
theorem at_drop (s : ByteArray) (a : Nat) (b : UInt8) (t : List UInt8) (h : s.data.toList.drop a = b :: t) : ∃ hlt : a < s.size, s[a] = b ∧ s.data.toList.drop (a + 1) = t := by
  have hlt : a < s.size := by
    rw [Lib.size_eq]
    have := congrArg List.length h
    rw [List.length_drop, List.length_cons] at this
    omega
  refine ⟨hlt, ?_, ?_⟩
  · have h1 := by0_at s a hlt
    rw [← h1]
    unfold by0
    rw [List.getD_eq_getElem?_getD, ← List.head?_drop, h]
    rfl
  · rw [← List.drop_drop, h]
    rfl
/-- A quoted text is read to its closing quote. -/
theorem pt_esc (s : ByteArray) : ∀ (t : List UInt8) (a : Nat) (out : List UInt8), s.data.toList.drop a = escL qB t ++ [39] → pt s [] 39 a 1 out = some (s.size, out ++ escL qB t)
  | [], a, out, h => by
    obtain ⟨hlt, hb, hd⟩ := at_drop s a 39 [] h
    rw [pt_step (gd_nil _) 1 out hlt, hb, if_pos (show (39 : UInt8) = prB 39 from rfl), if_pos rfl]
    have he : a + 1 = s.size := by
      have := congrArg List.length hd
      rw [List.length_drop, ← Lib.size_eq] at this
      simp only [List.length_nil] at this
      omega
    show some (a + 1, out) = _
    rw [he]
    simp [escL]
  | b :: t, a, out, h => by
    unfold escL at h ⊢
    by_cases hq : qB b = true
    · rw [if_pos hq] at h ⊢
      obtain ⟨hlt, hb, hd⟩ := at_drop s a 92 _ h
      obtain ⟨hlt2, hb2, hd2⟩ := at_drop s (a + 1) b _ hd
      have e0 := by0_at s (a + 1) hlt2
      rw [pt_step (gd_nil _) 1 out hlt, hb, if_neg (show ¬ (92 : UInt8) = prB 39 from by decide), if_neg (by decide), if_pos rfl]
      show (if a + 1 < s.size then pt s [] 39 (a + 1 + 1) 1 (out ++ [92] ++ [by0 s.data.toList (a + 1)]) else none) = _
      rw [if_pos hlt2, e0, hb2, pt_esc s t (a + 1 + 1) _ hd2]
      simp
    · rw [if_neg hq] at h ⊢
      obtain ⟨hlt, hb, hd⟩ := at_drop s a b _ h
      have hn : b ≠ 39 ∧ b ≠ 92 := by
        constructor
        · rintro rfl
          exact hq rfl
        · rintro rfl
          exact hq rfl
      rw [pt_step (gd_nil _) 1 out hlt, hb, if_neg (show ¬ b = prB 39 from hn.1), if_neg hn.1, if_neg hn.2]
      show pt s [] 39 (a + 1) 1 (out ++ [b]) = _
      rw [pt_esc s t (a + 1) _ hd]
      simp


set_option maxRecDepth 100000 in
set_option maxHeartbeats 4000000 in
/-- A text with its pieces replaced, by a function that captures one value. -/
theorem rewritten_cap (F : Nat) (cv : Value) (g : List UInt8 → List UInt8) (hg : ∀ p, p.length ≤ 2 → (g p).length ≤ 4) (l0 : List UInt8) (hs : l0.length ≤ 100000) (w : World)
    (er : ∀ args w, (callFunc F args).run Tryd.prog w = .ok (.enter F args) w)
    (hf : ∀ p, p.length ≤ 2 → p ≠ [] → ∀ w', Below w.heap.size w w' → Calls Tryd.prog F #[.string (bs p), cv] w' (SsP (g p) w')) :
    Calls Tryd.prog 85 #[.string (bs l0), .func (.func F) #[] #[cv]] w (SsP (rwL g l0) w) := by
  have HP : Hid (∀ l w', l = rwL g l0 → Below w.heap.size w w' → SsP (rwL g l0) w (.returned (.string (bs l))) w') := fun l w' h1 h2 => by
    subst h1
    exact ⟨rfl, h2⟩
  have HF : Hid (∀ p, p.length ≤ 2 → p ≠ [] → ∀ w', Below w.heap.size w w' → Calls Tryd.prog F #[.string (bs p), cv] w' (SsP (g p) w')) := hf
  have HW : Hid (∀ (q out : List UInt8) w', Bld w.heap.size w.heap.size out w' → out.length ≤ 500000 → q.length ≤ 4 → w.heap.size ≤ w'.heap.size → Calls Tryd.prog 31 #[.pointer (some ⟨w.heap.size, 0, none⟩), .string (bs q)] w' (WrP (bs q).size w.heap.size w.heap.size (out ++ q) w')) := fun q out w' h1 h2 h3 h4 => by
    have := WriteString_any w.heap.size w.heap.size out (bs q) w' h1 (by rw [bs_size]; omega) h4
    rwa [bs_list] at this
  have HG := Lib.hid hg
  have HF0 : Hid (Bld w.heap.size w.heap.size [] (w.alloc (.cells #[.pointer none, .slice none 0 0] 53))) := Bld.fresh _ w (Nat.le_refl _)
  have HB0 : Hid (Below w.heap.size w (w.alloc (.cells #[.pointer none, .slice none 0 0] 53))) := (Below.refl _ _).alloc (Nat.le_refl _) _
  have H00 : Hid (rwL g l0 = [] ++ rwL g l0) := rfl
  clear hf hg
  go_enter Tryd.func85, Tryd.ntmps85
  go_wp2
  generalize w.alloc (.cells #[.pointer none, .slice none 0 0] 53) = w1 at *
  go_loopw [0] (fun sv wr => ∃ (l out : List UInt8), sv = .string (bs l) ∧ l.length ≤ l0.length ∧ out.length + 4 * l.length ≤ 4 * l0.length ∧ Hid (rwL g l0 = out ++ rwL g l) ∧ Hid (Bld w.heap.size w.heap.size out wr) ∧ Hid (Below w.heap.size w wr)) (fun sv _ => stLen sv)
  case atStart => exact ⟨l0, [], rfl, Nat.le_refl _, by simp, H00, HF0, HB0⟩
  case round =>
    obtain ⟨l, out, rfl, hll, hol, hrw, hbd, hbl⟩ := hrel
    match l with
    | [] =>
      have hemp : (bs []).toList.isEmpty = true := by rw [Lib.toList_data]; rfl
      have HST := Lib.hid (String_any _ _ out wr hbd.out hbl.out.size)
      have HN : Hid (out = rwL g l0) := by
        show _ = _
        rw [hrw.out]
        simp [rwL]
      clear hol hll
      generalize bs [] = s at *
      go_wp2_with fail
      refine (HST.out).mono ?_
      rintro e w3 ⟨rfl, hk3⟩
      have HBL3 : Hid (Below w.heap.size w w3) := hbl.out.trans hk3.2.1
      clear hk3
      go_wp2
      go_ret
      exact HP.out _ _ HN.out HBL3.out
    | b :: t =>
      have hsz := bs_cons b t
      have hne := bs_ne b t
      have hpos : 0 < (bs (b :: t)).size := by omega
      have hb0 := bs_zero b t hpos
      have x1 : (bs (b :: t)).extract 0 1 = bs [b] := bs_take [b] t 1 rfl
      have x2 : (bs (b :: t)).extract 1 (bs (b :: t)).size = bs t := bs_drop [b] t 1 rfl
      simp only [List.length_cons] at hll hol
      by_cases h92 : b = 92 ∧ t ≠ []
      · obtain ⟨rfl, hne2⟩ := h92
        match t, hne2 with
        | c :: r, _ =>
          have y1 : (bs (92 :: c :: r)).extract 0 2 = bs [92, c] := bs_take [92, c] r 2 rfl
          have y2 : (bs (92 :: c :: r)).extract 2 (bs (92 :: c :: r)).size = bs r := bs_drop [92, c] r 2 rfl
          have HN : Hid (rwL g l0 = (out ++ g [92, c]) ++ rwL g r) := by
            show _ = _
            rw [hrw.out, rwL_two, List.append_assoc]
          have hg2 := HG.out [92, c] (by simp)
          have hf2 := Lib.hid (HF.out [92, c] (by simp) (by simp))
          have HWs := Lib.hid (HW.out (g [92, c]) out)
          simp only [List.length_cons] at hll hol hsz
          have HME : Hid ((bs r).size < (bs (92 :: c :: r)).size) := by
            show _ < _
            rw [hsz, bs_size]
            omega
          have f1 : (((bs (92 :: c :: r))[0].toNat : Int) == 92) = true := by rw [hb0]; rfl
          have z2 : min (2 : Int) ((bs (92 :: c :: r)).size : Int) = 2 := by omega
          have z3 : 2 ≤ (bs (92 :: c :: r)).size := by omega
          clear x1 x2 hsz hb0
          generalize bs (92 :: c :: r) = s at *
          go_wp2_with fail
          refine (hf2.out _ hbl.out).mono ?_
          rintro e w2 ⟨rfl, hb2⟩
          have HBD2 := Lib.hid (hbd.out.kept fun k _ hk => hb2.block k hk)
          have HBL2 : Hid (Below w.heap.size w w2) := hbl.out.trans (hb2.mono hbl.out.size)
          clear hb2
          go_wp2_with fail
          refine (HWs.out _ HBD2.out (by omega) hg2 HBL2.out.size).mono ?_
          rintro e w3 ⟨rfl, hk3⟩
          have HBD3 : Hid (Bld w.heap.size w.heap.size (out ++ g [92, c]) w3) := hk3.1
          have HBL3 : Hid (Below w.heap.size w w3) := HBL2.out.trans hk3.2.1
          clear hk3
          go_wp2
          go_roundw
          case rel => exact ⟨r, out ++ g [92, c], rfl, by omega, by rw [List.length_append]; omega, HN, HBD3, HBL3⟩
          case measure =>
            have := HME.out
            simpa [stLen] using this
      · have HN : Hid (rwL g l0 = (out ++ g [b]) ++ rwL g t) := by
          show _ = _
          rw [hrw.out, rwL_one g b t (by
            by_cases hb : b = 92
            · exact .inr (Classical.byContradiction fun h => h92 ⟨hb, h⟩)
            · exact .inl hb), List.append_assoc]
        have hg2 := HG.out [b] (by simp)
        have hf2 := Lib.hid (HF.out [b] (by simp) (by simp))
        have HWs := Lib.hid (HW.out (g [b]) out)
        have HME : Hid ((bs t).size < (bs (b :: t)).size) := by
          show _ < _
          rw [hsz, bs_size]
          omega
        by_cases hb : b = 92
        · have ht : t = [] := Classical.byContradiction fun h => h92 ⟨hb, h⟩
          have f1 : (((bs (b :: t))[0].toNat : Int) == 92) = true := by rw [hb0, hb]; rfl
          have z2 : min (2 : Int) ((bs (b :: t)).size : Int) = 1 := by
            rw [hsz, ht]
            decide
          clear hsz hb0 hb ht h92
          generalize bs (b :: t) = s at *
          go_wp2_with fail
          refine (hf2.out _ hbl.out).mono ?_
          rintro e w2 ⟨rfl, hb2⟩
          have HBD2 := Lib.hid (hbd.out.kept fun k _ hk => hb2.block k hk)
          have HBL2 : Hid (Below w.heap.size w w2) := hbl.out.trans (hb2.mono hbl.out.size)
          clear hb2
          go_wp2_with fail
          refine (HWs.out _ HBD2.out (by omega) hg2 HBL2.out.size).mono ?_
          rintro e w3 ⟨rfl, hk3⟩
          have HBD3 : Hid (Bld w.heap.size w.heap.size (out ++ g [b]) w3) := hk3.1
          have HBL3 : Hid (Below w.heap.size w w3) := HBL2.out.trans hk3.2.1
          clear hk3
          go_wp2
          go_roundw
          case rel => exact ⟨t, out ++ g [b], rfl, by omega, by rw [List.length_append]; omega, HN, HBD3, HBL3⟩
          case measure =>
            have := HME.out
            simpa [stLen] using this
        · have f1 : (((bs (b :: t))[0].toNat : Int) == 92) = false := by rw [hb0]; exact u8_ne (b := 92) hb
          clear hsz hb0 hb h92
          generalize bs (b :: t) = s at *
          go_wp2_with fail
          refine (hf2.out _ hbl.out).mono ?_
          rintro e w2 ⟨rfl, hb2⟩
          have HBD2 := Lib.hid (hbd.out.kept fun k _ hk => hb2.block k hk)
          have HBL2 : Hid (Below w.heap.size w w2) := hbl.out.trans (hb2.mono hbl.out.size)
          clear hb2
          go_wp2_with fail
          refine (HWs.out _ HBD2.out (by omega) hg2 HBL2.out.size).mono ?_
          rintro e w3 ⟨rfl, hk3⟩
          have HBD3 : Hid (Bld w.heap.size w.heap.size (out ++ g [b]) w3) := hk3.1
          have HBL3 : Hid (Below w.heap.size w w3) := HBL2.out.trans hk3.2.1
          clear hk3
          go_wp2
          go_roundw
          case rel => exact ⟨t, out ++ g [b], rfl, by omega, by rw [List.length_append]; omega, HN, HBD3, HBL3⟩
          case measure =>
            have := HME.out
            simpa [stLen] using this


theorem bounds_any (o x : UInt8) (w : World) : Calls Tryd.prog 87 #[.int .u8 o.toNat, .int .u8 x.toNat] w (BoS (decide (x = o ∨ x = prB o)) w) := by
  have HP : Hid (∀ b w, b = decide (x = o ∨ x = prB o) → BoS (decide (x = o ∨ x = prB o)) w (.returned (.bool b)) w) := fun b w h => BoS.mk h w
  have HPA := Lib.hid (fun w => partner_any o w)
  by_cases h1 : x = o
  · have f1 := u8_eq h1
    have HX : Hid (true = decide (x = o ∨ x = prB o)) := (decide_eq_true (.inl h1)).symm
    clear h1
    go_enter Tryd.func87, Tryd.ntmps87
    go_wp2
    go_ret
    exact HP.out _ _ HX.out
  · have f1 := u8_ne h1
    by_cases h2 : x = prB o
    · have f2 := u8_eq h2
      have HX : Hid (true = decide (x = o ∨ x = prB o)) := (decide_eq_true (.inr h2)).symm
      clear h1 h2
      go_enter Tryd.func87, Tryd.ntmps87
      go_wp2_with fail
      refine (HPA.out _).mono ?_
      rintro e w1 ⟨rfl, rfl⟩
      go_wp2
      go_ret
      exact HP.out _ _ HX.out
    · have f2 := u8_ne h2
      have HX : Hid (false = decide (x = o ∨ x = prB o)) := (decide_eq_false (fun h => h.elim h1 h2)).symm
      clear h1 h2
      go_enter Tryd.func87, Tryd.ntmps87
      go_wp2_with fail
      refine (HPA.out _).mono ?_
      rintro e w1 ⟨rfl, rfl⟩
      go_wp2
      go_ret
      exact HP.out _ _ HX.out
theorem bs_two (a b : UInt8) (h : 1 < (bs [a, b]).size) : (bs [a, b])[1] = b := by
  have := getElem_list2 (bs [a, b]) 1 h
  rw [bs_list] at this
  exact (Option.some.inj this).symm
set_option maxRecDepth 100000 in
set_option maxHeartbeats 2000000 in
theorem plG_run (o : UInt8) (N : Nat) (p : List UInt8) (hp : p.length ≤ 2) (hne : p ≠ []) (w : World) (hc : w.cell? ⟨N, 0, none⟩ = some (.int .u8 o.toNat)) :
    Calls Tryd.prog 86 #[.string (bs p), .pointer (some ⟨N, 0, none⟩)] w (SsP (plG o p) w) := by
  have HP : Hid (∀ l w', l = plG o p → Below w.heap.size w w' → SsP (plG o p) w (.returned (.string (bs l))) w') := fun l w' h1 h2 => by
    rw [h1]
    exact ⟨rfl, h2⟩
  have HB : Hid (∀ q, Below w.heap.size w (w.drewN q)) := fun q => bl_drewN (Below.refl _ _) q
  match p, hp, hne with
  | [a], _, _ =>
    have HX : Hid ([a] = plG o [a]) := rfl
    have hs : (bs [a]).size = 1 := rfl
    have f1 : (((bs [a]).size : Int) == 2) = false := by rw [hs]; rfl
    clear hs
    generalize hq : bs [a] = s at *
    have HQ := Lib.hid hq
    clear hq
    go_enter Tryd.func86, Tryd.ntmps86
    go_wp2_with fail
    go_quiet (fail)
    go_wp2
    go_ret
    rw [← HQ.out]
    exact HP.out _ _ HX.out (HB.out _)
  | [a, b], _, _ =>
    have hs : (bs [a, b]).size = 2 := rfl
    have f1 : (((bs [a, b]).size : Int) == 2) = true := by rw [hs]; rfl
    have hlt : 1 < (bs [a, b]).size := by omega
    have hlti : (1 : Int) < ((bs [a, b]).size : Int) := by omega
    have hb := bs_two a b hlt
    have e1 : (bs [a, b]).extract 1 (bs [a, b]).size = bs [b] := bs_drop [a] [b] 1 rfl
    have HBO := Lib.hid (fun w => bounds_any o b w)
    generalize hq : bs [a, b] = s at *
    have HQ := Lib.hid hq
    clear hq hs
    by_cases h92 : b = 92
    · have HX : Hid ([b] = plG o [a, b]) := by
        show _ = _
        unfold plG
        exact (if_pos (.inl h92)).symm
      have f2 : (((s[1]).toNat : Int) == 92) = true := by rw [hb, h92]; rfl
      clear h92 hb
      go_enter Tryd.func86, Tryd.ntmps86
      go_wp2_with fail
      go_quiet (fail)
      go_wp2
      go_ret
      exact HP.out _ _ HX.out (HB.out _)
    · have f2 : ((b.toNat : Int) == 92) = false := u8_ne (b := 92) h92
      have hbi : ((s[1]).toNat : Int) = (b.toNat : Int) := by rw [hb]
      by_cases hbo : b = o ∨ b = prB o
      · have HX : Hid ([b] = plG o [a, b]) := by
          show _ = _
          unfold plG
          exact (if_pos (.inr hbo)).symm
        rw [decide_eq_true hbo] at HBO
        clear h92 hbo hb
        go_enter Tryd.func86, Tryd.ntmps86
        go_wp2_with fail
        go_quiet ((go_at_call 87; exact Calls.quiet_of_same ((HBO.out _).mono fun _ _ h => ⟨h.1, h.2.symm⟩)))
        go_wp2
        go_ret
        exact HP.out _ _ HX.out (HB.out _)
      · have HX : Hid ([a, b] = plG o [a, b]) := by
          show _ = _
          unfold plG
          exact (if_neg (fun h => h.elim h92 hbo)).symm
        rw [decide_eq_false hbo] at HBO
        clear h92 hbo hb
        go_enter Tryd.func86, Tryd.ntmps86
        go_wp2_with fail
        go_quiet ((go_at_call 87; exact Calls.quiet_of_same ((HBO.out _).mono fun _ _ h => ⟨h.1, h.2.symm⟩)))
        go_wp2
        go_ret
        rw [← HQ.out]
        exact HP.out _ _ HX.out (HB.out _)
theorem e_plG (args : Array Value) (w : World) : (callFunc 86 args).run Tryd.prog w = .ok (.enter 86 args) w := by kernel_rfl
set_option maxHeartbeats 1000000 in
theorem plain_any (o : UInt8) (l : List UInt8) (hs : l.length ≤ 100000) (w : World) : Calls Tryd.prog 64 #[.string (bs l), .int .u8 o.toNat] w (SsP (rwL (plG o) l) w) := by
  have hmf := makeFunc_run
  have hb1 : Below w.heap.size w (w.alloc (.cells #[.int .u8 o.toNat] 5)) := (Below.refl _ _).alloc (Nat.le_refl _) _
  have hn : w.heap.size < (w.alloc (.cells #[.int .u8 o.toNat] 5)).heap.size := by simp
  have hc1 : (w.alloc (.cells #[.int .u8 o.toNat] 5)).cell? ⟨w.heap.size, 0, none⟩ = some (.int .u8 o.toNat) := Lib.cell_of_heap (Go.MapKept.heap_alloc w _).1 0
  have H := Lib.hid (rewritten_cap 86 (.pointer (some ⟨w.heap.size, 0, none⟩)) (plG o) (plG_len o) l hs (w.alloc (.cells #[.int .u8 o.toNat] 5)) e_plG
    (fun p h1 h2 w' h3 => plG_run o w.heap.size p h1 h2 w' ((h3.cell (p := ⟨w.heap.size, 0, none⟩) hn).trans hc1)))
  have HB1 := Lib.hid hb1
  have HP : Hid (∀ w', Below w.heap.size w w' → SsP (rwL (plG o) l) w (.returned (.string (bs (rwL (plG o) l)))) w') := fun w' h => ⟨rfl, h⟩
  unfold SsP at H
  clear hb1 hc1 hn hs
  generalize bs l = s at *
  generalize bs (rwL (plG o) l) = r at *
  go_enter Tryd.func64, Tryd.ntmps64
  go_wp2_with fail
  refine H.out.mono ?_
  rintro e w' ⟨rfl, hb⟩
  have HB : Hid (Below w.heap.size w w') := HB1.out.trans (hb.mono HB1.out.size)
  clear hb
  go_wp2
  go_ret
  exact HP.out _ HB.out

end Go.Proofs.YtnfoafcpcabpmaaDoor
