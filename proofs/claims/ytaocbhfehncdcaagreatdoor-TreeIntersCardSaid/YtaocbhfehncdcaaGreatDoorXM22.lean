/-
  Nothing further of the library is wanted here. Conditions: none. strconv.ParseUint in base 16 at 32 bits, for at most 6 bytes. Conditions: the variable strconv.ErrSyntax holds an error. Names, perhaps in braces, as package tree reads them. Conditions: texts of at most 100000 bytes.
-/
import Derived.Test.YtaocbhfehncdcaaGreatDoorXShelf
import Derived.Test.YtaocbhfehncdcaaGreatDoorXM00
import Derived.Test.YtaocbhfehncdcaaGreatDoorXM01
import Derived.Lib.AtoiErrMem
import Derived.Lib.ConvBytes
import Derived.Laws.Closers25
import Derived.Laws.Closers25b
import Derived.Test.YtaocbhfehncdcaaGreatDoorXM21
namespace Go.Proofs.YtaocbhfehncdcaaGreatDoor
end Go.Proofs.YtaocbhfehncdcaaGreatDoor

namespace Go.Proofs.YtaocbhfehncdcaaGreatDoor
open Go.RowKit


theorem or32 : ∀ c : Nat, c < 256 → bits BinOp.or IntKind.u8 (c : Int) 32 = ((c ||| 32 : Nat) : Int) := by decide +kernel
/-- The small form of a byte that is a letter. -/
def lwr (c : Nat) : Nat := c ||| 32
theorem lwr_lt : ∀ c : Nat, c < 256 → lwr c < 256 := by decide +kernel
theorem lwr_hx : ∀ c : Nat, c < 256 → ¬ (48 ≤ c ∧ c ≤ 57) → (97 ≤ lwr c ∧ lwr c ≤ 102) → isHx (UInt8.ofNat c) = true ∧ hxv (UInt8.ofNat c) = (lwr c : Int) - 87 ∧ c ≠ 95 := by decide +kernel
theorem lwr_no : ∀ c : Nat, c < 256 → ¬ (48 ≤ c ∧ c ≤ 57) → ¬ (97 ≤ lwr c ∧ lwr c ≤ 102) → isHx (UInt8.ofNat c) = false := by decide +kernel
theorem dig_hx : ∀ c : Nat, c < 256 → (48 ≤ c ∧ c ≤ 57) → isHx (UInt8.ofNat c) = true ∧ hxv (UInt8.ofNat c) = (c : Int) - 48 := by decide +kernel
theorem lower_any (c : Nat) (h : c < 256) (w : World) : Calls Tryz.prog 139 #[.int .u8 c] w fun e w' => e = .returned (.int .u8 (lwr c : Nat)) ∧ w = w' := by
  have h1 : bits BinOp.or IntKind.u8 (c : Int) 32 = ((lwr c : Nat) : Int) := or32 c h
  have h2 := lwr_lt c h
  generalize lwr c = v at *
  go_enter Tryz.func139, Tryz.ntmps139
  go_wp2
  go_ret
  exact ⟨rfl, rfl⟩
def puOk (d : List UInt8) : Value := .tuple #[.int .u64 (hvl 0 d : Nat), .nilIface]
def puNo : Value := .tuple #[.int .u64 0, .iface 134 (.int .i64 2)]
def puV (d : List UInt8) : Value := if ∀ b ∈ d, isHx b = true then puOk d else puNo
/-- Where the loop stands. -/
def PuAt (d : List UInt8) (k : Nat) (a : Int) : Prop := a = (hvl 0 (d.take k) : Nat) ∧ ∀ b ∈ d.take k, isHx b = true
theorem PuAt.step {d : List UInt8} {k : Nat} {a : Int} (h : PuAt d k a) (hk : k < d.length) (hx : isHx d[k] = true) (v : Int) (hv : hxv d[k] = v) : PuAt d (k + 1) (a * 16 + v) := by
  obtain ⟨h1, h2⟩ := h
  have ht : d.take (k + 1) = d.take k ++ [d[k]] := List.take_succ_eq_append_getElem hk
  refine ⟨?_, fun b hb => ?_⟩
  · rw [ht, hvl_snoc, hv, h1]
    have h0 : 0 ≤ v := by
      unfold isHx at hx
      rw [hv] at hx
      exact of_decide_eq_true hx
    omega
  · rw [ht] at hb
    rcases List.mem_append.1 hb with hb | hb
    · exact h2 b hb
    · rw [List.mem_singleton.1 hb]
      exact hx
theorem PuAt.bd {d : List UInt8} {k : Nat} {a : Int} (h : PuAt d k a) (h6 : d.length ≤ 6) (hk : k < d.length) : 0 ≤ a ∧ a < 1048576 := by
  have h1 := hvl_bd (d.take k) 0
  have h2 : (d.take k).length ≤ 5 := by rw [List.length_take]; omega
  have h3 : 16 ^ (d.take k).length ≤ 16 ^ 5 := Nat.pow_le_pow_right (by omega) h2
  have h4 := h.1
  simp at h1 h3
  omega
theorem puV_no {d : List UInt8} {k : Nat} (hk : k < d.length) (hx : isHx d[k] = false) : puV d = puNo := by
  unfold puV
  rw [if_neg]
  intro h
  have := h d[k] (List.getElem_mem hk)
  rw [hx] at this
  cases this
theorem puV_ok {d : List UInt8} {k : Nat} {a : Int} (h : PuAt d k a) (hk : d.length ≤ k) : puV d = .tuple #[.int .u64 a, .nilIface] := by
  obtain ⟨h1, h2⟩ := h
  rw [List.take_of_length_le hk] at h1 h2
  unfold puV puOk
  rw [if_pos h2, h1]
set_option maxHeartbeats 8000000 in
set_option maxRecDepth 100000 in
theorem iParseUint_16 (t : ByteArray) (hne : t.size ≠ 0) (h6 : t.size ≤ 6) (w : World) :
    Calls Tryz.prog 127 #[.string t, .int .i64 16, .int .i64 32] w fun e w' => e = .returned (puV t.data.toList) ∧ w' = Lib.bytesWorld w 5 t := by
  have hemp : t.toList.isEmpty = false := by
    rw [Lib.toList_data, List.isEmpty_eq_false_iff]
    intro h
    exact hne (by rw [Lib.size_eq, h]; rfl)
  have hcv := Lib.run_convert_string_bytes (P := Tryz.prog) w 9 52 5 t (u := .string) Tryz.underlying9 Tryz.underlying52 Tryz.underlying5
  have HB : Hid (∀ j, j < t.size → (Lib.bytesWorld w 5 t).cell? ⟨w.heap.size, j, none⟩ = some (.int .u8 (t.data.toList.getD j 0).toNat)) := fun j hj => Lib.bytesWorld_cell w 5 t j hj
  obtain ⟨W1, hW1⟩ : ∃ W1, W1 = Lib.bytesWorld w 5 t := ⟨_, rfl⟩
  rw [← hW1] at hcv HB ⊢
  clear hW1
  obtain ⟨d, hL⟩ : ∃ d, d = t.data.toList := ⟨_, rfl⟩
  have hLn : d.length = t.size := by rw [hL, Lib.size_eq]
  rw [← hL] at HB ⊢
  clear hL
  have HLn := Lib.hid hLn
  have HST : Hid (∀ k a, PuAt d k a → (hk : k < d.length) → isHx d[k] = true → ∀ v, hxv d[k] = v → PuAt d (k + 1) (a * 16 + v)) := fun k a h hk hx v hv => h.step hk hx v hv
  have HBD : Hid (∀ k a, PuAt d k a → k < d.length → 0 ≤ a ∧ a < 1048576) := fun k a h hk => h.bd (by omega) hk
  have HNO : Hid (∀ k, (hk : k < d.length) → isHx d[k] = false → puV d = puNo) := fun k hk hx => puV_no hk hx
  have HOK : Hid (∀ k a, PuAt d k a → d.length ≤ k → puV d = .tuple #[.int .u64 a, .nilIface]) := fun k a h hk => puV_ok h hk
  have H0 : Hid (PuAt d 0 0) := ⟨rfl, fun b hb => by simp at hb⟩
  generalize puV d = R at *
  clear hLn
  go_enter Tryz.func127, Tryz.ntmps127
  go_wp2
  go_loop [12, 13, 101] (fun vu vn vi => ∃ (k : Nat) (a : Int), vu = .bool false ∧ vn = .int .u64 a ∧ vi = .int .i64 k ∧ k ≤ t.size ∧ Hid (PuAt d k a)) (fun _ _ vi => t.size - (intOf vi).toNat)
  case atStart => exact ⟨0, 0, rfl, rfl, rfl, by omega, H0⟩
  case round =>
    obtain ⟨k, a, rfl, rfl, rfl, hk, hh⟩ := hrel
    by_cases hkn : k < t.size
    · have hkd : k < d.length := by have := HLn.out; omega
      obtain ⟨a0, a1⟩ := HBD.out k a hh.out hkd
      have hc := HB.out k hkn
      have hget : d.getD k 0 = d[k] := by simp [List.getD, List.getElem?_eq_getElem hkd]
      rw [hget] at hc
      have HSTk := Lib.hid (HST.out k a hh.out hkd)
      have HNOk := Lib.hid (HNO.out k hkd)
      generalize d[k] = c at hc HSTk HNOk
      obtain ⟨x, hx, hx2⟩ : ∃ x : Nat, c = UInt8.ofNat x ∧ x < 256 := ⟨c.toNat, by simp, c.toNat_lt⟩
      have hcx : c.toNat = x := by rw [hx]; exact ofNat_toNat hx2
      rw [hcx] at hc
      rw [hx] at HSTk HNOk
      clear hcx hx hget
      have HLW := Lib.hid (fun w => lower_any x hx2 w)
      by_cases hd : 48 ≤ x ∧ x ≤ 57
      · obtain ⟨f1, f2⟩ := dig_hx x hx2 hd
        have HN := Lib.hid (HSTk.out f1 _ f2)
        clear HSTk HNOk f1 f2
        obtain ⟨d0, d1⟩ := hd
        go_wp2
        go_round
        case rel => exact ⟨k + 1, _, rfl, rfl, by go_num, by omega, HN⟩
        case measure => simp [intOf]; omega
      · have hv := lwr_lt x hx2
        by_cases hl : 97 ≤ lwr x ∧ lwr x ≤ 102
        · obtain ⟨f1, f2, f3⟩ := lwr_hx x hx2 hd hl
          have HN := Lib.hid (HSTk.out f1 ((lwr x : Int) - 97 + 10) (by omega))
          clear HSTk HNOk f1 f2
          have g95 : ((x : Int) == 95) = false := by simp; omega
          obtain ⟨l0, l1⟩ := hl
          generalize lwr x = v at *
          by_cases h48 : 48 ≤ x
          · have h57 : 57 < x := by omega
            go_wp2_with (go_at_call 139; refine (HLW.out _).mono ?_; rintro e w' ⟨rfl, rfl⟩)
            go_round
            case rel => exact ⟨k + 1, _, rfl, rfl, by go_num, by omega, HN⟩
            case measure => simp [intOf]; omega
          · have h57 : x < 48 := by omega
            go_wp2_with (go_at_call 139; refine (HLW.out _).mono ?_; rintro e w' ⟨rfl, rfl⟩)
            go_round
            case rel => exact ⟨k + 1, _, rfl, rfl, by go_num, by omega, HN⟩
            case measure => simp [intOf]; omega
        · have hR := HNOk.out (lwr_no x hx2 hd hl)
          have HR := Lib.hid hR
          clear HSTk HNOk hR
          have HPN : Hid (∀ v w', v = puNo → w' = W1 → (Ending.returned v = Ending.returned R ∧ w' = W1)) := fun v w' h1 h2 => ⟨by rw [HR.out, h1], h2⟩
          clear HR
          by_cases h95 : x = 95
          · subst h95
            have e1 : lwr 95 = 127 := by decide
            rw [e1] at HLW
            clear hv hl hd
            rw [show ((95 : Nat) : Int) = 95 from rfl] at hc
            have HLW2 : Hid (∀ w, Calls Tryz.prog 139 #[.int .u8 95] w fun e w' => e = .returned (.int .u8 127) ∧ w = w') := HLW.out
            clear HLW
            go_wp2_with (go_at_call 139; refine (HLW2.out _).mono ?_; rintro e w' ⟨rfl, rfl⟩)
            go_ret2
            exact HPN.out _ _ rfl rfl
          · have g95 : ((x : Int) == 95) = false := by simp; omega
            clear h95
            have hx48 : x < 48 ∨ 57 < x := by omega
            have hv3 : lwr x < 97 ∨ (102 < lwr x ∧ lwr x ≤ 122) ∨ 122 < lwr x := by omega
            clear hl hd
            generalize lwr x = v at *
            rcases hx48 with hx48 | hx48
            all_goals
              rcases hv3 with hv3 | ⟨hv3, hv4⟩ | hv3
              all_goals
                go_wp2_with (go_at_call 139; refine (HLW.out _).mono ?_; rintro e w' ⟨rfl, rfl⟩)
                go_ret2
                exact HPN.out _ _ rfl rfl
    · have hkk : k = t.size := by omega
      have hR := HOK.out k a hh.out (by have := HLn.out; omega)
      have HPK : Hid (∀ v w', v = .tuple #[.int .u64 a, .nilIface] → w' = W1 → (Ending.returned v = Ending.returned R ∧ w' = W1)) := fun v w' h1 h2 => ⟨by rw [hR, h1], h2⟩
      clear hR
      subst hkk
      go_wp2
      go_ret2
      exact HPK.out _ _ rfl rfl

/-- The variable of the error of syntax holds something. -/
def ErrAt (w : World) : Prop := ∃ ev, w.cell? ⟨2, 0, none⟩ = some ev ∧ (ev = .nilIface ∨ ∃ te pe, ev = .iface te pe)
theorem ErrAt.later {w w' : World} (h : ErrAt w) (hb : Below w.heap.size w w') : ErrAt w' := by
  obtain ⟨ev, h1, h2⟩ := h
  exact ⟨ev, (hb.cell (p := ⟨2, 0, none⟩) (Lib.lt_of_cell h1)).trans h1, h2⟩
theorem ErrAt.ev {w : World} (h : ErrAt w) : ∃ ev, w.cell? ⟨2, 0, none⟩ = some ev ∧ (ev = .nilIface ∨ ∃ te pe, ev = .iface te pe) := h
def PuP (u : Nat) (w : World) (e : Ending) (w' : World) : Prop := e = .returned (.tuple #[.int .u64 u, .nilIface]) ∧ Below w.heap.size w w'
def PuE (w : World) (e : Ending) (w' : World) : Prop := ∃ N, e = .returned (.tuple #[.int .u64 0, .iface 137 (.pointer (some ⟨N, 0, none⟩))]) ∧ Below w.heap.size w w'
set_option maxRecDepth 100000 in
theorem iParseUint_nil (w : World) : Calls Tryz.prog 127 #[.string ⟨#[]⟩, .int .i64 16, .int .i64 32] w fun e w' => e = .returned puNo ∧ Below w.heap.size w w' := by
  have HB := Lib.hid (Below.refl w.heap.size w)
  go_enter Tryz.func127, Tryz.ntmps127
  go_wp2
  go_ret2
  exact ⟨rfl, HB.out⟩
theorem iParseUint_any (t : ByteArray) (h6 : t.size ≤ 6) (w : World) :
    Calls Tryz.prog 127 #[.string t, .int .i64 16, .int .i64 32] w fun e w' => e = .returned (if t.data.toList = [] then puNo else puV t.data.toList) ∧ Below w.heap.size w w' := by
  by_cases h0 : t.size = 0
  · have h1 : t.data.toList = [] := List.eq_nil_of_length_eq_zero (by rw [← Lib.size_eq]; exact h0)
    have h2 : t = ⟨#[]⟩ := by
      rw [← bs_of t, h1]
      rfl
    rw [if_pos h1, h2]
    exact iParseUint_nil w
  · have h1 : t.data.toList ≠ [] := fun h => h0 (by rw [Lib.size_eq, h]; rfl)
    rw [if_neg h1]
    refine (iParseUint_16 t h0 h6 w).mono ?_
    rintro e w' ⟨rfl, rfl⟩
    exact ⟨rfl, Lib.bytesWorld_below _ _ _⟩
set_option maxRecDepth 100000 in
theorem sParseUint_ok (d : List UInt8) (hne : d ≠ []) (h6 : d.length ≤ 6) (hx : ∀ b ∈ d, isHx b = true) (w : World) :
    Calls Tryz.prog 98 #[.string (bs d), .int .i64 16, .int .i64 32] w (PuP (hvl 0 d) w) := by
  have HI : Hid (∀ w, Calls Tryz.prog 127 #[.string (bs d), .int .i64 16, .int .i64 32] w fun e w' => e = .returned (.tuple #[.int .u64 (hvl 0 d : Nat), .nilIface]) ∧ Below w.heap.size w w') := fun w => by
    have := iParseUint_any (bs d) (by rw [bs_size]; exact h6) w
    rw [bs_list, if_neg hne] at this
    unfold puV at this
    rwa [if_pos hx] at this
  have HP : Hid (∀ w', Below w.heap.size w w' → PuP (hvl 0 d) w (.returned (.tuple #[.int .u64 (hvl 0 d : Nat), .nilIface])) w') := fun w' h => ⟨rfl, h⟩
  clear hne h6 hx
  generalize ((hvl 0 d : Nat) : Int) = u at *
  generalize bs d = s at *
  go_enter Tryz.func98, Tryz.ntmps98
  go_wp2_with fail
  refine (HI.out _).mono ?_
  rintro e w' ⟨rfl, hb⟩
  have HB := Lib.hid hb
  clear hb
  go_wp2
  go_ret2
  exact HP.out _ HB.out
set_option maxRecDepth 100000 in
theorem sParseUint_no (d : List UInt8) (h6 : d.length ≤ 6) (hx : ¬ (d ≠ [] ∧ ∀ b ∈ d, isHx b = true)) (w : World) (hE : ErrAt w) :
    Calls Tryz.prog 98 #[.string (bs d), .int .i64 16, .int .i64 32] w (PuE w) := by
  have HI : Hid (∀ w, Calls Tryz.prog 127 #[.string (bs d), .int .i64 16, .int .i64 32] w fun e w' => e = .returned (.tuple #[.int .u64 0, .iface 134 (.int .i64 2)]) ∧ Below w.heap.size w w') := fun w => by
    have := iParseUint_any (bs d) (by rw [bs_size]; exact h6) w
    rw [bs_list] at this
    by_cases hd : d = []
    · rwa [if_pos hd] at this
    · rw [if_neg hd] at this
      unfold puV at this
      rwa [if_neg (fun h => hx ⟨hd, h⟩)] at this
  have HT : Hid (∀ w', Below w.heap.size w w' → Calls Tryz.prog 128 #[.string ⟨#[80, 97, 114, 115, 101, 85, 105, 110, 116]⟩, .string (bs d), .int .i64 16, .int .i64 32, .iface 134 (.int .i64 2)] w' fun e w2 => ∃ N, e = .returned (.iface 137 (.pointer (some ⟨N, 0, none⟩))) ∧ Below w'.heap.size w' w2) := fun w' hb => by
    obtain ⟨ev, h1, h2⟩ := (hE.later hb).ev
    refine (Tryz.strconv_toError_syntax ⟨#[80, 97, 114, 115, 101, 85, 105, 110, 116]⟩ (bs d) 16 32 ev w' (by rw [bs_size]; omega) h1 h2).mono ?_
    rintro e w2 ⟨N, rfl, _, _, h⟩
    exact ⟨N, rfl, h⟩
  have HP : Hid (∀ N w', Below w.heap.size w w' → PuE w (.returned (.tuple #[.int .u64 0, .iface 137 (.pointer (some ⟨N, 0, none⟩))])) w') := fun N w' h => ⟨N, rfl, h⟩
  clear h6 hx hE
  generalize bs d = s at *
  go_enter Tryz.func98, Tryz.ntmps98
  go_wp2_with fail
  refine (HI.out _).mono ?_
  rintro e w' ⟨rfl, hb⟩
  have HB := Lib.hid hb
  clear hb
  go_wp2_with fail
  refine (HT.out _ HB.out).mono ?_
  rintro e w2 ⟨N, rfl, hb2⟩
  have HB2 : Hid (Below w.heap.size w w2) := HB.out.trans (hb2.mono HB.out.size)
  clear hb2
  go_wp2
  go_ret2
  exact HP.out _ _ HB2.out

end Go.Proofs.YtaocbhfehncdcaaGreatDoor

namespace Go.Proofs.YtaocbhfehncdcaaGreatDoor
open Go.RowKit

theorem first_at {c : UInt8} : ∀ {u : List UInt8}, c ∈ u → ∃ d r, u = d ++ c :: r ∧ c ∉ d
  | b :: u, h => by
    by_cases hb : b = c
    · subst hb
      exact ⟨[], u, rfl, by simp⟩
    · have hu : c ∈ u := by
        rcases List.mem_cons.1 h with h | h
        · exact absurd h.symm hb
        · exact h
      obtain ⟨d, r, rfl, hd⟩ := first_at hu
      refine ⟨b :: d, r, rfl, ?_⟩
      intro h2
      rcases List.mem_cons.1 h2 with h2 | h2
      · exact hb h2.symm
      · exact hd h2
theorem scut_any (c : UInt8) (l : List UInt8) (hz : l.length ≤ 100000) :
    (c ∉ l ∧ ∀ w, Calls Tryz.prog 97 #[.string (bs l), .string ⟨#[c]⟩] w (CutP (bs l) ⟨#[]⟩ false w)) ∨
    ∃ d t, l = d ++ c :: t ∧ c ∉ d ∧ ∀ w, Calls Tryz.prog 97 #[.string (bs l), .string ⟨#[c]⟩] w (CutP (bs d) (bs t) true w) := by
  by_cases h : c ∈ l
  · obtain ⟨d, t, rfl, hd⟩ := first_at h
    exact .inr ⟨d, t, rfl, hd, fun w => sCut_hit c d t hd (by simp at hz; omega) w⟩
  · exact .inl ⟨h, fun w => sCut_miss c l h w⟩
theorem isWord_bs (l : List UInt8) (hz : l.length ≤ 100000) (w : World) : Calls Tryz.prog 21 #[.string (bs l)] w (BoS (isW l) w) := by
  have := IsWord_any (bs l) w (by rw [bs_size]; omega)
  rwa [show (bs l).data.toList = l from by simp [bs]] at this
/-- A name, and how many bytes it takes; 0 for none. -/
def brV : Option (List UInt8 × Nat) → Value
  | some x => .tuple #[.string (bs x.1), .int .i64 x.2]
  | none => .tuple #[.string ⟨#[]⟩, .int .i64 0]
def BrP (o : Option (List UInt8 × Nat)) (w : World) (e : Ending) (w' : World) : Prop := e = .returned (brV o) ∧ Below w.heap.size w w'
set_option maxRecDepth 100000 in
set_option maxHeartbeats 2000000 in
theorem tbr_any (l : List UInt8) (hz : l.length ≤ 100000) (w : World) : Calls Tryz.prog 91 #[.string (bs l)] w (BrP (brN l) w) := by
  have HPN : Hid (brN l = none → ∀ w', Below w.heap.size w w' → BrP (brN l) w (.returned (.tuple #[.string ⟨#[]⟩, .int .i64 0])) w') := fun h w' hb => by
    rw [h]
    exact ⟨rfl, hb⟩
  have HPY : Hid (∀ d : List UInt8, brN l = some (d, d.length + 2) → ∀ w', Below w.heap.size w w' → BrP (brN l) w (.returned (.tuple #[.string (bs d), .int .i64 ((d.length : Int) + 2)])) w') := fun d h w' hb => by
    rw [h]
    exact ⟨by simp [brV], hb⟩
  by_cases hp : ([123] : List UInt8).isPrefixOf l = true
  · obtain ⟨r, rfl⟩ : ∃ r, l = 123 :: r := by
      obtain ⟨r, hr⟩ := List.isPrefixOf_iff_prefix.1 hp
      exact ⟨r, hr.symm⟩
    have H1 : Hid (∀ w, Calls Tryz.prog 96 #[.string (bs (123 :: r)), .string ⟨#[123]⟩] w fun e w' => e = .returned (.tuple #[.string (bs r), .bool true]) ∧ w = w') := fun w => cpre_hit [123] r w
    have hzr : r.length ≤ 100000 := by simp at hz; omega
    rcases scut_any 125 r hzr with ⟨hd, hcut⟩ | ⟨d, t, hr, hd, hcut⟩
    · have HN := Lib.hid (HPN.out (brN_miss r hd))
      have HC := Lib.hid hcut
      clear HPN HPY hd hcut hz hzr hp
      generalize brN (123 :: r) = o at *
      generalize bs (123 :: r) = s at *
      generalize bs r = t at *
      go_enter Tryz.func91, Tryz.ntmps91
      go_wp2_with fail
      refine (H1.out _).mono ?_
      rintro e w' ⟨rfl, rfl⟩
      go_wp2_with fail
      refine (HC.out _).mono ?_
      rintro e w2 ⟨rfl, hb⟩
      have HB := Lib.hid hb
      clear hb
      go_wp2
      go_ret2
      exact HN.out _ HB.out
    · have hb0 := brN_hit d t hd
      rw [← hr] at hb0
      have hdz : d.length ≤ 100000 := by rw [hr] at hzr; simp at hzr; omega
      have HI := Lib.hid (fun w => isWord_bs d hdz w)
      have HC := Lib.hid hcut
      have hsz : (bs d).size = d.length := bs_size d
      cases hw : isW d
      · rw [hw] at hb0 HI
        have HN := Lib.hid (HPN.out hb0)
        clear HPN HPY hd hcut hz hzr hp hb0 hr hw hsz
        generalize brN (123 :: r) = o at *
        generalize bs (123 :: r) = s at *
        generalize bs r = t1 at *
        generalize bs d = t2 at *
        generalize bs t = t3 at *
        go_enter Tryz.func91, Tryz.ntmps91
        go_wp2_with fail
        refine (H1.out _).mono ?_
        rintro e w' ⟨rfl, rfl⟩
        go_wp2_with fail
        refine (HC.out _).mono ?_
        rintro e w2 ⟨rfl, hb⟩
        have HB := Lib.hid hb
        clear hb
        go_wp2_with fail
        refine (HI.out _).mono ?_
        rintro e w' ⟨rfl, rfl⟩
        go_wp2
        go_ret2
        exact HN.out _ HB.out
      · rw [hw] at hb0 HI
        have HY := Lib.hid (HPY.out d hb0)
        have x1 : IntKind.i64.wrap ((d.length : Int) + 2) = (d.length : Int) + 2 := IntWalk.i64_in _ (by omega)
        clear HPN HPY hd hcut hz hzr hp hb0 hr hw
        generalize brN (123 :: r) = o at *
        generalize bs (123 :: r) = s at *
        generalize bs r = t1 at *
        generalize bs d = t2 at *
        generalize bs t = t3 at *
        go_enter Tryz.func91, Tryz.ntmps91
        go_wp2_with fail
        refine (H1.out _).mono ?_
        rintro e w' ⟨rfl, rfl⟩
        go_wp2_with fail
        refine (HC.out _).mono ?_
        rintro e w2 ⟨rfl, hb⟩
        have HB := Lib.hid hb
        clear hb
        go_wp2_with fail
        refine (HI.out _).mono ?_
        rintro e w' ⟨rfl, rfl⟩
        go_wp2
        go_ret2
        exact HY.out _ HB.out
  · have hp' : ([123] : List UInt8).isPrefixOf l = false := by rw [Bool.eq_false_iff]; exact hp
    have HN := Lib.hid (HPN.out (brN_other hp'))
    have H1 := Lib.hid (fun w => cpre_miss l [123] hp' w)
    rcases scut_any 125 l hz with ⟨_, hcut⟩ | ⟨d, t, _, _, hcut⟩
    all_goals (
      have HC := Lib.hid hcut
      clear HPN HPY hcut hz hp hp'
      generalize brN l = o at *
      generalize bs l = s at *
      try generalize bs d = t1 at *
      try generalize bs t = t2 at *
      go_enter Tryz.func91, Tryz.ntmps91
      go_wp2_with fail
      refine (H1.out _).mono ?_
      rintro e w' ⟨rfl, rfl⟩
      go_wp2_with fail
      refine (HC.out _).mono ?_
      rintro e w2 ⟨rfl, hb⟩
      have HB := Lib.hid hb
      clear hb
      go_wp2
      go_ret2
      exact HN.out _ HB.out)
theorem bs_pre (l : List UInt8) (n : Nat) (h : n ≤ l.length) : (bs l).extract 0 n = bs (l.take n) := by
  have := bs_take (l.take n) (l.drop n) n (by rw [List.length_take]; omega)
  rwa [List.take_append_drop] at this
theorem bs_suf (l : List UInt8) (n : Nat) (h : n ≤ l.length) : (bs l).extract n (bs l).size = bs (l.drop n) := by
  have := bs_drop (l.take n) (l.drop n) n (by rw [List.length_take]; omega)
  rwa [List.take_append_drop] at this
set_option maxRecDepth 100000 in
set_option maxHeartbeats 2000000 in
theorem nameAt_any (l : List UInt8) (hz : l.length ≤ 100000) (w : World) : Calls Tryz.prog 61 #[.string (bs l)] w (BrP (nmN l) w) := by
  have H1 := Lib.hid (tbr_any l hz w)
  cases hb0 : brN l with
  | some x =>
    obtain ⟨d, n⟩ := x
    have hpos : 0 < n := brN_pos hb0
    have x0 : (0 : Int) < (n : Int) := by omega
    rw [hb0] at H1
    rw [nmN_br hb0]
    have HP : Hid (∀ w', Below w.heap.size w w' → BrP (some (d, n)) w (.returned (.tuple #[.string (bs d), .int .i64 n])) w') := fun w' h => ⟨rfl, h⟩
    clear hb0 hz hpos
    have HP' : Hid (∀ w' t, t = bs d → Below w.heap.size w w' → BrP (some (d, n)) w (.returned (.tuple #[.string t, .int .i64 n])) w') := fun w' t ht h => by
      rw [ht]
      exact HP.out w' h
    clear HP
    unfold BrP brV at H1
    generalize bs l = s at *
    dsimp only at H1
    go_enter Tryz.func61, Tryz.ntmps61
    go_wp2_with fail
    refine H1.out.mono ?_
    rintro e w1 ⟨rfl, hb⟩
    have HB := Lib.hid hb
    clear hb
    go_wp2
    go_ret2
    exact HP'.out _ _ rfl HB.out
  | none =>
    rw [hb0] at H1
    have H2 : Hid (∀ w, Calls Tryz.prog 92 #[.string (bs l)] w (InS (wsz l) w)) := fun w => by
      have := twsz_any (bs l) w (by rw [bs_size]; exact hz)
      rwa [show (bs l).data.toList = l from by simp [bs]] at this
    have hle := wsz_le l
    have H3 : Hid (∀ w, Calls Tryz.prog 21 #[.string ((bs l).extract 0 (wsz l))] w (BoS (decide (wd l ≠ 0)) w)) := fun w => by
      have := isWord_bs (l.take (wsz l)) (by rw [List.length_take]; omega) w
      rwa [isW_take, ← bs_pre l _ hle] at this
    have hsz : (bs l).size = l.length := bs_size l
    have x1 : (wsz l : Int) ≤ ((bs l).size : Int) := by omega
    have x2 : wsz l ≤ (bs l).size := by omega
    by_cases hw : wd l = 0
    · rw [nmN_no hb0 hw]
      have HP : Hid (∀ w', Below w.heap.size w w' → BrP none w (.returned (.tuple #[.string ⟨#[]⟩, .int .i64 0])) w') := fun w' h => ⟨rfl, h⟩
      rw [show decide (wd l ≠ 0) = false from by simp [hw]] at H3
      clear hw hz hb0 hle hsz
      unfold BrP brV at H1
      generalize bs l = s at *
      generalize wsz l = n at *
      go_enter Tryz.func61, Tryz.ntmps61
      go_wp2_with fail
      refine H1.out.mono ?_
      rintro e w1 ⟨rfl, hb⟩
      have HB := Lib.hid hb
      clear hb
      go_wp2_with fail
      refine (H2.out _).mono ?_
      rintro e w' ⟨rfl, rfl⟩
      go_wp2_with fail
      refine (H3.out _).mono ?_
      rintro e w' ⟨rfl, rfl⟩
      go_wp2
      go_ret2
      exact HP.out _ HB.out
    · rw [nmN_wd hb0 hw]
      have hww := (wd_pos hw).1
      have HP : Hid (∀ w', Below w.heap.size w w' → BrP (some (l.take (wd l), wd l)) w (.returned (.tuple #[.string ((bs l).extract 0 (wsz l)), .int .i64 (wsz l)])) w') := fun w' h => ⟨by
        rw [hww, bs_pre l _ hle]
        rfl, h⟩
      rw [show decide (wd l ≠ 0) = true from by simp [hw]] at H3
      clear hw hz hb0 hle hsz hww
      unfold BrP brV at H1
      generalize (l.take (wd l), wd l) = o at *
      generalize bs l = s at *
      generalize wsz l = n at *
      go_enter Tryz.func61, Tryz.ntmps61
      go_wp2_with fail
      refine H1.out.mono ?_
      rintro e w1 ⟨rfl, hb⟩
      have HB := Lib.hid hb
      clear hb
      go_wp2_with fail
      refine (H2.out _).mono ?_
      rintro e w' ⟨rfl, rfl⟩
      go_wp2_with fail
      refine (H3.out _).mono ?_
      rintro e w' ⟨rfl, rfl⟩
      go_wp2
      go_ret2
      exact HP.out _ HB.out

end Go.Proofs.YtaocbhfehncdcaaGreatDoor
