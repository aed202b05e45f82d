/-
  strconv.ParseUint in base 16 at 32 bits, for at most 6 bytes. No condition on the bytes.
-/
import Derived.Test.YtegckpkancbnmaaDoorEh
import Derived.Lib.ConvBytes
import Derived.Laws.Closers25
import Derived.Laws.Closers25b
namespace Go.Proofs.YtegckpkancbnmaaDoor
open Go.RowKit

theorem or32 : ∀ c : Nat, c < 256 → bits BinOp.or IntKind.u8 (c : Int) 32 = ((c ||| 32 : Nat) : Int) := by decide +kernel
/-- The small form of a byte that is a letter. -/
def lwr (c : Nat) : Nat := c ||| 32
theorem lwr_lt : ∀ c : Nat, c < 256 → lwr c < 256 := by decide +kernel
theorem lwr_hx : ∀ c : Nat, c < 256 → ¬ (48 ≤ c ∧ c ≤ 57) → (97 ≤ lwr c ∧ lwr c ≤ 102) → isHx (UInt8.ofNat c) = true ∧ hxv (UInt8.ofNat c) = (lwr c : Int) - 87 ∧ c ≠ 95 := by decide +kernel
theorem lwr_no : ∀ c : Nat, c < 256 → ¬ (48 ≤ c ∧ c ≤ 57) → ¬ (97 ≤ lwr c ∧ lwr c ≤ 102) → isHx (UInt8.ofNat c) = false := by decide +kernel
theorem dig_hx : ∀ c : Nat, c < 256 → (48 ≤ c ∧ c ≤ 57) → isHx (UInt8.ofNat c) = true ∧ hxv (UInt8.ofNat c) = (c : Int) - 48 := by decide +kernel

theorem lower_any (c : Nat) (h : c < 256) (w : World) : Calls Tryd.prog 105 #[.int .u8 c] w fun e w' => e = .returned (.int .u8 (lwr c : Nat)) ∧ w = w' := by
  have h1 : bits BinOp.or IntKind.u8 (c : Int) 32 = ((lwr c : Nat) : Int) := or32 c h
  have h2 := lwr_lt c h
  generalize lwr c = v at *
  go_enter Tryd.func105, Tryd.ntmps105
  go_wp2
  go_ret
  exact ⟨rfl, rfl⟩

def puOk (d : List UInt8) : Value := .tuple #[.int .u64 (hvl 0 d : Nat), .nilIface]
def puNo : Value := .tuple #[.int .u64 0, .iface 113 (.int .i64 2)]
def puV (d : List UInt8) : Value := if ∀ b ∈ d, isHx b = true then puOk d else puNo
/-- Where the loop stands. -/
def PuAt (d : List UInt8) (k : Nat) (a : Int) : Prop := a = (hvl 0 (d.take k) : Nat) ∧ ∀ b ∈ d.take k, isHx b = true
theorem PuAt.step {d : List UInt8} {k : Nat} {a : Int} (h : PuAt d k a) (hk : k < d.length) (hx : isHx d[k] = true) (v : Int) (hv : hxv d[k] = v) : PuAt d (k + 1) (a * 16 + v) := by
  obtain ⟨h1, h2⟩ := h
  have ht : d.take (k + 1) = d.take k ++ [d[k]] := List.take_succ_eq_append_getElem hk
  refine ⟨?_, fun b hb => ?_⟩
  · rw [ht, hvl_snoc, hv, h1]
    have h0 : 0 ≤ v := by
      unfold isHx at hx
      rw [hv] at hx
      exact of_decide_eq_true hx
    omega
  · rw [ht] at hb
    rcases List.mem_append.1 hb with hb | hb
    · exact h2 b hb
    · rw [List.mem_singleton.1 hb]
      exact hx
theorem PuAt.bd {d : List UInt8} {k : Nat} {a : Int} (h : PuAt d k a) (h6 : d.length ≤ 6) (hk : k < d.length) : 0 ≤ a ∧ a < 1048576 := by
  have h1 := hvl_bd (d.take k) 0
  have h2 : (d.take k).length ≤ 5 := by rw [List.length_take]; omega
  have h3 : 16 ^ (d.take k).length ≤ 16 ^ 5 := Nat.pow_le_pow_right (by omega) h2
  have h4 := h.1
  simp at h1 h3
  omega
theorem puV_no {d : List UInt8} {k : Nat} (hk : k < d.length) (hx : isHx d[k] = false) : puV d = puNo := by
  unfold puV
  rw [if_neg]
  intro h
  have := h d[k] (List.getElem_mem hk)
  rw [hx] at this
  cases this
theorem puV_ok {d : List UInt8} {k : Nat} {a : Int} (h : PuAt d k a) (hk : d.length ≤ k) : puV d = .tuple #[.int .u64 a, .nilIface] := by
  obtain ⟨h1, h2⟩ := h
  rw [List.take_of_length_le hk] at h1 h2
  unfold puV puOk
  rw [if_pos h2, h1]

set_option maxHeartbeats 8000000 in
set_option maxRecDepth 100000 in
theorem iParseUint_16 (t : ByteArray) (hne : t.size ≠ 0) (h6 : t.size ≤ 6) (w : World) :
    Calls Tryd.prog 87 #[.string t, .int .i64 16, .int .i64 32] w fun e w' => e = .returned (puV t.data.toList) ∧ w' = Lib.bytesWorld w 5 t := by
  have hemp : t.toList.isEmpty = false := by
    rw [Lib.toList_data, List.isEmpty_eq_false_iff]
    intro h
    exact hne (by rw [Lib.size_eq, h]; rfl)
  have hcv := Lib.run_convert_string_bytes (P := Tryd.prog) w 9 43 5 t (u := .string) Tryd.underlying9 Tryd.underlying43 Tryd.underlying5
  have HB : Hid (∀ j, j < t.size → (Lib.bytesWorld w 5 t).cell? ⟨w.heap.size, j, none⟩ = some (.int .u8 (t.data.toList.getD j 0).toNat)) := fun j hj => Lib.bytesWorld_cell w 5 t j hj
  obtain ⟨W1, hW1⟩ : ∃ W1, W1 = Lib.bytesWorld w 5 t := ⟨_, rfl⟩
  rw [← hW1] at hcv HB ⊢
  clear hW1
  obtain ⟨d, hL⟩ : ∃ d, d = t.data.toList := ⟨_, rfl⟩
  have hLn : d.length = t.size := by rw [hL, Lib.size_eq]
  rw [← hL] at HB ⊢
  clear hL
  have HLn := Lib.hid hLn
  have HST : Hid (∀ k a, PuAt d k a → (hk : k < d.length) → isHx d[k] = true → ∀ v, hxv d[k] = v → PuAt d (k + 1) (a * 16 + v)) := fun k a h hk hx v hv => h.step hk hx v hv
  have HBD : Hid (∀ k a, PuAt d k a → k < d.length → 0 ≤ a ∧ a < 1048576) := fun k a h hk => h.bd (by omega) hk
  have HNO : Hid (∀ k, (hk : k < d.length) → isHx d[k] = false → puV d = puNo) := fun k hk hx => puV_no hk hx
  have HOK : Hid (∀ k a, PuAt d k a → d.length ≤ k → puV d = .tuple #[.int .u64 a, .nilIface]) := fun k a h hk => puV_ok h hk
  have H0 : Hid (PuAt d 0 0) := ⟨rfl, fun b hb => by simp at hb⟩
  generalize puV d = R at *
  clear hLn
  go_enter Tryd.func87, Tryd.ntmps87
  go_wp2
  go_loop [12, 13, 101] (fun vu vn vi => ∃ (k : Nat) (a : Int), vu = .bool false ∧ vn = .int .u64 a ∧ vi = .int .i64 k ∧ k ≤ t.size ∧ Hid (PuAt d k a)) (fun _ _ vi => t.size - (intOf vi).toNat)
  case atStart => exact ⟨0, 0, rfl, rfl, rfl, by omega, H0⟩
  case round =>
    obtain ⟨k, a, rfl, rfl, rfl, hk, hh⟩ := hrel
    by_cases hkn : k < t.size
    · have hkd : k < d.length := by have := HLn.out; omega
      obtain ⟨a0, a1⟩ := HBD.out k a hh.out hkd
      have hc := HB.out k hkn
      have hget : d.getD k 0 = d[k] := by simp [List.getD, List.getElem?_eq_getElem hkd]
      rw [hget] at hc
      have HSTk := Lib.hid (HST.out k a hh.out hkd)
      have HNOk := Lib.hid (HNO.out k hkd)
      generalize d[k] = c at hc HSTk HNOk
      obtain ⟨x, hx, hx2⟩ : ∃ x : Nat, c = UInt8.ofNat x ∧ x < 256 := ⟨c.toNat, by simp, c.toNat_lt⟩
      have hcx : c.toNat = x := by rw [hx]; exact ofNat_toNat hx2
      rw [hcx] at hc
      rw [hx] at HSTk HNOk
      clear hcx hx hget
      have HLW := Lib.hid (fun w => lower_any x hx2 w)
      by_cases hd : 48 ≤ x ∧ x ≤ 57
      · obtain ⟨f1, f2⟩ := dig_hx x hx2 hd
        have HN := Lib.hid (HSTk.out f1 _ f2)
        clear HSTk HNOk f1 f2
        obtain ⟨d0, d1⟩ := hd
        go_wp2
        go_round
        case rel => exact ⟨k + 1, _, rfl, rfl, by go_num, by omega, HN⟩
        case measure => simp [intOf]; omega
      · have hv := lwr_lt x hx2
        by_cases hl : 97 ≤ lwr x ∧ lwr x ≤ 102
        · obtain ⟨f1, f2, f3⟩ := lwr_hx x hx2 hd hl
          have HN := Lib.hid (HSTk.out f1 ((lwr x : Int) - 97 + 10) (by omega))
          clear HSTk HNOk f1 f2
          have g95 : ((x : Int) == 95) = false := by simp; omega
          obtain ⟨l0, l1⟩ := hl
          generalize lwr x = v at *
          by_cases h48 : 48 ≤ x
          · have h57 : 57 < x := by omega
            go_wp2_with (go_at_call 105; refine (HLW.out _).mono ?_; rintro e w' ⟨rfl, rfl⟩)
            go_round
            case rel => exact ⟨k + 1, _, rfl, rfl, by go_num, by omega, HN⟩
            case measure => simp [intOf]; omega
          · have h57 : x < 48 := by omega
            go_wp2_with (go_at_call 105; refine (HLW.out _).mono ?_; rintro e w' ⟨rfl, rfl⟩)
            go_round
            case rel => exact ⟨k + 1, _, rfl, rfl, by go_num, by omega, HN⟩
            case measure => simp [intOf]; omega
        · have hR := HNOk.out (lwr_no x hx2 hd hl)
          have HR := Lib.hid hR
          clear HSTk HNOk hR
          have HPN : Hid (∀ v w', v = puNo → w' = W1 → (Ending.returned v = Ending.returned R ∧ w' = W1)) := fun v w' h1 h2 => ⟨by rw [HR.out, h1], h2⟩
          clear HR
          by_cases h95 : x = 95
          · subst h95
            have e1 : lwr 95 = 127 := by decide
            rw [e1] at HLW
            clear hv hl hd
            rw [show ((95 : Nat) : Int) = 95 from rfl] at hc
            have HLW2 : Hid (∀ w, Calls Tryd.prog 105 #[.int .u8 95] w fun e w' => e = .returned (.int .u8 127) ∧ w = w') := HLW.out
            clear HLW
            go_wp2_with (go_at_call 105; refine (HLW2.out _).mono ?_; rintro e w' ⟨rfl, rfl⟩)
            go_ret2
            exact HPN.out _ _ rfl rfl
          · have g95 : ((x : Int) == 95) = false := by simp; omega
            clear h95
            have hx48 : x < 48 ∨ 57 < x := by omega
            have hv3 : lwr x < 97 ∨ (102 < lwr x ∧ lwr x ≤ 122) ∨ 122 < lwr x := by omega
            clear hl hd
            generalize lwr x = v at *
            rcases hx48 with hx48 | hx48
            all_goals
              rcases hv3 with hv3 | ⟨hv3, hv4⟩ | hv3
              all_goals
                go_wp2_with (go_at_call 105; refine (HLW.out _).mono ?_; rintro e w' ⟨rfl, rfl⟩)
                go_ret2
                exact HPN.out _ _ rfl rfl
    · have hkk : k = t.size := by omega
      have hR := HOK.out k a hh.out (by have := HLn.out; omega)
      have HPK : Hid (∀ v w', v = .tuple #[.int .u64 a, .nilIface] → w' = W1 → (Ending.returned v = Ending.returned R ∧ w' = W1)) := fun v w' h1 h2 => ⟨by rw [hR, h1], h2⟩
      clear hR
      subst hkk
      go_wp2
      go_ret2
      exact HPK.out _ _ rfl rfl

end Go.Proofs.YtegckpkancbnmaaDoor
