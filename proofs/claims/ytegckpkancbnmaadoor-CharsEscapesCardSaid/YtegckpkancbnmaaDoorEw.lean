/-
  The document's Digit and Braced. Conditions: texts of at most 100000 bytes.
-/
import Derived.Test.YtegckpkancbnmaaDoorEr
namespace Go.Proofs.YtegckpkancbnmaaDoor
open Go.RowKit

theorem rDigit_any (b : UInt8) (w : World) : Calls Tryd.prog 67 #[.int .u8 b.toNat] w fun e w' => e = .returned (.int .i64 (hxv b)) ∧ w = w' := by
  have h256 := b.toNat_lt
  by_cases h1 : 48 ≤ b.toNat ∧ b.toNat ≤ 57
  · have HV : Hid (∀ v, v = (b.toNat : Int) - 48 → Ending.returned (.int .i64 v) = .returned (.int .i64 (hxv b))) := fun v h => by
      unfold hxv
      rw [if_pos h1, h]
    obtain ⟨a1, a2⟩ := h1
    generalize b.toNat = x at *
    go_enter Tryd.func67, Tryd.ntmps67
    go_wp2
    go_ret
    exact ⟨HV.out _ rfl, rfl⟩
  by_cases h2 : 97 ≤ b.toNat ∧ b.toNat ≤ 102
  · have HV : Hid (∀ v, v = (b.toNat : Int) - 97 + 10 → Ending.returned (.int .i64 v) = .returned (.int .i64 (hxv b))) := fun v h => by
      unfold hxv
      rw [if_neg h1, if_pos h2, h]
      congr 2
      omega
    obtain ⟨a1, a2⟩ := h2
    have a3 : ¬ b.toNat ≤ 57 := by omega
    clear h1
    generalize b.toNat = x at *
    go_enter Tryd.func67, Tryd.ntmps67
    go_wp2
    go_ret
    exact ⟨HV.out _ rfl, rfl⟩
  by_cases h3 : 65 ≤ b.toNat ∧ b.toNat ≤ 70
  · have HV : Hid (∀ v, v = (b.toNat : Int) - 65 + 10 → Ending.returned (.int .i64 v) = .returned (.int .i64 (hxv b))) := fun v h => by
      unfold hxv
      rw [if_neg h1, if_neg h2, if_pos h3, h]
      congr 2
      omega
    obtain ⟨a1, a2⟩ := h3
    have a3 : ¬ b.toNat ≤ 57 := by omega
    have a4 : ¬ 97 ≤ b.toNat := by omega
    clear h1 h2
    generalize b.toNat = x at *
    go_enter Tryd.func67, Tryd.ntmps67
    go_wp2
    go_ret
    exact ⟨HV.out _ rfl, rfl⟩
  have HV : Hid (Ending.returned (.int .i64 (-1)) = .returned (.int .i64 (hxv b))) := by
    show _ = _
    unfold hxv
    rw [if_neg h1, if_neg h2, if_neg h3]
  have h1' : b.toNat < 48 ∨ 57 < b.toNat := by omega
  have h2' : b.toNat < 97 ∨ 102 < b.toNat := by omega
  have h3' : b.toNat < 65 ∨ 70 < b.toNat := by omega
  clear h1 h2 h3
  generalize b.toNat = x at *
  rcases h1' with h1 | h1 <;> rcases h2' with h2 | h2 <;> rcases h3' with h3 | h3
  all_goals first
    | (exfalso; omega)
    | (go_enter Tryd.func67, Tryd.ntmps67
       go_wp2
       go_ret
       exact ⟨HV.out, rfl⟩)

theorem rBraced_short (s : ByteArray) (h : s.size < 4) (w : World) : Calls Tryd.prog 41 #[.string s] w (TwoP 0 0 w) := by
  have HP : Hid (∀ w, TwoP 0 0 w (.returned (.tuple #[.int .i64 0, .int .i64 0])) w) := fun w => ⟨rfl, rfl⟩
  have h1 : (s.size : Int) < 4 := by omega
  go_enter Tryd.func41, Tryd.ntmps41
  go_wp2
  go_ret2
  exact HP.out _
theorem rBraced_other (s : ByteArray) (h : 4 ≤ s.size) (hz : s.size ≤ 100002) (hne : (s.extract 0 2).data.toList ≠ [120, 123]) (w : World) : Calls Tryd.prog 41 #[.string s] w (TwoP 0 0 w) := by
  have HP : Hid (∀ w, TwoP 0 0 w (.returned (.tuple #[.int .i64 0, .int .i64 0])) w) := fun w => ⟨rfl, rfl⟩
  have h1 : ¬ (s.size : Int) < 4 := by omega
  have n1 : ((s.extract 0 2).toList == [120, 123]) = false := by
    rw [Lib.toList_data, beq_eq_false_iff_ne]
    exact hne
  have h2 : 2 ≤ s.size := by omega
  clear hne
  go_enter Tryd.func41, Tryd.ntmps41
  go_wp2
  go_ret2
  exact HP.out _

/-- What Braced gives of what stands behind x and an opening brace. -/
def bcV (u : List UInt8) : Value := match brc u with
  | some (c, r) => .tuple #[.int .i64 c, .int .i64 (u.length + 2 - r.length : Nat)]
  | none => .tuple #[.int .i64 0, .int .i64 0]
theorem bcV_is (u : List UInt8) (k : Nat) (hk6 : k ≤ 6) (hku : k ≤ u.length) (hg : ∀ j (_ : j < k) (h2 : j < u.length), isHx u[j] = true) (he : k = 6 ∨ k = u.length ∨ ∃ h : k < u.length, isHx u[k] = false) :
    hxt 6 u = u.take k := hxt_is 6 k u hk6 hku hg he
theorem bcV_no (u : List UInt8) (k : Nat) (ht : hxt 6 u = u.take k) (hku : k ≤ u.length) (h : k = 0 ∨ k = u.length ∨ (∃ h : k < u.length, u[k] ≠ 125) ∨ isC (hvl 0 (u.take k)) = false) : bcV u = .tuple #[.int .i64 0, .int .i64 0] := by
  have hn : brc u = none := by
    unfold brc
    rw [ht]
    have hl : (u.take k).length = k := by rw [List.length_take]; omega
    rw [hl]
    split
    · rfl
    · rename_i hne
      split
      · rename_i b r hd
        rw [if_neg]
        rintro ⟨rfl, hc⟩
        have hlt : k < u.length := by
          have := congrArg List.length hd
          simp at this
          omega
        rw [List.drop_eq_getElem_cons hlt] at hd
        have hb := (List.cons.inj hd).1
        rcases h with h | h | ⟨_, h⟩ | h
        · subst h
          exact hne rfl
        · omega
        · exact h hb
        · rw [h] at hc
          cases hc
      · rfl
  unfold bcV
  rw [hn]
theorem bcV_yes (u : List UInt8) (k : Nat) (ht : hxt 6 u = u.take k) (h0 : 0 < k) (hlt : k < u.length) (hb : u[k] = 125) (hc : isC (hvl 0 (u.take k)) = true) : bcV u = .tuple #[.int .i64 (hvl 0 (u.take k) : Nat), .int .i64 ((k : Int) + 2 + 1)] := by
  have hn : brc u = some (hvl 0 (u.take k), u.drop (k + 1)) := by
    unfold brc
    rw [ht]
    have hl : (u.take k).length = k := by rw [List.length_take]; omega
    rw [hl, if_neg (by intro h; have := congrArg List.length h; rw [hl] at this; simp at this; omega)]
    rw [List.drop_eq_getElem_cons hlt, hb]
    show (if (125 : UInt8) = 125 ∧ isC (hvl 0 (u.take k)) = true then _ else _) = _
    rw [if_pos ⟨rfl, hc⟩]
  unfold bcV
  rw [hn]
  show Value.tuple #[_, .int .i64 ((u.length + 2 - (u.drop (k + 1)).length : Nat) : Int)] = _
  rw [List.length_drop, show ((u.length + 2 - (u.length - (k + 1)) : Nat) : Int) = (k : Int) + 2 + 1 by omega]

def BcP (u : List UInt8) (w : World) (e : Ending) (w' : World) : Prop := e = .returned (bcV u) ∧ w = w'
theorem all_snoc {u : List UInt8} {k : Nat} (hg : ∀ j (_ : j < k) (h2 : j < u.length), isHx u[j] = true) (hx : ∀ h : k < u.length, isHx u[k] = true) : ∀ j (_ : j < k + 1) (h2 : j < u.length), isHx u[j] = true := fun j h h2 => by
  rcases Nat.lt_or_ge j k with hj | hj
  · exact hg j hj h2
  · obtain rfl : j = k := by omega
    exact hx h2

set_option maxRecDepth 100000 in
set_option maxHeartbeats 4000000 in
theorem rBraced_x (u : List UInt8) (h2 : 2 ≤ u.length) (hz : u.length ≤ 100000) (w : World) : Calls Tryd.prog 41 #[.string (bs (120 :: 123 :: u))] w (BcP u w) := by
  have hsz : (bs (120 :: 123 :: u)).size = u.length + 2 := by rw [bs_size]; rfl
  have hcut : (bs (120 :: 123 :: u)).extract 0 2 = ⟨#[120, 123]⟩ := bs_take [120, 123] u 2 rfl
  have HAT : Hid (∀ k (h : k < u.length) (h3 : k + 2 < (bs (120 :: 123 :: u)).size), (bs (120 :: 123 :: u))[k + 2] = u[k]) := fun k h h3 => by
    have h4 := getElem_list (bs (120 :: 123 :: u)) (k + 2) h3
    rw [bs_list] at h4
    have h5 : (120 :: 123 :: u)[k + 2]? = some u[k] := by
      show u[k]? = _
      exact List.getElem?_eq_getElem h
    rw [h5] at h4
    exact (Option.some.inj h4).symm
  have HP : Hid (∀ v w, v = bcV u → BcP u w (.returned v) w) := fun v w h => by
    rw [h]
    exact ⟨rfl, rfl⟩
  generalize bs (120 :: 123 :: u) = s at *
  have HSZ := Lib.hid hsz
  have g4 : ¬ (s.size : Int) < 4 := by omega
  have g2 : 2 ≤ s.size := by omega
  have gz : s.size ≤ 100002 := by omega
  clear hsz
  go_enter Tryd.func41, Tryd.ntmps41
  go_wp2
  go_loop [4, 5] (fun cv iv => ∃ k : Nat, k ≤ 6 ∧ k ≤ u.length ∧ cv = .int .i64 (hvl 0 (u.take k) : Nat) ∧ iv = .int .i64 (k + 2 : Nat) ∧ Hid (∀ j (_ : j < k) (h2 : j < u.length), isHx u[j] = true)) (fun _ iv => 8 - (intOf iv).toNat)
  case atStart => exact ⟨0, by omega, by omega, rfl, rfl, fun j h => by omega⟩
  case round =>
    obtain ⟨k, hk6, hku, rfl, rfl, hg⟩ := hrel
    have hs2 := HSZ.out
    have hbd : hvl 0 (u.take k) ≤ 16777216 := by
      have h1 := hvl_bd (u.take k) 0
      have h3 : (u.take k).length ≤ 6 := by rw [List.length_take]; omega
      have h4 : 16 ^ (u.take k).length ≤ 16 ^ 6 := Nat.pow_le_pow_right (by omega) h3
      simp at h1 h4
      omega
    have hbI : ((hvl 0 (u.take k) : Nat) : Int) ≤ 16777216 := by omega
    by_cases hend : k = u.length
    · have ht := bcV_is u k hk6 hku hg.out (.inr (.inl hend))
      have HR := Lib.hid (bcV_no u k ht hku (.inr (.inl hend))).symm
      have e1 : (((k + 2 : Nat) : Int) == 2) = false := by simp; omega
      have e2 : ((k + 2 : Nat) : Int) = (s.size : Int) := by omega
      clear ht hend hs2 hbd hg hku
      rw [e2]
      rw [e2] at e1
      clear e2
      generalize ((hvl 0 (u.take k) : Nat) : Int) = c at *
      go_wp2
      go_ret2
      exact HP.out _ _ HR.out
    · have hlt : k < u.length := by omega
      have hlt2 : k + 2 < s.size := by omega
      have hat := HAT.out k hlt hlt2
      have HD : Hid (∀ w, Calls Tryd.prog 67 #[.int .u8 (s[k + 2].toNat : Nat)] w fun e w' => e = .returned (.int .i64 (hxv u[k])) ∧ w = w') := fun w => by
        rw [hat]
        exact rDigit_any _ w
      have hxb := hxv_bd u[k]
      have hst : hvl 0 (u.take (k + 1)) = hvl 0 (u.take k) * 16 + (hxv u[k]).toNat := by
        rw [List.take_succ_eq_append_getElem hlt, hvl_snoc]
      have hb125 : (s[k + 2].toNat : Int) = (u[k].toNat : Int) := by rw [hat]
      have hj : ((k + 2 : Nat) : Int) < (s.size : Int) := by omega
      by_cases hx : k < 6 ∧ isHx u[k] = true
      · have hx0 : 0 ≤ hxv u[k] := of_decide_eq_true hx.2
        have HN : Hid (∀ j (_ : j < k + 1) (h2 : j < u.length), isHx u[j] = true) := all_snoc hg.out (fun _ => hx.2)
        have HST : Hid (((hvl 0 (u.take (k + 1)) : Nat) : Int) = ((hvl 0 (u.take k) : Nat) : Int) * 16 + hxv u[k]) := by
          show _ = _
          omega
        have h8 : ((k + 2 : Nat) : Int) < 8 := by omega
        clear hst hat hb125 hx hg hs2 hbd hend hku hk6
        generalize ((hvl 0 (u.take k) : Nat) : Int) = c at *
        have hc0 : 0 ≤ c := by
          have := HST.out
          omega
        generalize hxv u[k] = v at *
        go_wp2_with (go_at_call 67; refine (HD.out _).mono ?_; rintro e w' ⟨rfl, rfl⟩)
        go_round
        case rel => exact ⟨k + 1, by omega, by omega, by rw [HST.out], by go_num, HN⟩
        case measure => simp [intOf]; omega
      · have hend2 : k = 6 ∨ k = u.length ∨ ∃ h : k < u.length, isHx u[k] = false := by
          by_cases h6 : k = 6
          · exact .inl h6
          · refine .inr (.inr ⟨hlt, ?_⟩)
            exact Bool.eq_false_iff.2 (fun h => hx ⟨by omega, h⟩)
        have ht := bcV_is u k hk6 hku hg.out hend2
        have hreason : k = 6 ∨ (k < 6 ∧ hxv u[k] = -1) := by
          by_cases h6 : k = 6
          · exact .inl h6
          · refine .inr ⟨by omega, ?_⟩
            have hn : ¬ 0 ≤ hxv u[k] := fun h => hx ⟨by omega, decide_eq_true h⟩
            omega
        have HIC : Hid (∀ w, Calls Tryd.prog 68 #[.int .i64 (hvl 0 (u.take k) : Nat)] w fun e w' => e = .returned (.bool (isC (hvl 0 (u.take k)))) ∧ w = w') := fun w => by
          have := IsChar_any (hvl 0 (u.take k) : Nat) w
          rwa [isCI_nat] at this
        by_cases h0 : k = 0
        · subst h0
          have HR := Lib.hid (bcV_no u 0 ht hku (.inl rfl)).symm
          have hv : hxv u[0] = -1 := by omega
          rw [hv] at HD
          rw [show ((0 + 2 : Nat) : Int) = 2 from rfl] at *
          clear ht hst hat hb125 hx hg hs2 hbd hend hku hk6 hend2 hreason hxb hv HIC
          generalize ((hvl 0 (u.take 0) : Nat) : Int) = c at *
          go_wp2_with (go_at_call 67; refine (HD.out _).mono ?_; rintro e w' ⟨rfl, rfl⟩)
          go_ret2
          exact HP.out _ _ HR.out
        · have e1 : ((k : Int) + 2 == 2) = false := by rw [beq_eq_false_iff_ne]; omega
          have e2 : ((k : Int) + 2 == (s.size : Int)) = false := by rw [beq_eq_false_iff_ne]; omega
          have e3 : (k : Int) + 2 ≤ 8 := by omega
          by_cases h125 : u[k] = 125
          · have hb : s[k + 2].toNat = 125 := by rw [hat, h125]; rfl
            have e5 : ((s[k + 2].toNat : Int) != 125) = false := by rw [hb]; rfl
            cases hci : isC (hvl 0 (u.take k))
            · have HR := Lib.hid (bcV_no u k ht hku (.inr (.inr (.inr hci)))).symm
              rw [hci] at HIC
              clear ht hst hat hb125 hx hg hs2 hbd hend hku hend2 hxb hci h125 hb
              generalize ((hvl 0 (u.take k) : Nat) : Int) = c at *
              rcases hreason with h6 | ⟨h6, hv⟩
              · have e4 : 8 ≤ (k : Int) + 2 := by omega
                clear h6
                go_wp2_with (go_at_call 68; refine (HIC.out _).mono ?_; rintro e w' ⟨rfl, rfl⟩)
                go_ret2
                exact HP.out _ _ HR.out
              · have e4 : (k : Int) + 2 < 8 := by omega
                rw [hv] at HD
                clear hv
                go_wp2_with (first | (go_at_call 67; refine (HD.out _).mono ?_; rintro e w' ⟨rfl, rfl⟩) | (go_at_call 68; refine (HIC.out _).mono ?_; rintro e w' ⟨rfl, rfl⟩))
                go_ret2
                exact HP.out _ _ HR.out
            · have HR := Lib.hid (bcV_yes u k ht (by omega) hlt h125 hci).symm
              rw [hci] at HIC
              clear ht hst hat hb125 hx hg hs2 hbd hend hku hend2 hxb hci h125 hb
              generalize ((hvl 0 (u.take k) : Nat) : Int) = c at *
              rcases hreason with h6 | ⟨h6, hv⟩
              · have e4 : 8 ≤ (k : Int) + 2 := by omega
                have HR2 : Hid (.tuple #[.int .i64 c, .int .i64 ((k : Int) + 2 + 1)] = bcV u) := HR
                clear h6
                go_wp2_with (go_at_call 68; refine (HIC.out _).mono ?_; rintro e w' ⟨rfl, rfl⟩)
                go_ret2
                exact HP.out _ _ HR2.out
              · have e4 : (k : Int) + 2 < 8 := by omega
                have HR2 : Hid (.tuple #[.int .i64 c, .int .i64 ((k : Int) + 2 + 1)] = bcV u) := HR
                rw [hv] at HD
                clear hv
                go_wp2_with (first | (go_at_call 67; refine (HD.out _).mono ?_; rintro e w' ⟨rfl, rfl⟩) | (go_at_call 68; refine (HIC.out _).mono ?_; rintro e w' ⟨rfl, rfl⟩))
                go_ret2
                exact HP.out _ _ HR2.out
          · have hb : s[k + 2].toNat ≠ 125 := by
              rw [hat]
              intro h
              exact h125 (UInt8.toNat_inj.1 h)
            have e5 : ((s[k + 2].toNat : Int) != 125) = true := by
              rw [bne_iff_ne]
              omega
            have HR := Lib.hid (bcV_no u k ht hku (.inr (.inr (.inl ⟨hlt, h125⟩)))).symm
            clear ht hst hat hb125 hx hg hs2 hbd hend hku hend2 hxb h125 hb HIC
            generalize ((hvl 0 (u.take k) : Nat) : Int) = c at *
            rcases hreason with h6 | ⟨h6, hv⟩
            · have e4 : 8 ≤ (k : Int) + 2 := by omega
              clear h6
              go_wp2
              go_ret2
              exact HP.out _ _ HR.out
            · have e4 : (k : Int) + 2 < 8 := by omega
              rw [hv] at HD
              clear hv
              go_wp2_with (go_at_call 67; refine (HD.out _).mono ?_; rintro e w' ⟨rfl, rfl⟩)
              go_ret2
              exact HP.out _ _ HR.out

end Go.Proofs.YtegckpkancbnmaaDoor
