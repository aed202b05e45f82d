/-
  The document's Digit, IsChar, Braced. Conditions: texts of at most 100000 bytes. The document's text of characters. Conditions: characters; at most 1000000 of them. Characters by their numbers, as package tree reads them. Conditions: the variable strconv.ErrSyntax holds an error; texts of at most 100000 bytes.
-/
import Derived.Test.YtaocbhfehncdcaaGreatDoorXM22
import Derived.Lib.AppendStr
import Derived.Laws.IdiomStrings
namespace Go.Proofs.YtaocbhfehncdcaaGreatDoor
open Go.RowKit

theorem ret_bool {a b : Bool} (h : a = b) : Ending.returned (.bool a) = .returned (.bool b) := by rw [h]
def TwoP (a b : Int) (w : World) (e : Ending) (w' : World) : Prop := e = .returned (.tuple #[.int .i64 a, .int .i64 b]) ∧ w = w'
def isCI (c : Int) : Bool := decide (0 ≤ c) && decide (c ≤ 1114111) && !(decide (55296 ≤ c) && decide (c ≤ 57343))
theorem isCI_nat (c : Nat) : isCI (c : Int) = isC c := by
  unfold isCI isC
  rw [Bool.eq_iff_iff]
  simp
  omega
theorem isCI_iff {n : Int} : isCI n = true ↔ 0 ≤ n ∧ n ≤ 1114111 ∧ ¬ (55296 ≤ n ∧ n ≤ 57343) := by
  unfold isCI; simp; omega
theorem IsChar_any (n : Int) (w : World) :
    Calls Tryz.prog 102 #[.int .i64 n] w fun e w' => e = .returned (.bool (isCI n)) ∧ w = w' := by
  by_cases h1 : 0 ≤ n <;> by_cases h2 : n ≤ 1114111 <;> by_cases h3 : 55296 ≤ n <;> by_cases h4 : n ≤ 57343
  all_goals first
    | (exfalso; omega)
    | (go_enter Tryz.func102, Tryz.ntmps102
       go_wp2
       go_ret
       exact ⟨ret_bool (by first | exact (isCI_iff.2 (by omega)).symm | exact (Bool.eq_false_iff.2 (fun h => by have := (isCI_iff (n := n)).1 h; omega)).symm | (rw [Bool.eq_iff_iff, isCI_iff]; simp; omega)), rfl⟩)
theorem getElem_list (s : ByteArray) (k : Nat) (h : k < s.size) : s.data.toList[k]? = some s[k] := by
  simp [ByteArray.getElem_eq_getElem_data]

theorem rDigit_any (b : UInt8) (w : World) : Calls Tryz.prog 101 #[.int .u8 b.toNat] w fun e w' => e = .returned (.int .i64 (hxv b)) ∧ w = w' := by
  have h256 := b.toNat_lt
  by_cases h1 : 48 ≤ b.toNat ∧ b.toNat ≤ 57
  · have HV : Hid (∀ v, v = (b.toNat : Int) - 48 → Ending.returned (.int .i64 v) = .returned (.int .i64 (hxv b))) := fun v h => by
      unfold hxv
      rw [if_pos h1, h]
    obtain ⟨a1, a2⟩ := h1
    generalize b.toNat = x at *
    go_enter Tryz.func101, Tryz.ntmps101
    go_wp2
    go_ret
    exact ⟨HV.out _ rfl, rfl⟩
  by_cases h2 : 97 ≤ b.toNat ∧ b.toNat ≤ 102
  · have HV : Hid (∀ v, v = (b.toNat : Int) - 97 + 10 → Ending.returned (.int .i64 v) = .returned (.int .i64 (hxv b))) := fun v h => by
      unfold hxv
      rw [if_neg h1, if_pos h2, h]
      congr 2
      omega
    obtain ⟨a1, a2⟩ := h2
    have a3 : ¬ b.toNat ≤ 57 := by omega
    clear h1
    generalize b.toNat = x at *
    go_enter Tryz.func101, Tryz.ntmps101
    go_wp2
    go_ret
    exact ⟨HV.out _ rfl, rfl⟩
  by_cases h3 : 65 ≤ b.toNat ∧ b.toNat ≤ 70
  · have HV : Hid (∀ v, v = (b.toNat : Int) - 65 + 10 → Ending.returned (.int .i64 v) = .returned (.int .i64 (hxv b))) := fun v h => by
      unfold hxv
      rw [if_neg h1, if_neg h2, if_pos h3, h]
      congr 2
      omega
    obtain ⟨a1, a2⟩ := h3
    have a3 : ¬ b.toNat ≤ 57 := by omega
    have a4 : ¬ 97 ≤ b.toNat := by omega
    clear h1 h2
    generalize b.toNat = x at *
    go_enter Tryz.func101, Tryz.ntmps101
    go_wp2
    go_ret
    exact ⟨HV.out _ rfl, rfl⟩
  have HV : Hid (Ending.returned (.int .i64 (-1)) = .returned (.int .i64 (hxv b))) := by
    show _ = _
    unfold hxv
    rw [if_neg h1, if_neg h2, if_neg h3]
  have h1' : b.toNat < 48 ∨ 57 < b.toNat := by omega
  have h2' : b.toNat < 97 ∨ 102 < b.toNat := by omega
  have h3' : b.toNat < 65 ∨ 70 < b.toNat := by omega
  clear h1 h2 h3
  generalize b.toNat = x at *
  rcases h1' with h1 | h1 <;> rcases h2' with h2 | h2 <;> rcases h3' with h3 | h3
  all_goals first
    | (exfalso; omega)
    | (go_enter Tryz.func101, Tryz.ntmps101
       go_wp2
       go_ret
       exact ⟨HV.out, rfl⟩)
theorem rBraced_short (s : ByteArray) (h : s.size < 4) (w : World) : Calls Tryz.prog 66 #[.string s] w (TwoP 0 0 w) := by
  have HP : Hid (∀ w, TwoP 0 0 w (.returned (.tuple #[.int .i64 0, .int .i64 0])) w) := fun w => ⟨rfl, rfl⟩
  have h1 : (s.size : Int) < 4 := by omega
  go_enter Tryz.func66, Tryz.ntmps66
  go_wp2
  go_ret2
  exact HP.out _
theorem rBraced_other (s : ByteArray) (h : 4 ≤ s.size) (hz : s.size ≤ 100002) (hne : (s.extract 0 2).data.toList ≠ [120, 123]) (w : World) : Calls Tryz.prog 66 #[.string s] w (TwoP 0 0 w) := by
  have HP : Hid (∀ w, TwoP 0 0 w (.returned (.tuple #[.int .i64 0, .int .i64 0])) w) := fun w => ⟨rfl, rfl⟩
  have h1 : ¬ (s.size : Int) < 4 := by omega
  have n1 : ((s.extract 0 2).toList == [120, 123]) = false := by
    rw [Lib.toList_data, beq_eq_false_iff_ne]
    exact hne
  have h2 : 2 ≤ s.size := by omega
  clear hne
  go_enter Tryz.func66, Tryz.ntmps66
  go_wp2
  go_ret2
  exact HP.out _
/-- What Braced gives of what stands behind x and an opening brace. -/
def bcV (u : List UInt8) : Value := match brc u with
  | some (c, r) => .tuple #[.int .i64 c, .int .i64 (u.length + 2 - r.length : Nat)]
  | none => .tuple #[.int .i64 0, .int .i64 0]
theorem bcV_is (u : List UInt8) (k : Nat) (hk6 : k ≤ 6) (hku : k ≤ u.length) (hg : ∀ j (_ : j < k) (h2 : j < u.length), isHx u[j] = true) (he : k = 6 ∨ k = u.length ∨ ∃ h : k < u.length, isHx u[k] = false) :
    hxt 6 u = u.take k := hxt_is 6 k u hk6 hku hg he
theorem bcV_no (u : List UInt8) (k : Nat) (ht : hxt 6 u = u.take k) (hku : k ≤ u.length) (h : k = 0 ∨ k = u.length ∨ (∃ h : k < u.length, u[k] ≠ 125) ∨ isC (hvl 0 (u.take k)) = false) : bcV u = .tuple #[.int .i64 0, .int .i64 0] := by
  have hn : brc u = none := by
    unfold brc
    rw [ht]
    have hl : (u.take k).length = k := by rw [List.length_take]; omega
    rw [hl]
    split
    · rfl
    · rename_i hne
      split
      · rename_i b r hd
        rw [if_neg]
        rintro ⟨rfl, hc⟩
        have hlt : k < u.length := by
          have := congrArg List.length hd
          simp at this
          omega
        rw [List.drop_eq_getElem_cons hlt] at hd
        have hb := (List.cons.inj hd).1
        rcases h with h | h | ⟨_, h⟩ | h
        · subst h
          exact hne rfl
        · omega
        · exact h hb
        · rw [h] at hc
          cases hc
      · rfl
  unfold bcV
  rw [hn]
theorem bcV_yes (u : List UInt8) (k : Nat) (ht : hxt 6 u = u.take k) (h0 : 0 < k) (hlt : k < u.length) (hb : u[k] = 125) (hc : isC (hvl 0 (u.take k)) = true) : bcV u = .tuple #[.int .i64 (hvl 0 (u.take k) : Nat), .int .i64 ((k : Int) + 2 + 1)] := by
  have hn : brc u = some (hvl 0 (u.take k), u.drop (k + 1)) := by
    unfold brc
    rw [ht]
    have hl : (u.take k).length = k := by rw [List.length_take]; omega
    rw [hl, if_neg (by intro h; have := congrArg List.length h; rw [hl] at this; simp at this; omega)]
    rw [List.drop_eq_getElem_cons hlt, hb]
    show (if (125 : UInt8) = 125 ∧ isC (hvl 0 (u.take k)) = true then _ else _) = _
    rw [if_pos ⟨rfl, hc⟩]
  unfold bcV
  rw [hn]
  show Value.tuple #[_, .int .i64 ((u.length + 2 - (u.drop (k + 1)).length : Nat) : Int)] = _
  rw [List.length_drop, show ((u.length + 2 - (u.length - (k + 1)) : Nat) : Int) = (k : Int) + 2 + 1 by omega]
def BcP (u : List UInt8) (w : World) (e : Ending) (w' : World) : Prop := e = .returned (bcV u) ∧ w = w'
theorem all_snoc {u : List UInt8} {k : Nat} (hg : ∀ j (_ : j < k) (h2 : j < u.length), isHx u[j] = true) (hx : ∀ h : k < u.length, isHx u[k] = true) : ∀ j (_ : j < k + 1) (h2 : j < u.length), isHx u[j] = true := fun j h h2 => by
  rcases Nat.lt_or_ge j k with hj | hj
  · exact hg j hj h2
  · obtain rfl : j = k := by omega
    exact hx h2
set_option maxRecDepth 100000 in
set_option maxHeartbeats 4000000 in
theorem rBraced_x (u : List UInt8) (h2 : 2 ≤ u.length) (hz : u.length ≤ 100000) (w : World) : Calls Tryz.prog 66 #[.string (bs (120 :: 123 :: u))] w (BcP u w) := by
  have hsz : (bs (120 :: 123 :: u)).size = u.length + 2 := by rw [bs_size]; rfl
  have hcut : (bs (120 :: 123 :: u)).extract 0 2 = ⟨#[120, 123]⟩ := bs_take [120, 123] u 2 rfl
  have HAT : Hid (∀ k (h : k < u.length) (h3 : k + 2 < (bs (120 :: 123 :: u)).size), (bs (120 :: 123 :: u))[k + 2] = u[k]) := fun k h h3 => by
    have h4 := getElem_list (bs (120 :: 123 :: u)) (k + 2) h3
    rw [bs_list] at h4
    have h5 : (120 :: 123 :: u)[k + 2]? = some u[k] := by
      show u[k]? = _
      exact List.getElem?_eq_getElem h
    rw [h5] at h4
    exact (Option.some.inj h4).symm
  have HP : Hid (∀ v w, v = bcV u → BcP u w (.returned v) w) := fun v w h => by
    rw [h]
    exact ⟨rfl, rfl⟩
  generalize bs (120 :: 123 :: u) = s at *
  have HSZ := Lib.hid hsz
  have g4 : ¬ (s.size : Int) < 4 := by omega
  have g2 : 2 ≤ s.size := by omega
  have gz : s.size ≤ 100002 := by omega
  clear hsz
  go_enter Tryz.func66, Tryz.ntmps66
  go_wp2
  go_loop [4, 5] (fun cv iv => ∃ k : Nat, k ≤ 6 ∧ k ≤ u.length ∧ cv = .int .i64 (hvl 0 (u.take k) : Nat) ∧ iv = .int .i64 (k + 2 : Nat) ∧ Hid (∀ j (_ : j < k) (h2 : j < u.length), isHx u[j] = true)) (fun _ iv => 8 - (intOf iv).toNat)
  case atStart => exact ⟨0, by omega, by omega, rfl, rfl, fun j h => by omega⟩
  case round =>
    obtain ⟨k, hk6, hku, rfl, rfl, hg⟩ := hrel
    have hs2 := HSZ.out
    have hbd : hvl 0 (u.take k) ≤ 16777216 := by
      have h1 := hvl_bd (u.take k) 0
      have h3 : (u.take k).length ≤ 6 := by rw [List.length_take]; omega
      have h4 : 16 ^ (u.take k).length ≤ 16 ^ 6 := Nat.pow_le_pow_right (by omega) h3
      simp at h1 h4
      omega
    have hbI : ((hvl 0 (u.take k) : Nat) : Int) ≤ 16777216 := by omega
    by_cases hend : k = u.length
    · have ht := bcV_is u k hk6 hku hg.out (.inr (.inl hend))
      have HR := Lib.hid (bcV_no u k ht hku (.inr (.inl hend))).symm
      have e1 : (((k + 2 : Nat) : Int) == 2) = false := by simp; omega
      have e2 : ((k + 2 : Nat) : Int) = (s.size : Int) := by omega
      clear ht hend hs2 hbd hg hku
      rw [e2]
      rw [e2] at e1
      clear e2
      generalize ((hvl 0 (u.take k) : Nat) : Int) = c at *
      go_wp2
      go_ret2
      exact HP.out _ _ HR.out
    · have hlt : k < u.length := by omega
      have hlt2 : k + 2 < s.size := by omega
      have hat := HAT.out k hlt hlt2
      have HD : Hid (∀ w, Calls Tryz.prog 101 #[.int .u8 (s[k + 2].toNat : Nat)] w fun e w' => e = .returned (.int .i64 (hxv u[k])) ∧ w = w') := fun w => by
        rw [hat]
        exact rDigit_any _ w
      have hxb := hxv_bd u[k]
      have hst : hvl 0 (u.take (k + 1)) = hvl 0 (u.take k) * 16 + (hxv u[k]).toNat := by
        rw [List.take_succ_eq_append_getElem hlt, hvl_snoc]
      have hb125 : (s[k + 2].toNat : Int) = (u[k].toNat : Int) := by rw [hat]
      have hj : ((k + 2 : Nat) : Int) < (s.size : Int) := by omega
      by_cases hx : k < 6 ∧ isHx u[k] = true
      · have hx0 : 0 ≤ hxv u[k] := of_decide_eq_true hx.2
        have HN : Hid (∀ j (_ : j < k + 1) (h2 : j < u.length), isHx u[j] = true) := all_snoc hg.out (fun _ => hx.2)
        have HST : Hid (((hvl 0 (u.take (k + 1)) : Nat) : Int) = ((hvl 0 (u.take k) : Nat) : Int) * 16 + hxv u[k]) := by
          show _ = _
          omega
        have h8 : ((k + 2 : Nat) : Int) < 8 := by omega
        clear hst hat hb125 hx hg hs2 hbd hend hku hk6
        generalize ((hvl 0 (u.take k) : Nat) : Int) = c at *
        have hc0 : 0 ≤ c := by
          have := HST.out
          omega
        generalize hxv u[k] = v at *
        go_wp2_with (go_at_call 101; refine (HD.out _).mono ?_; rintro e w' ⟨rfl, rfl⟩)
        go_round
        case rel => exact ⟨k + 1, by omega, by omega, by rw [HST.out], by go_num, HN⟩
        case measure => simp [intOf]; omega
      · have hend2 : k = 6 ∨ k = u.length ∨ ∃ h : k < u.length, isHx u[k] = false := by
          by_cases h6 : k = 6
          · exact .inl h6
          · refine .inr (.inr ⟨hlt, ?_⟩)
            exact Bool.eq_false_iff.2 (fun h => hx ⟨by omega, h⟩)
        have ht := bcV_is u k hk6 hku hg.out hend2
        have hreason : k = 6 ∨ (k < 6 ∧ hxv u[k] = -1) := by
          by_cases h6 : k = 6
          · exact .inl h6
          · refine .inr ⟨by omega, ?_⟩
            have hn : ¬ 0 ≤ hxv u[k] := fun h => hx ⟨by omega, decide_eq_true h⟩
            omega
        have HIC : Hid (∀ w, Calls Tryz.prog 102 #[.int .i64 (hvl 0 (u.take k) : Nat)] w fun e w' => e = .returned (.bool (isC (hvl 0 (u.take k)))) ∧ w = w') := fun w => by
          have := IsChar_any (hvl 0 (u.take k) : Nat) w
          rwa [isCI_nat] at this
        by_cases h0 : k = 0
        · subst h0
          have HR := Lib.hid (bcV_no u 0 ht hku (.inl rfl)).symm
          have hv : hxv u[0] = -1 := by omega
          rw [hv] at HD
          rw [show ((0 + 2 : Nat) : Int) = 2 from rfl] at *
          clear ht hst hat hb125 hx hg hs2 hbd hend hku hk6 hend2 hreason hxb hv HIC
          generalize ((hvl 0 (u.take 0) : Nat) : Int) = c at *
          go_wp2_with (go_at_call 101; refine (HD.out _).mono ?_; rintro e w' ⟨rfl, rfl⟩)
          go_ret2
          exact HP.out _ _ HR.out
        · have e1 : ((k : Int) + 2 == 2) = false := by rw [beq_eq_false_iff_ne]; omega
          have e2 : ((k : Int) + 2 == (s.size : Int)) = false := by rw [beq_eq_false_iff_ne]; omega
          have e3 : (k : Int) + 2 ≤ 8 := by omega
          by_cases h125 : u[k] = 125
          · have hb : s[k + 2].toNat = 125 := by rw [hat, h125]; rfl
            have e5 : ((s[k + 2].toNat : Int) != 125) = false := by rw [hb]; rfl
            cases hci : isC (hvl 0 (u.take k))
            · have HR := Lib.hid (bcV_no u k ht hku (.inr (.inr (.inr hci)))).symm
              rw [hci] at HIC
              clear ht hst hat hb125 hx hg hs2 hbd hend hku hend2 hxb hci h125 hb
              generalize ((hvl 0 (u.take k) : Nat) : Int) = c at *
              rcases hreason with h6 | ⟨h6, hv⟩
              · have e4 : 8 ≤ (k : Int) + 2 := by omega
                clear h6
                go_wp2_with (go_at_call 102; refine (HIC.out _).mono ?_; rintro e w' ⟨rfl, rfl⟩)
                go_ret2
                exact HP.out _ _ HR.out
              · have e4 : (k : Int) + 2 < 8 := by omega
                rw [hv] at HD
                clear hv
                go_wp2_with (first | (go_at_call 101; refine (HD.out _).mono ?_; rintro e w' ⟨rfl, rfl⟩) | (go_at_call 102; refine (HIC.out _).mono ?_; rintro e w' ⟨rfl, rfl⟩))
                go_ret2
                exact HP.out _ _ HR.out
            · have HR := Lib.hid (bcV_yes u k ht (by omega) hlt h125 hci).symm
              rw [hci] at HIC
              clear ht hst hat hb125 hx hg hs2 hbd hend hku hend2 hxb hci h125 hb
              generalize ((hvl 0 (u.take k) : Nat) : Int) = c at *
              rcases hreason with h6 | ⟨h6, hv⟩
              · have e4 : 8 ≤ (k : Int) + 2 := by omega
                have HR2 : Hid (.tuple #[.int .i64 c, .int .i64 ((k : Int) + 2 + 1)] = bcV u) := HR
                clear h6
                go_wp2_with (go_at_call 102; refine (HIC.out _).mono ?_; rintro e w' ⟨rfl, rfl⟩)
                go_ret2
                exact HP.out _ _ HR2.out
              · have e4 : (k : Int) + 2 < 8 := by omega
                have HR2 : Hid (.tuple #[.int .i64 c, .int .i64 ((k : Int) + 2 + 1)] = bcV u) := HR
                rw [hv] at HD
                clear hv
                go_wp2_with (first | (go_at_call 101; refine (HD.out _).mono ?_; rintro e w' ⟨rfl, rfl⟩) | (go_at_call 102; refine (HIC.out _).mono ?_; rintro e w' ⟨rfl, rfl⟩))
                go_ret2
                exact HP.out _ _ HR2.out
          · have hb : s[k + 2].toNat ≠ 125 := by
              rw [hat]
              intro h
              exact h125 (UInt8.toNat_inj.1 h)
            have e5 : ((s[k + 2].toNat : Int) != 125) = true := by
              rw [bne_iff_ne]
              omega
            have HR := Lib.hid (bcV_no u k ht hku (.inr (.inr (.inl ⟨hlt, h125⟩)))).symm
            clear ht hst hat hb125 hx hg hs2 hbd hend hku hend2 hxb h125 hb HIC
            generalize ((hvl 0 (u.take k) : Nat) : Int) = c at *
            rcases hreason with h6 | ⟨h6, hv⟩
            · have e4 : 8 ≤ (k : Int) + 2 := by omega
              clear h6
              go_wp2
              go_ret2
              exact HP.out _ _ HR.out
            · have e4 : (k : Int) + 2 < 8 := by omega
              rw [hv] at HD
              clear hv
              go_wp2_with (go_at_call 101; refine (HD.out _).mono ?_; rintro e w' ⟨rfl, rfl⟩)
              go_ret2
              exact HP.out _ _ HR.out

end Go.Proofs.YtaocbhfehncdcaaGreatDoor

namespace Go.Proofs.YtaocbhfehncdcaaGreatDoor
open Go.RowKit

def up (L : List Nat) : List Int := List.map (fun c : Nat => (c : Int)) L
theorem up_length (L : List Nat) : (up L).length = L.length := by simp [up]
theorem up_get (L : List Nat) (k : Nat) (h : k < (up L).length) : (up L)[k] = ((L[k]'(by rwa [up_length] at h) : Nat) : Int) := by simp [up]
/-- A slice that reads as integers, in blocks below H. -/
def Rd (k : IntKind) (H : Nat) (v : Value) (L : List Int) (w : World) : Prop :=
  ∃ ao cv, v = .slice ao L.length cv ∧ L.length ≤ cv ∧ (0 < L.length → ∃ b o, ao = some ⟨b, o, none⟩ ∧ b < H ∧ ∀ j (h : j < L.length), w.cell? ⟨b, o + j, none⟩ = some (.int k L[j]))
theorem owns_below {w w' : World} {base : Nat} {e : TypeId} {size : Nat} {v : Value} {n : Nat} {xs : List Value} (h : w.ownsRow base e size v n xs) (hb : Below w.heap.size w w') : w'.ownsRow base e size v n xs := by
  refine ⟨h.1, ?_⟩
  rcases h.2 with hn | ⟨g, cap, cur, rfl, hb0, hgg, rest⟩
  · exact .inl hn
  · refine .inr ⟨g, cap, cur, rfl, hb0, ?_, rest⟩
    rw [hb.block g (Array.getElem?_eq_some_iff.1 hgg).1]
    exact hgg
theorem add_zero_addr (g j : Nat) : ((⟨g, 0, none⟩ : Addr).add j) = ⟨g, j, none⟩ := by cases j <;> simp [Addr.add]
theorem back_new (w : World) (ns : List Int) (l : List UInt8) (hl : ns = l.map (fun b => (b.toNat : Int))) :
    (convert 52 9 (.slice (some ⟨w.heap.size, 0, none⟩) ns.length ns.length)).run Tryz.prog (w.alloc (.cells (ns.map (Value.int .u8)).toArray 5)) = .ok (.string (bs l)) (w.alloc (.cells (ns.map (Value.int .u8)).toArray 5)) := by
  subst hl
  rw [List.length_map]
  refine run_convert_bytes_back _ _ _ 5 _ _ l Tryz.underlying52 Tryz.underlying5 Tryz.underlying9 ?_
  intro j hj
  rw [add_zero_addr, World.cell?_alloc_new]
  simp [hj]
/-- One string handed back. -/
def StrP (l : List UInt8) (w : World) (e : Ending) (w' : World) : Prop := e = .returned (.string (bs l)) ∧ Below w.heap.size w w'
set_option maxRecDepth 1000000 in
set_option maxHeartbeats 4000000 in
theorem rOne_any (c : Nat) (hc : isC c = true) (w : World) : Calls Tryz.prog 103 #[.int .i64 c] w (StrP (en c) w) := by
  have hci := isC_iff.1 hc
  have HP : Hid (∀ o, StrP (en c) w (.returned (.string (bs (en c)))) (w.alloc o)) := fun o => ⟨rfl, (Below.refl _ _).alloc (Nat.le_refl _) o⟩
  by_cases h1 : c < 128
  · have hcv : (convert 52 9 (.slice (some ⟨w.heap.size, 0, none⟩) 1 1)).run Tryz.prog (w.alloc (.cells #[.int .u8 (c : Int)] 5)) = .ok (.string (bs (en c))) (w.alloc (.cells #[.int .u8 (c : Int)] 5)) := by
      rw [en1 h1]
      exact back_new w [(c : Int)] _ (by simp only [List.map_cons, List.map_nil]; rw [ofNat_toNat (by omega)])
    clear hc hci
    generalize bs (en c) = R at *
    go_enter Tryz.func103, Tryz.ntmps103
    go_wp2
    go_ret
    exact HP.out _
  by_cases h2 : c < 2048
  · have hcv : (convert 52 9 (.slice (some ⟨w.heap.size, 0, none⟩) 2 2)).run Tryz.prog (w.alloc (.cells #[.int .u8 (192 + (c : Int) / 64), .int .u8 (128 + (c : Int) % 64)] 5)) = .ok (.string (bs (en c))) (w.alloc (.cells #[.int .u8 (192 + (c : Int) / 64), .int .u8 (128 + (c : Int) % 64)] 5)) := by
      rw [en2 (by omega) h2]
      exact back_new w [192 + (c : Int) / 64, 128 + (c : Int) % 64] _ (by simp only [List.map_cons, List.map_nil]; rw [ofNat_toNat (by omega), ofNat_toNat (by omega)]; rfl)
    clear hc hci
    generalize bs (en c) = R at *
    go_enter Tryz.func103, Tryz.ntmps103
    go_wp2
    go_ret
    exact HP.out _
  by_cases h3 : c < 65536
  · have hcv : (convert 52 9 (.slice (some ⟨w.heap.size, 0, none⟩) 3 3)).run Tryz.prog (w.alloc (.cells #[.int .u8 (224 + (c : Int) / 4096), .int .u8 (128 + (c : Int) / 64 % 64), .int .u8 (128 + (c : Int) % 64)] 5)) = .ok (.string (bs (en c))) (w.alloc (.cells #[.int .u8 (224 + (c : Int) / 4096), .int .u8 (128 + (c : Int) / 64 % 64), .int .u8 (128 + (c : Int) % 64)] 5)) := by
      rw [en3 (by omega) h3 hc]
      exact back_new w [224 + (c : Int) / 4096, 128 + (c : Int) / 64 % 64, 128 + (c : Int) % 64] _ (by simp only [List.map_cons, List.map_nil]; rw [ofNat_toNat (by omega), ofNat_toNat (by omega), ofNat_toNat (by omega)]; rfl)
    clear hc hci
    generalize bs (en c) = R at *
    go_enter Tryz.func103, Tryz.ntmps103
    go_wp2
    go_ret
    exact HP.out _
  · have hcv : (convert 52 9 (.slice (some ⟨w.heap.size, 0, none⟩) 4 4)).run Tryz.prog (w.alloc (.cells #[.int .u8 (240 + (c : Int) / 262144), .int .u8 (128 + (c : Int) / 4096 % 64), .int .u8 (128 + (c : Int) / 64 % 64), .int .u8 (128 + (c : Int) % 64)] 5)) = .ok (.string (bs (en c))) (w.alloc (.cells #[.int .u8 (240 + (c : Int) / 262144), .int .u8 (128 + (c : Int) / 4096 % 64), .int .u8 (128 + (c : Int) / 64 % 64), .int .u8 (128 + (c : Int) % 64)] 5)) := by
      rw [en4 (by omega) hc]
      exact back_new w [240 + (c : Int) / 262144, 128 + (c : Int) / 4096 % 64, 128 + (c : Int) / 64 % 64, 128 + (c : Int) % 64] _ (by simp only [List.map_cons, List.map_nil]; rw [ofNat_toNat (by omega), ofNat_toNat (by omega), ofNat_toNat (by omega), ofNat_toNat (by omega)]; rfl)
    have hb : c ≤ 1114111 := by omega
    clear hc hci
    generalize bs (en c) = R at *
    go_enter Tryz.func103, Tryz.ntmps103
    go_wp2
    go_ret
    exact HP.out _

theorem byteCells_app (l m : List UInt8) : Lib.byteCells (l ++ m) = Lib.byteCells l ++ Lib.strCells (bs m) := by
  simp [Lib.byteCells, Lib.strCells, bs]
/-- A row of bytes. -/
def Bytes (B : Nat) (v : Value) (l : List UInt8) (w : World) : Prop := w.ownsRow B 5 1 v l.length (Lib.byteCells l)
theorem Bytes.form {B : Nat} {v : Value} {l : List UInt8} {w : World} (h : Bytes B v l w) : ∃ ao cv, v = .slice ao l.length cv := by
  rcases h.2 with ⟨hv, h0⟩ | ⟨g, cap, cur, hv, _⟩
  · exact ⟨none, 0, by rw [hv, h0]⟩
  · exact ⟨_, cap, hv⟩
theorem Bytes.back {B : Nat} {v : Value} {l : List UInt8} {w : World} (h : Bytes B v l w) : (convert 52 9 v).run Tryz.prog w = .ok (.string (bs l)) w := by
  rcases h.2 with ⟨hv, h0⟩ | ⟨g, cap, cur, hv, _⟩
  · have hl : l = [] := List.eq_nil_of_length_eq_zero h0
    subst hl
    rw [hv, run_convert_bytes_string w _ _ 5 none 0 0 Tryz.underlying52 Tryz.underlying5 Tryz.underlying9]
    rfl
  · have hc := h.cells (g := g) (by rw [hv]; rfl)
    subst hv
    refine run_convert_bytes_back _ _ _ 5 _ _ l Tryz.underlying52 Tryz.underlying5 Tryz.underlying9 ?_
    intro j hj
    refine hc j _ ?_
    simp [Lib.byteCells, hj]
theorem ens_len_take (L : List Nat) (k : Nat) : (ens (L.take k)).length ≤ 4 * k := by
  have h1 := (ens_length_le (L.take k)).2
  have h2 : (L.take k).length ≤ k := by rw [List.length_take]; omega
  omega
set_option maxRecDepth 100000 in
set_option maxHeartbeats 1600000 in
theorem Write_any (L : List Nat) (hC : allC L) (H : Nat) (v : Value) (w : World) (hH : H ≤ w.heap.size) (hr : Rd .i64 H v (up L) w) (hl : L.length ≤ 1000000) :
    Calls Tryz.prog 67 #[v] w (StrP (ens L) w) := by
  obtain ⟨i0, hi, hz0, hz1, hz2⟩ := info_parts infoB
  have HP : Hid (∀ w', Below w.heap.size w w' → StrP (ens L) w (.returned (.string (bs (ens L)))) w') := fun w' h => ⟨rfl, h⟩
  obtain ⟨ao0, c0, rfl, hlc, hrd⟩ := hr
  have HR : Hid (∀ k (h : k < L.length) w', Below w.heap.size w w' → ∃ b o, ao0 = some ⟨b, o, none⟩ ∧ w'.cell? ⟨b, o + k, none⟩ = some (.int .i64 (L[k] : Nat))) := fun k h w' hbl => by
    obtain ⟨b, o, e, hb, hc⟩ := hrd (by rw [up_length]; omega)
    refine ⟨b, o, e, ?_⟩
    rw [hbl.cell (p := ⟨b, o + k, none⟩) (by show b < _; omega)]
    have := hc k (by rw [up_length]; exact h)
    rw [up_get] at this
    exact this
  have HSt : Hid (∀ k, (h : k < L.length) → ens (L.take (k + 1)) = ens (L.take k) ++ en L[k]) := fun k h => by
    rw [take_succ_get L k h, ens_append, ens_one]
  have HE : Hid (∀ k, L.length ≤ k → ens (L.take k) = ens L) := fun k h => ens_take_all L k h
  have HLen : Hid (∀ k, k ≤ L.length → (ens (L.take k)).length ≤ 4000000) := fun k h => by
    have := ens_len_take L k
    omega
  have HO : Hid (∀ k, (h : k < L.length) → ∀ w, Calls Tryz.prog 103 #[.int .i64 (L[k] : Nat)] w (StrP (en L[k]) w)) := fun k h w => rOne_any _ (hC _ (List.getElem_mem h)) w
  have HW : Hid (∀ k, (hk : k < L.length) → 1 ≤ (en L[k]).length ∧ (en L[k]).length ≤ 4) := fun k hk => en_length _
  have HN : Hid (Bytes w.heap.size (.slice none 0 0) (ens (L.take 0)) w) := World.ownsRow_nil _ _ _ _
  have HBR := Lib.hid (Below.refl w.heap.size w)
  rw [up_length] at hlc
  rw [up_length]
  clear hrd hC
  generalize ens L = R at *
  go_enter Tryz.func67, Tryz.ntmps67
  go_wp2
  go_loopw [3, 4] (fun v i wr => ∃ (k : Nat) (ao : Option Addr) (cv : Nat), k ≤ L.length ∧ i = .int .i64 k ∧ v = .slice ao (ens (L.take k)).length cv ∧ Hid (Bytes w.heap.size v (ens (L.take k)) wr) ∧ Hid (Below w.heap.size w wr)) (fun _ i _ => L.length - (intOf i).toNat)
  case atStart => exact ⟨0, none, 0, Nat.zero_le _, rfl, rfl, HN, HBR⟩
  case round =>
    obtain ⟨k, ao, cv, hk, rfl, rfl, hby, hbl⟩ := hrel
    have hln := HLen.out k hk
    by_cases hlt : k < L.length
    · obtain ⟨b, o, rfl, hcell⟩ := HR.out k hlt _ hbl.out
      have hown : wr.ownsRow w.heap.size 5 1 (.slice ao (ens (L.take k)).length cv) (ens (L.take k)).length (Lib.byteCells (ens (L.take k))) := hby.out
      have HOk := Lib.hid (HO.out k hlt)
      have hW := HW.out k hlt
      have HStk := Lib.hid (HSt.out k hlt)
      have hsize := hbl.out.size
      generalize L[k] = c at *
      have hsz : (bs (en c)).size = (en c).length := bs_size _
      have HSZ := Lib.hid hsz
      have hszb : (bs (en c)).size ≤ 4 := by omega
      generalize hM : ens (L.take k) = M at *
      have HM := Lib.hid hM
      clear hM hsz
      go_wp2_with fail
      refine (HOk.out _).mono ?_
      rintro e w2 ⟨rfl, hb2⟩
      have HB2 : Hid (Below w.heap.size w w2) := hbl.out.trans (hb2.mono hsize)
      have hown2 : w2.ownsRow w.heap.size 5 1 (.slice ao M.length cv) M.length (Lib.byteCells M) := owns_below hown hb2
      have hsize2 := HB2.out.size
      have HOW2 := Lib.hid hown2
      clear hb2 hown
      go_wp2_with (first
        | (at_builtin; refine Lib.wpList_append_own_string _ rfl _ _ 52 9 rfl w.heap.size 5 i0 Tryz.underlying52 Tryz.underlying9 hi hz0 hz1 hz2 _ _ _ rfl hown2 (bs (en c)) rfl (by unfold maxLen; omega) (by omega) (by omega) ?_; intro v' w3 hown' hgrow3 hnil3))
      have hb3 : Hid (Below w.heap.size w w3) := HB2.out.grown hgrow3 hsize2 (fun q hq => (HOW2.out.lt q hq).1)
      have HBY : Hid (Bytes w.heap.size v' (ens (L.take (k + 1))) w3) := by
        show Bytes _ _ _ _
        rw [HStk.out]
        unfold Bytes
        rw [byteCells_app, List.length_append, ← HSZ.out]
        exact hown'
      obtain ⟨ao2, cv2, rfl⟩ := HBY.out.form
      clear hown' hgrow3 hnil3 hown2
      go_wp2
      go_roundw
      case rel => exact ⟨k + 1, ao2, cv2, by omega, by go_num, rfl, HBY, hb3⟩
      case measure => simp [intOf]; omega
    · have he := HE.out k (by omega)
      have HCV : Hid ((convert 52 9 (.slice ao (ens (L.take k)).length cv)).run Tryz.prog wr = .ok (.string (bs R)) wr) := by
        show _ = _
        rw [hby.out.back, he]
      clear he
      generalize (ens (L.take k)).length = n at *
      have hcv2 := HCV.out
      go_wp2
      go_ret
      exact HP.out _ hbl.out

end Go.Proofs.YtaocbhfehncdcaaGreatDoor

namespace Go.Proofs.YtaocbhfehncdcaaGreatDoor
open Go.RowKit

def nuW (u : List UInt8) : Value := match brc u with
  | some x => .tuple #[.int .i32 x.1, .int .i64 (4 + ((hxt 6 u).length : Int))]
  | none => .tuple #[.int .i32 0, .int .i64 0]
def NuP (u : List UInt8) (w : World) (e : Ending) (w' : World) : Prop := e = .returned (nuW u) ∧ Below w.heap.size w w'
theorem hxt_hit {d r : List UInt8} (h1 : d.length ≤ 6) (h2 : ∀ b ∈ d, isHx b = true) : hxt 6 (d ++ 125 :: r) = d := by
  have := hxt_is 6 d.length (d ++ 125 :: r) h1 (by simp) (fun j h h' => by
    rw [List.getElem_append_left h]
    exact h2 _ (List.getElem_mem h)) (.inr (.inr ⟨by simp, by
      rw [List.getElem_append_right (Nat.le_refl _)]
      simp only [Nat.sub_self, List.getElem_cons_zero]
      decide⟩))
  rw [this, List.take_left']
  rfl
theorem vr_isC (c : Nat) : Lib.validRune (c : Int) = isC c := by
  rw [Bool.eq_iff_iff]
  simp [Lib.validRune, isC]
  omega
set_option maxRecDepth 100000 in
set_option maxHeartbeats 1000000 in
theorem numd_x (u : List UInt8) (hz : u.length ≤ 100000) (w : World) (hE : ErrAt w) : Calls Tryz.prog 64 #[.string (bs (92 :: 120 :: 123 :: u))] w (NuP u w) := by
  have H2 : Hid (∀ w, Calls Tryz.prog 96 #[.string (bs (92 :: 120 :: 123 :: u)), .string ⟨#[92, 120, 123]⟩] w fun e w' => e = .returned (.tuple #[.string (bs u), .bool true]) ∧ w = w') := fun w => cpre_hit [92, 120, 123] u w
  have HPN : Hid (brc u = none → ∀ w', Below w.heap.size w w' → NuP u w (.returned (.tuple #[.int .i32 0, .int .i64 0])) w') := fun hn w' h => ⟨by
    unfold nuW
    rw [hn], h⟩
  have HPY : Hid (∀ (c : Nat) (r d : List UInt8), brc u = some (c, r) → hxt 6 u = d → ∀ w', Below w.heap.size w w' → NuP u w (.returned (.tuple #[.int .i32 c, .int .i64 (4 + (d.length : Int))])) w') := fun c r d hn hd w' h => ⟨by
    unfold nuW
    rw [hn, hd], h⟩
  generalize bs (92 :: 120 :: 123 :: u) = s at *
  by_cases hm : (125 : UInt8) ∈ u
  · obtain ⟨d, r, hu, hd⟩ := first_at hm
    subst hu
    have HC := Lib.hid (fun w => sCut_hit 125 d r hd (by simp at hz; omega) w)
    have hsz : (bs d).size = d.length := bs_size d
    by_cases h6 : d.length ≤ 6
    · by_cases hx : d ≠ [] ∧ ∀ b ∈ d, isHx b = true
      · have HPU := Lib.hid (fun w => sParseUint_ok d hx.1 h6 hx.2 w)
        have hb := hvl_bd d 0
        have hp : 16 ^ d.length ≤ 16 ^ 6 := Nat.pow_le_pow_right (by omega) h6
        have hv : hvl 0 d ≤ 16777215 := by simp at hb hp; omega
        have hI6 : ((bs d).size : Int) ≤ 6 := by omega
        cases hci : isC (hvl 0 d)
        · have HN := Lib.hid (HPN.out (brc_miss hd (by rw [hci]; simp)))
          have HIC : Hid (∀ w, Calls Tryz.prog 99 #[.int .i32 (hvl 0 d : Nat)] w fun e w' => e = .returned (.bool false) ∧ w = w') := fun w => by
            have := Tryz.utf8_ValidRune (hvl 0 d : Nat) w
            rw [vr_isC, hci] at this
            exact this.mono fun e w' ⟨h1, h2⟩ => ⟨h1, h2.symm⟩
          clear HPN HPY hci hx hb hp hE hsz h6 hd hm hz
          generalize bs (d ++ 125 :: r) = t at *
          generalize bs d = td at *
          generalize bs r = tr at *
          generalize hvl 0 d = v at *
          go_enter Tryz.func64, Tryz.ntmps64
          go_wp2_with fail
          refine (H2.out _).mono ?_
          rintro e w' ⟨rfl, rfl⟩
          go_wp2_with fail
          refine (HC.out _).mono ?_
          rintro e w1 ⟨rfl, hb1⟩
          have HB1 := Lib.hid hb1
          clear hb1
          go_wp2_with fail
          refine (HPU.out _).mono ?_
          rintro e w2 ⟨rfl, hb2⟩
          have HB2 : Hid (Below w.heap.size w w2) := HB1.out.trans (hb2.mono HB1.out.size)
          clear hb2
          go_wp2_with fail
          refine (HIC.out _).mono ?_
          rintro e w' ⟨rfl, rfl⟩
          go_wp2
          go_ret2
          exact HN.out _ HB2.out
        · have HY := Lib.hid (HPY.out _ _ d (brc_hit (r := r) hx.1 h6 hx.2 hci) (hxt_hit h6 hx.2))
          have y1 : IntKind.i64.wrap (4 + (d.length : Int)) = 4 + (d.length : Int) := IntWalk.i64_in _ (by omega)
          have hc4 := isC_iff.1 hci
          have hv4 : ((hvl 0 d : Nat) : Int) ≤ 1114111 := by omega
          have HIC : Hid (∀ w, Calls Tryz.prog 99 #[.int .i32 (hvl 0 d : Nat)] w fun e w' => e = .returned (.bool true) ∧ w = w') := fun w => by
            have := Tryz.utf8_ValidRune (hvl 0 d : Nat) w
            rw [vr_isC, hci] at this
            exact this.mono fun e w' ⟨h1, h2⟩ => ⟨h1, h2.symm⟩
          clear HPN HPY hci hx hb hp hE h6 hd hm hz hc4
          generalize bs (d ++ 125 :: r) = t at *
          generalize bs d = td at *
          generalize bs r = tr at *
          generalize hvl 0 d = v at *
          go_enter Tryz.func64, Tryz.ntmps64
          go_wp2_with fail
          refine (H2.out _).mono ?_
          rintro e w' ⟨rfl, rfl⟩
          go_wp2_with fail
          refine (HC.out _).mono ?_
          rintro e w1 ⟨rfl, hb1⟩
          have HB1 := Lib.hid hb1
          clear hb1
          go_wp2_with fail
          refine (HPU.out _).mono ?_
          rintro e w2 ⟨rfl, hb2⟩
          have HB2 : Hid (Below w.heap.size w w2) := HB1.out.trans (hb2.mono HB1.out.size)
          clear hb2
          go_wp2_with fail
          refine (HIC.out _).mono ?_
          rintro e w' ⟨rfl, rfl⟩
          go_wp2
          go_ret2
          exact HY.out _ HB2.out
      · have HN := Lib.hid (HPN.out (brc_miss hd (fun h => hx ⟨h.1, h.2.2.1⟩)))
        have HPU := Lib.hid (fun w' (hb : Below w.heap.size w w') => sParseUint_no d h6 hx w' (hE.later hb))
        have hI6 : ((bs d).size : Int) ≤ 6 := by omega
        clear HPN HPY hx hE hsz h6 hd hm hz
        generalize bs (d ++ 125 :: r) = t at *
        generalize bs d = td at *
        generalize bs r = tr at *
        go_enter Tryz.func64, Tryz.ntmps64
        go_wp2_with fail
        refine (H2.out _).mono ?_
        rintro e w' ⟨rfl, rfl⟩
        go_wp2_with fail
        refine (HC.out _).mono ?_
        rintro e w1 ⟨rfl, hb1⟩
        have HB1 := Lib.hid hb1
        clear hb1
        go_wp2_with fail
        refine (HPU.out _ HB1.out).mono ?_
        rintro e w2 ⟨N, rfl, hb2⟩
        have HB2 : Hid (Below w.heap.size w w2) := HB1.out.trans (hb2.mono HB1.out.size)
        clear hb2
        go_wp2
        go_ret2
        exact HN.out _ HB2.out
    · have HN := Lib.hid (HPN.out (brc_miss hd (fun h => h6 h.2.1)))
      have hI6 : (6 : Int) < ((bs d).size : Int) := by omega
      clear HPN HPY hE hsz h6 hd hm hz
      generalize bs (d ++ 125 :: r) = t at *
      generalize bs d = td at *
      generalize bs r = tr at *
      go_enter Tryz.func64, Tryz.ntmps64
      go_wp2_with fail
      refine (H2.out _).mono ?_
      rintro e w' ⟨rfl, rfl⟩
      go_wp2_with fail
      refine (HC.out _).mono ?_
      rintro e w1 ⟨rfl, hb1⟩
      have HB1 := Lib.hid hb1
      clear hb1
      go_wp2
      go_ret2
      exact HN.out _ HB1.out
  · have HC := Lib.hid (fun w => sCut_miss 125 u hm w)
    have HN := Lib.hid (HPN.out (brc_none hm))
    clear HPN HPY hE hm hz
    generalize bs u = t at *
    go_enter Tryz.func64, Tryz.ntmps64
    go_wp2_with fail
    refine (H2.out _).mono ?_
    rintro e w' ⟨rfl, rfl⟩
    go_wp2_with fail
    refine (HC.out _).mono ?_
    rintro e w1 ⟨rfl, hb1⟩
    have HB1 := Lib.hid hb1
    clear hb1
    go_wp2
    go_ret2
    exact HN.out _ HB1.out
set_option maxRecDepth 100000 in
set_option maxHeartbeats 1000000 in
theorem numd_no (l : List UInt8) (hp : ([92, 120, 123] : List UInt8).isPrefixOf l = false) (hz : l.length ≤ 100000) (w : World) : Calls Tryz.prog 64 #[.string (bs l)] w fun e w' => e = .returned (.tuple #[.int .i32 0, .int .i64 0]) ∧ Below w.heap.size w w' := by
  have H1 := Lib.hid (fun w => cpre_miss l [92, 120, 123] hp w)
  rcases scut_any 125 l hz with ⟨_, hcut⟩ | ⟨d, t, _, _, hcut⟩
  all_goals (
    have HC := Lib.hid hcut
    clear hcut hz hp
    generalize bs l = s at *
    try generalize bs d = t1 at *
    try generalize bs t = t2 at *
    go_enter Tryz.func64, Tryz.ntmps64
    go_wp2_with fail
    refine (H1.out _).mono ?_
    rintro e w' ⟨rfl, rfl⟩
    go_wp2_with fail
    refine (HC.out _).mono ?_
    rintro e w2 ⟨rfl, hb⟩
    have HB := Lib.hid hb
    clear hb
    go_wp2
    go_ret2
    exact ⟨rfl, HB.out⟩)

end Go.Proofs.YtaocbhfehncdcaaGreatDoor
