/-
  The walks of the document's digits and Radix, and NumRadix. Conditions: a text of at most 2^47 bytes; the law has none.
-/
import Derived.Test.YtmlifgngdilplaaDoorRadw
import Derived.Test.YtmlifgngdilplaaDoorRows
namespace Go.Proofs.YtmlifgngdilplaaDoor
open Go.RowKit

def DigPost (o : Option Int) (w : World) (e : Ending) (w' : World) : Prop :=
  e = .returned (.tuple #[.int .i64 (o.getD 0), .bool (match o with | some n => decide (n ≤ 9007199254740992) | none => false)]) ∧ w = w'

theorem runR_nil (b n : Int) (bf : Bool) : runR b [] n bf = some n := by rw [runR]
theorem runR_usno {b n : Int} {c : UInt8} {t : List UInt8} (h : c = 95) : runR b (c :: t) n false = none := by
  rw [runR.eq_def]; show (if c = 95 then _ else _) = _; rw [if_pos h, if_pos rfl]
theorem runR_usend {b n : Int} {c : UInt8} (h : c = 95) : runR b [c] n true = none := by
  rw [runR.eq_def]; show (if c = 95 then _ else _) = _; rw [if_pos h, if_neg (by simp)]
theorem runR_usbad {b n : Int} {c d : UInt8} {t : List UInt8} (h : c = 95) (h2 : b ≤ dvb d) : runR b (c :: d :: t) n true = none := by
  rw [runR.eq_def]; show (if c = 95 then _ else _) = _; rw [if_pos h, if_neg (by simp)]; show (if b ≤ dvb d then none else _) = _; rw [if_pos h2]
theorem runR_usgo {b n : Int} {c d : UInt8} {t : List UInt8} (h : c = 95) (h2 : ¬ b ≤ dvb d) : runR b (c :: d :: t) n true = runR b (d :: t) n false := by
  rw [runR.eq_def]; show (if c = 95 then _ else _) = _; rw [if_pos h, if_neg (by simp)]; show (if b ≤ dvb d then none else _) = _; rw [if_neg h2]
theorem runR_bad {b n : Int} {c : UInt8} {t : List UInt8} {bf : Bool} (h : ¬ c = 95) (h2 : b ≤ dvb c) : runR b (c :: t) n bf = none := by
  rw [runR.eq_def]; show (if c = 95 then _ else _) = _; rw [if_neg h, if_pos h2]
theorem runR_go {b n : Int} {c : UInt8} {t : List UInt8} {bf : Bool} (h : ¬ c = 95) (h2 : ¬ b ≤ dvb c) : runR b (c :: t) n bf = runR b t (min (n * b + dvb c) 144115188075855872) true := by
  rw [runR.eq_def]; show (if c = 95 then _ else _) = _; rw [if_neg h, if_neg h2]

set_option maxRecDepth 100000 in
set_option maxHeartbeats 1600000 in
theorem rdigits_any (s : ByteArray) (b : Int) (lead : Bool) (w : World) (hs : s.size ≤ 140737488355328) (b0 : 2 ≤ b) (b1 : b ≤ 16) :
    Calls Tryd.prog 72 #[.string s, .int .i64 b, .bool lead] w (DigPost (runR b s.data.toList 0 lead) w) := by
  have HR0 : Hid (runR b (s.data.toList.drop 0) 0 lead = runR b s.data.toList 0 lead) := by
    show _ = _
    rw [List.drop_zero]
  generalize runR b s.data.toList 0 lead = RES at *
  go_enter Tryd.func72, Tryd.ntmps72
  go_wp2
  go_loop [8, 9, 10] (fun n bf i => ∃ (k : Nat) (N : Int) (B : Bool), k ≤ s.size ∧ i = .int .i64 k ∧ n = .int .i64 N ∧ bf = .bool B ∧ 0 ≤ N ∧ N ≤ 144115188075855872 ∧ Hid (runR b (s.data.toList.drop k) N B = RES)) (fun _ _ i => s.size - (intOf i).toNat)
  case atStart => exact ⟨0, 0, lead, by omega, rfl, rfl, rfl, by omega, by omega, HR0⟩
  case round =>
    obtain ⟨k, N, B, hk, rfl, rfl, rfl, n0, n1, hr⟩ := hrel
    by_cases hlt : k < s.size
    · have hst := hr.out
      rw [drop_cons s k hlt] at hst
      have hu := s[k].toNat_lt
      have u1 : (s[k].toNat : Int) ≤ 255 := by omega
      have u0 : 0 ≤ (s[k].toNat : Int) := by omega
      obtain ⟨v0, v1⟩ := dv_bd (s[k].toNat : Int)
      by_cases h95 : s[k] = 95
      · have e95 : s[k].toNat = 95 := by rw [h95]; rfl
        cases B
        · rw [runR_usno h95] at hst
          subst hst
          clear h95 hu v0 v1
          go_wp2
          go_ret2
          exact ⟨rfl, rfl⟩
        · by_cases hend : k + 1 < s.size
          · rw [drop_cons s (k + 1) hend] at hst
            have hq := s[k + 1].toNat_lt
            have HVAL := Lib.hid (fun w => value_any (s[k + 1].toNat : Int) b w (by omega) (by omega) b0 b1)
            obtain ⟨q0, q1⟩ := dv_bd (s[k + 1].toNat : Int)
            have hne : ((k : Int) + 1 == (s.size : Int)) = false := by simp; omega
            by_cases hbad : b ≤ dvb s[k + 1]
            · rw [runR_usbad h95 hbad] at hst
              subst hst
              have HV2 : Hid (val b (s[k + 1].toNat : Int) = -1) := if_neg (show ¬ dv (s[k + 1].toNat : Int) < b by have : b ≤ dv (s[k + 1].toNat : Int) := hbad; omega)
              clear h95 hu v0 v1 q0 q1 hbad hq
              go_wp2_with fail
              refine (HVAL.out _).mono ?_
              rintro e w' ⟨rfl, rfl⟩
              rw [HV2.out]
              go_wp2
              go_ret2
              exact ⟨rfl, rfl⟩
            · rw [runR_usgo h95 hbad, ← drop_cons s (k + 1) hend] at hst
              have HST := Lib.hid hst
              have HV2 : Hid (val b (s[k + 1].toNat : Int) = dv (s[k + 1].toNat : Int)) := if_pos (show dv (s[k + 1].toNat : Int) < b by have : ¬ b ≤ dv (s[k + 1].toNat : Int) := hbad; omega)
              clear h95 hu v0 v1 q1 hbad hq hst
              generalize dv (s[k + 1].toNat : Int) = V at *
              go_wp2_with fail
              refine (HVAL.out _).mono ?_
              rintro e w' ⟨rfl, rfl⟩
              rw [HV2.out]
              go_wp2
              go_round
              case rel => exact ⟨k + 1, N, false, by omega, by go_num, rfl, rfl, n0, n1, HST⟩
              case measure => simp [intOf]; omega
          · rw [List.drop_eq_nil_of_le (show s.data.toList.length ≤ k + 1 by rw [← size_list]; omega), runR_usend h95] at hst
            subst hst
            have hne : ((k : Int) + 1 == (s.size : Int)) = true := by simp; omega
            clear h95 hu v0 v1
            go_wp2
            go_ret2
            exact ⟨rfl, rfl⟩
      · have hg' : ((s[k].toNat : Int) == 95) = false := by
          simp
          intro h
          exact h95 (UInt8.toNat_inj.1 (by show s[k].toNat = 95; omega))
        have HVAL := Lib.hid (fun w => value_any (s[k].toNat : Int) b w u0 u1 b0 b1)
        by_cases hbad : b ≤ dvb s[k]
        · rw [runR_bad h95 hbad] at hst
          subst hst
          have HV2 : Hid (val b (s[k].toNat : Int) = -1) := if_neg (show ¬ dv (s[k].toNat : Int) < b by have : b ≤ dv (s[k].toNat : Int) := hbad; omega)
          clear h95 hu v0 v1 hbad
          go_wp2_with fail
          refine (HVAL.out _).mono ?_
          rintro e w' ⟨rfl, rfl⟩
          rw [HV2.out]
          go_wp2
          go_ret2
          exact ⟨rfl, rfl⟩
        · rw [runR_go h95 hbad] at hst
          have HST : Hid (runR b (s.data.toList.drop (k + 1)) (min (N * b + dv (s[k].toNat : Int)) 144115188075855872) true = RES) := hst
          have HV2 : Hid (val b (s[k].toNat : Int) = dv (s[k].toNat : Int)) := if_pos (show dv (s[k].toNat : Int) < b by have : ¬ b ≤ dv (s[k].toNat : Int) := hbad; omega)
          have hm : N * b ≤ 144115188075855872 * 16 := Int.mul_le_mul n1 b1 (by omega) (by omega)
          have hm0 : 0 ≤ N * b := Int.mul_nonneg n0 (by omega)
          have hw : IntKind.i64.wrap (N * b) = N * b := IntWalk.i64_in _ (by omega)
          clear h95 hu hbad hst
          generalize dv (s[k].toNat : Int) = V at *
          go_wp2_with fail
          refine (HVAL.out _).mono ?_
          rintro e w' ⟨rfl, rfl⟩
          rw [HV2.out]
          go_wp2
          go_round
          case rel => exact ⟨k + 1, min (N * b + V) 144115188075855872, true, by omega, by go_num, rfl, rfl, by omega, by omega, HST⟩
          case measure => simp [intOf]; omega
    · have hst := hr.out
      rw [List.drop_eq_nil_of_le (by rw [← size_list]; omega), runR_nil] at hst
      subst hst
      go_wp2
      go_ret2
      exact ⟨rfl, rfl⟩

def okD (o : Option Int) : Bool := match o with | some n => decide (n ≤ 9007199254740992) | none => false
theorem capM_ok (o : Option Int) : capM o = if okD o then some (o.getD 0) else none := by
  cases o with
  | none => rfl
  | some n =>
    unfold capM okD
    by_cases h : n ≤ 9007199254740992
    · simp [h]
    · simp [h]

def rrad (l : List UInt8) : Option Int := if l = [] then none else
  if is0 l = true then (if isX l = true then (if l.length ≤ 2 then none else capM (runR 16 (l.drop 2) 0 false)) else if isB l = true then (if l.length ≤ 2 then none else capM (runR 2 (l.drop 2) 0 false)) else capM (runR 8 (l.drop 1) 0 true)) else capM (runR 10 l 0 false)

theorem rrad_same (l : List UInt8) : runN (sbB l) (sbD l) 0 false = rrad l := by
  cases l with
  | nil => rfl
  | cons c t =>
    unfold rrad
    rw [if_neg (by simp)]
    by_cases hc : c = 48
    · subst hc
      have h3 : is0 (48 :: t) = true := by simp [is0, Lib.hasPrefix]
      rw [if_pos h3]
      unfold sbB sbD
      cases h1 : isX (48 :: t)
      · cases h2 : isB (48 :: t)
        · have e : runN 8 (48 :: t) 0 false = runN 8 t 0 true := by
            rw [runN_go (by simp) (by decide) (by decide)]
            rfl
          rw [h3]
          show runN 8 (48 :: t) 0 false = capM (runR 8 t 0 true)
          rw [e]
          exact run_same 8 (by omega) (by omega) t 0 true (by omega) (by omega) (.inl rfl)
        · show runN 2 ((48 :: t).drop 2) 0 false = (if (48 :: t).length ≤ 2 then none else capM (runR 2 ((48 :: t).drop 2) 0 false))
          by_cases hl : (48 :: t).length ≤ 2
          · rw [if_pos hl, List.drop_eq_nil_of_le hl]; rfl
          · rw [if_neg hl]
            exact run_same 2 (by omega) (by omega) _ 0 false (by omega) (by omega) (.inr (by intro h; have := List.drop_eq_nil_iff.1 h; omega))
      · show runN 16 ((48 :: t).drop 2) 0 false = (if (48 :: t).length ≤ 2 then none else capM (runR 16 ((48 :: t).drop 2) 0 false))
        by_cases hl : (48 :: t).length ≤ 2
        · rw [if_pos hl, List.drop_eq_nil_of_le hl]; rfl
        · rw [if_neg hl]
          exact run_same 16 (by omega) (by omega) _ 0 false (by omega) (by omega) (.inr (by intro h; have := List.drop_eq_nil_iff.1 h; omega))
    · have h1 : isX (c :: t) = false := by
        have e : ((48 : UInt8) == c) = false := beq_eq_false_iff_ne.2 (fun h => hc h.symm)
        simp [isX, Lib.hasPrefix, List.isPrefixOf, e]
      have h2 : isB (c :: t) = false := by
        have e : ((48 : UInt8) == c) = false := beq_eq_false_iff_ne.2 (fun h => hc h.symm)
        simp [isB, Lib.hasPrefix, List.isPrefixOf, e]
      have h3 : is0 (c :: t) = false := by
        have e : ((48 : UInt8) == c) = false := beq_eq_false_iff_ne.2 (fun h => hc h.symm)
        simp [is0, Lib.hasPrefix, List.isPrefixOf, e]
      unfold sbB sbD
      rw [h1, h2, h3]
      exact run_same 10 (by omega) (by omega) (c :: t) 0 false (by omega) (by omega) (.inr (by simp))

def RrPost (o : Option Int) (w : World) (e : Ending) (w' : World) : Prop := e = .returned (.tuple #[.int .i64 (o.getD 0), .bool o.isSome]) ∧ w = w'

theorem rRadix_empty (s : ByteArray) (w : World) (h : s.size = 0) : Calls Tryd.prog 42 #[.string s] w (RrPost none w) := by
  have hem : s.toList.isEmpty = true := by rw [isEmpty_size]; simp [h]
  clear h
  go_enter Tryd.func42, Tryd.ntmps42
  go_wp2
  go_ret2
  exact ⟨rfl, rfl⟩

set_option maxRecDepth 100000 in
set_option maxHeartbeats 400000 in
theorem rRadix_ten (s : ByteArray) (w : World) (hs : s.size ≤ 140737488355328) (h0 : 0 < s.size) (h : s[0] ≠ 48) : Calls Tryd.prog 42 #[.string s] w (RrPost (capM (runR 10 s.data.toList 0 false)) w) := by
  have hem : s.toList.isEmpty = false := by rw [isEmpty_size]; exact decide_eq_false (by omega)
  have hne : ((s[0].toNat : Int) != 48) = true := by
    have : s[0].toNat ≠ 48 := fun hh => h (UInt8.toNat_inj.1 hh)
    simp; omega
  clear h
  have H : Hid (∀ w, Calls Tryd.prog 72 #[.string (s), .int .i64 10, .bool false] w fun e w' => e = .returned (.tuple #[.int .i64 (Option.getD (runR 10 s.data.toList 0 false) 0), .bool (okD (runR 10 s.data.toList 0 false))]) ∧ w = w') := fun w => by
    have h := rdigits_any (s) 10 false w (by omega) (by omega) (by omega)
    exact h
  have HQ : Hid (capM (runR 10 s.data.toList 0 false) = if okD (runR 10 s.data.toList 0 false) then some (Option.getD (runR 10 s.data.toList 0 false) 0) else none) := capM_ok _
  generalize capM (runR 10 s.data.toList 0 false) = Q at *
  generalize Option.getD (runR 10 s.data.toList 0 false) 0 = N at *
  generalize okD (runR 10 s.data.toList 0 false) = OK at *
  go_enter Tryd.func42, Tryd.ntmps42
  go_wp2_with fail
  refine (H.out _).mono ?_
  rintro e w' ⟨rfl, rfl⟩
  cases OK
  · go_wp2
    go_ret2
    exact ⟨by rw [HQ.out]; rfl, rfl⟩
  · go_wp2
    go_ret2
    exact ⟨by rw [HQ.out]; rfl, rfl⟩

set_option maxRecDepth 100000 in
set_option maxHeartbeats 400000 in
theorem rRadix_xlong (s : ByteArray) (w : World) (hs : s.size ≤ 140737488355328) (h0 : 0 < s.size) (h : s[0] = 48) (hl : 2 < s.size) (h1 : s[1] = 120) : Calls Tryd.prog 42 #[.string s] w (RrPost (capM (runR 16 (s.data.toList.drop 2) 0 false)) w) := by
  have hem : s.toList.isEmpty = false := by rw [isEmpty_size]; exact decide_eq_false (by omega)
  have hne : ((s[0].toNat : Int) != 48) = false := by rw [h]; rfl
  have hp : (1 : Int) < (s.size : Int) := by omega
  have e1 : s[1].toNat = 120 := by rw [h1]; rfl
  have hl2 : (2 : Int) < (s.size : Int) := by omega
  clear h h1
  have H : Hid (∀ w, Calls Tryd.prog 72 #[.string (s.extract 2 s.size), .int .i64 16, .bool false] w fun e w' => e = .returned (.tuple #[.int .i64 (Option.getD (runR 16 (s.data.toList.drop 2) 0 false) 0), .bool (okD (runR 16 (s.data.toList.drop 2) 0 false))]) ∧ w = w') := fun w => by
    have h := rdigits_any (s.extract 2 s.size) 16 false w (by rw [Lib.size_eq, Lib.extract_to_end, List.length_drop, ← size_list]; omega) (by omega) (by omega)
    rw [Lib.extract_to_end] at h
    exact h
  have HQ : Hid (capM (runR 16 (s.data.toList.drop 2) 0 false) = if okD (runR 16 (s.data.toList.drop 2) 0 false) then some (Option.getD (runR 16 (s.data.toList.drop 2) 0 false) 0) else none) := capM_ok _
  generalize capM (runR 16 (s.data.toList.drop 2) 0 false) = Q at *
  generalize Option.getD (runR 16 (s.data.toList.drop 2) 0 false) 0 = N at *
  generalize okD (runR 16 (s.data.toList.drop 2) 0 false) = OK at *
  go_enter Tryd.func42, Tryd.ntmps42
  go_wp2_with fail
  refine (H.out _).mono ?_
  rintro e w' ⟨rfl, rfl⟩
  cases OK
  · go_wp2
    go_ret2
    exact ⟨by rw [HQ.out]; rfl, rfl⟩
  · go_wp2
    go_ret2
    exact ⟨by rw [HQ.out]; rfl, rfl⟩

set_option maxRecDepth 100000 in
set_option maxHeartbeats 400000 in
theorem rRadix_xshort (s : ByteArray) (w : World) (hs : s.size ≤ 140737488355328) (h0 : 0 < s.size) (h : s[0] = 48) (hl : 1 < s.size) (hl0 : s.size ≤ 2) (h1 : s[1] = 120) : Calls Tryd.prog 42 #[.string s] w (RrPost none w) := by
  have hem : s.toList.isEmpty = false := by rw [isEmpty_size]; exact decide_eq_false (by omega)
  have hne : ((s[0].toNat : Int) != 48) = false := by rw [h]; rfl
  have hp : (1 : Int) < (s.size : Int) := by omega
  have e1 : s[1].toNat = 120 := by rw [h1]; rfl
  have hl2 : decide ((2 : Int) < (s.size : Int)) = false := by simp; omega
  clear h h1 hl0
  have H : Hid (∀ w, Calls Tryd.prog 72 #[.string (s.extract 2 s.size), .int .i64 16, .bool false] w fun e w' => e = .returned (.tuple #[.int .i64 (Option.getD (runR 16 (s.data.toList.drop 2) 0 false) 0), .bool (okD (runR 16 (s.data.toList.drop 2) 0 false))]) ∧ w = w') := fun w => by
    have h := rdigits_any (s.extract 2 s.size) 16 false w (by rw [Lib.size_eq, Lib.extract_to_end, List.length_drop, ← size_list]; omega) (by omega) (by omega)
    rw [Lib.extract_to_end] at h
    exact h
  have HQ : Hid (capM (runR 16 (s.data.toList.drop 2) 0 false) = if okD (runR 16 (s.data.toList.drop 2) 0 false) then some (Option.getD (runR 16 (s.data.toList.drop 2) 0 false) 0) else none) := capM_ok _
  generalize capM (runR 16 (s.data.toList.drop 2) 0 false) = Q at *
  generalize Option.getD (runR 16 (s.data.toList.drop 2) 0 false) 0 = N at *
  generalize okD (runR 16 (s.data.toList.drop 2) 0 false) = OK at *
  go_enter Tryd.func42, Tryd.ntmps42
  go_wp2_with fail
  refine (H.out _).mono ?_
  rintro e w' ⟨rfl, rfl⟩
  cases OK
  · go_wp2
    go_ret2
    exact ⟨rfl, rfl⟩
  · go_wp2
    go_ret2
    exact ⟨rfl, rfl⟩

set_option maxRecDepth 100000 in
set_option maxHeartbeats 400000 in
theorem rRadix_blong (s : ByteArray) (w : World) (hs : s.size ≤ 140737488355328) (h0 : 0 < s.size) (h : s[0] = 48) (hl : 2 < s.size) (h1 : s[1] = 98) : Calls Tryd.prog 42 #[.string s] w (RrPost (capM (runR 2 (s.data.toList.drop 2) 0 false)) w) := by
  have hem : s.toList.isEmpty = false := by rw [isEmpty_size]; exact decide_eq_false (by omega)
  have hne : ((s[0].toNat : Int) != 48) = false := by rw [h]; rfl
  have hp : (1 : Int) < (s.size : Int) := by omega
  have e1 : s[1].toNat = 98 := by rw [h1]; rfl
  have hl2 : (2 : Int) < (s.size : Int) := by omega
  clear h h1
  have H : Hid (∀ w, Calls Tryd.prog 72 #[.string (s.extract 2 s.size), .int .i64 2, .bool false] w fun e w' => e = .returned (.tuple #[.int .i64 (Option.getD (runR 2 (s.data.toList.drop 2) 0 false) 0), .bool (okD (runR 2 (s.data.toList.drop 2) 0 false))]) ∧ w = w') := fun w => by
    have h := rdigits_any (s.extract 2 s.size) 2 false w (by rw [Lib.size_eq, Lib.extract_to_end, List.length_drop, ← size_list]; omega) (by omega) (by omega)
    rw [Lib.extract_to_end] at h
    exact h
  have HQ : Hid (capM (runR 2 (s.data.toList.drop 2) 0 false) = if okD (runR 2 (s.data.toList.drop 2) 0 false) then some (Option.getD (runR 2 (s.data.toList.drop 2) 0 false) 0) else none) := capM_ok _
  generalize capM (runR 2 (s.data.toList.drop 2) 0 false) = Q at *
  generalize Option.getD (runR 2 (s.data.toList.drop 2) 0 false) 0 = N at *
  generalize okD (runR 2 (s.data.toList.drop 2) 0 false) = OK at *
  go_enter Tryd.func42, Tryd.ntmps42
  go_wp2_with fail
  refine (H.out _).mono ?_
  rintro e w' ⟨rfl, rfl⟩
  cases OK
  · go_wp2
    go_ret2
    exact ⟨by rw [HQ.out]; rfl, rfl⟩
  · go_wp2
    go_ret2
    exact ⟨by rw [HQ.out]; rfl, rfl⟩

set_option maxRecDepth 100000 in
set_option maxHeartbeats 400000 in
theorem rRadix_bshort (s : ByteArray) (w : World) (hs : s.size ≤ 140737488355328) (h0 : 0 < s.size) (h : s[0] = 48) (hl : 1 < s.size) (hl0 : s.size ≤ 2) (h1 : s[1] = 98) : Calls Tryd.prog 42 #[.string s] w (RrPost none w) := by
  have hem : s.toList.isEmpty = false := by rw [isEmpty_size]; exact decide_eq_false (by omega)
  have hne : ((s[0].toNat : Int) != 48) = false := by rw [h]; rfl
  have hp : (1 : Int) < (s.size : Int) := by omega
  have e1 : s[1].toNat = 98 := by rw [h1]; rfl
  have hl2 : decide ((2 : Int) < (s.size : Int)) = false := by simp; omega
  clear h h1 hl0
  have H : Hid (∀ w, Calls Tryd.prog 72 #[.string (s.extract 2 s.size), .int .i64 2, .bool false] w fun e w' => e = .returned (.tuple #[.int .i64 (Option.getD (runR 2 (s.data.toList.drop 2) 0 false) 0), .bool (okD (runR 2 (s.data.toList.drop 2) 0 false))]) ∧ w = w') := fun w => by
    have h := rdigits_any (s.extract 2 s.size) 2 false w (by rw [Lib.size_eq, Lib.extract_to_end, List.length_drop, ← size_list]; omega) (by omega) (by omega)
    rw [Lib.extract_to_end] at h
    exact h
  have HQ : Hid (capM (runR 2 (s.data.toList.drop 2) 0 false) = if okD (runR 2 (s.data.toList.drop 2) 0 false) then some (Option.getD (runR 2 (s.data.toList.drop 2) 0 false) 0) else none) := capM_ok _
  generalize capM (runR 2 (s.data.toList.drop 2) 0 false) = Q at *
  generalize Option.getD (runR 2 (s.data.toList.drop 2) 0 false) 0 = N at *
  generalize okD (runR 2 (s.data.toList.drop 2) 0 false) = OK at *
  go_enter Tryd.func42, Tryd.ntmps42
  go_wp2_with fail
  refine (H.out _).mono ?_
  rintro e w' ⟨rfl, rfl⟩
  cases OK
  · go_wp2
    go_ret2
    exact ⟨rfl, rfl⟩
  · go_wp2
    go_ret2
    exact ⟨rfl, rfl⟩

set_option maxRecDepth 100000 in
set_option maxHeartbeats 400000 in
theorem rRadix_one (s : ByteArray) (w : World) (hs : s.size ≤ 140737488355328) (h0 : 0 < s.size) (h : s[0] = 48) (hl : s.size = 1) : Calls Tryd.prog 42 #[.string s] w (RrPost (capM (runR 8 (s.data.toList.drop 1) 0 true)) w) := by
  have hem : s.toList.isEmpty = false := by rw [isEmpty_size]; exact decide_eq_false (by omega)
  have hne : ((s[0].toNat : Int) != 48) = false := by rw [h]; rfl
  have hl2 : ((s.size : Int)) ≤ 1 := by omega
  clear h hl
  have H : Hid (∀ w, Calls Tryd.prog 72 #[.string (s.extract 1 s.size), .int .i64 8, .bool true] w fun e w' => e = .returned (.tuple #[.int .i64 (Option.getD (runR 8 (s.data.toList.drop 1) 0 true) 0), .bool (okD (runR 8 (s.data.toList.drop 1) 0 true))]) ∧ w = w') := fun w => by
    have h := rdigits_any (s.extract 1 s.size) 8 true w (by rw [Lib.size_eq, Lib.extract_to_end, List.length_drop, ← size_list]; omega) (by omega) (by omega)
    rw [Lib.extract_to_end] at h
    exact h
  have HQ : Hid (capM (runR 8 (s.data.toList.drop 1) 0 true) = if okD (runR 8 (s.data.toList.drop 1) 0 true) then some (Option.getD (runR 8 (s.data.toList.drop 1) 0 true) 0) else none) := capM_ok _
  generalize capM (runR 8 (s.data.toList.drop 1) 0 true) = Q at *
  generalize Option.getD (runR 8 (s.data.toList.drop 1) 0 true) 0 = N at *
  generalize okD (runR 8 (s.data.toList.drop 1) 0 true) = OK at *
  go_enter Tryd.func42, Tryd.ntmps42
  go_wp2_with fail
  refine (H.out _).mono ?_
  rintro e w' ⟨rfl, rfl⟩
  cases OK
  · go_wp2
    go_ret2
    exact ⟨by rw [HQ.out]; rfl, rfl⟩
  · go_wp2
    go_ret2
    exact ⟨by rw [HQ.out]; rfl, rfl⟩

set_option maxRecDepth 100000 in
set_option maxHeartbeats 400000 in
theorem rRadix_oct (s : ByteArray) (w : World) (hs : s.size ≤ 140737488355328) (h0 : 0 < s.size) (h : s[0] = 48) (hl : 1 < s.size) (h1 : s[1] ≠ 120) (h2 : s[1] ≠ 98) : Calls Tryd.prog 42 #[.string s] w (RrPost (capM (runR 8 (s.data.toList.drop 1) 0 true)) w) := by
  have hem : s.toList.isEmpty = false := by rw [isEmpty_size]; exact decide_eq_false (by omega)
  have hne : ((s[0].toNat : Int) != 48) = false := by rw [h]; rfl
  have hp : (1 : Int) < (s.size : Int) := by omega
  have e1 : ((s[1].toNat : Int) == 120) = false := by simp; intro hh; exact h1 (UInt8.toNat_inj.1 (by show s[1].toNat = 120; omega))
  have e2 : ((s[1].toNat : Int) == 98) = false := by simp; intro hh; exact h2 (UInt8.toNat_inj.1 (by show s[1].toNat = 98; omega))
  clear h h1 h2
  have H : Hid (∀ w, Calls Tryd.prog 72 #[.string (s.extract 1 s.size), .int .i64 8, .bool true] w fun e w' => e = .returned (.tuple #[.int .i64 (Option.getD (runR 8 (s.data.toList.drop 1) 0 true) 0), .bool (okD (runR 8 (s.data.toList.drop 1) 0 true))]) ∧ w = w') := fun w => by
    have h := rdigits_any (s.extract 1 s.size) 8 true w (by rw [Lib.size_eq, Lib.extract_to_end, List.length_drop, ← size_list]; omega) (by omega) (by omega)
    rw [Lib.extract_to_end] at h
    exact h
  have HQ : Hid (capM (runR 8 (s.data.toList.drop 1) 0 true) = if okD (runR 8 (s.data.toList.drop 1) 0 true) then some (Option.getD (runR 8 (s.data.toList.drop 1) 0 true) 0) else none) := capM_ok _
  generalize capM (runR 8 (s.data.toList.drop 1) 0 true) = Q at *
  generalize Option.getD (runR 8 (s.data.toList.drop 1) 0 true) 0 = N at *
  generalize okD (runR 8 (s.data.toList.drop 1) 0 true) = OK at *
  go_enter Tryd.func42, Tryd.ntmps42
  go_wp2_with fail
  refine (H.out _).mono ?_
  rintro e w' ⟨rfl, rfl⟩
  cases OK
  · go_wp2
    go_ret2
    exact ⟨by rw [HQ.out]; rfl, rfl⟩
  · go_wp2
    go_ret2
    exact ⟨by rw [HQ.out]; rfl, rfl⟩

theorem rRadix_any (s : ByteArray) (w : World) (hs : s.size ≤ 140737488355328) : Calls Tryd.prog 42 #[.string s] w (RrPost (rrad s.data.toList) w) := by
  by_cases hz : s.size = 0
  · have hl : s.data.toList = [] := List.eq_nil_of_length_eq_zero hz
    rw [hl]
    exact rRadix_empty s w hz
  · have h0 : 0 < s.size := by omega
    have hl : s.data.toList = s[0] :: s.data.toList.drop 1 := drop_cons s 0 h0
    have hne : ¬ (s.data.toList = []) := by rw [hl]; simp
    have h00 : is0 s.data.toList = (s[0] == 48) := by rw [hl]; simp [is0, Lib.hasPrefix, List.isPrefixOf]; exact BEq.comm
    unfold rrad
    rw [if_neg hne, h00]
    by_cases h : s[0] = 48
    · rw [if_pos (by rw [h]; rfl)]
      by_cases h1 : 1 < s.size
      · have hl2 : s.data.toList = s[0] :: s[1] :: s.data.toList.drop 2 := by
          have e := drop_cons s 1 h1
          rw [e] at hl
          exact hl
        have hX : isX s.data.toList = (s[1] == 120) := by rw [hl2, h]; simp [isX, Lib.hasPrefix, List.isPrefixOf]; exact BEq.comm
        have hB : isB s.data.toList = (s[1] == 98) := by rw [hl2, h]; simp [isB, Lib.hasPrefix, List.isPrefixOf]; exact BEq.comm
        rw [hX, hB]
        by_cases hx : s[1] = 120
        · rw [if_pos (by rw [hx]; rfl)]
          by_cases h2 : 2 < s.size
          · rw [if_neg (by rw [← size_list]; omega)]
            exact rRadix_xlong s w hs h0 h h2 hx
          · rw [if_pos (by rw [← size_list]; omega)]
            exact rRadix_xshort s w hs h0 h h1 (by omega) hx
        · rw [if_neg (by simpa using hx)]
          by_cases hb : s[1] = 98
          · rw [if_pos (by rw [hb]; rfl)]
            by_cases h2 : 2 < s.size
            · rw [if_neg (by rw [← size_list]; omega)]
              exact rRadix_blong s w hs h0 h h2 hb
            · rw [if_pos (by rw [← size_list]; omega)]
              exact rRadix_bshort s w hs h0 h h1 (by omega) hb
          · rw [if_neg (by simpa using hb)]
            exact rRadix_oct s w hs h0 h h1 hx hb
      · have hd1 : s.data.toList.drop 1 = [] := List.drop_eq_nil_of_le (by rw [← size_list]; omega)
        have hX : isX s.data.toList = false := by rw [hl, hd1]; simp [isX, Lib.hasPrefix, List.isPrefixOf]
        have hB : isB s.data.toList = false := by rw [hl, hd1]; simp [isB, Lib.hasPrefix, List.isPrefixOf]
        rw [hX, hB]
        exact rRadix_one s w hs h0 h (by omega)
    · rw [if_neg (by simpa using h)]
      exact rRadix_ten s w hs h0 h

set_option maxHeartbeats 400000 in
theorem numRadix_walk (s : ByteArray) (_hs0 : s.size ≤ maxLen) (w : World) : Calls Tryd.prog 12 #[.string s] w (KnownPost w) := by
  clear _hs0
  by_cases hl : 16384 < s.size
  · have HD := Lib.hid (show decide (16384 < (s.size : Int)) = true by simp; omega)
    go_enter Tryd.func12, Tryd.ntmps12
    go_wp2_with fail
    refine (long_any s _).mono ?_
    rintro e w' ⟨rfl, rfl⟩
    rw [HD.out]
    go_wp2_with fail
    refine (known_any _).mono ?_
    rintro e w3 ⟨rfl, hb3⟩
    have HB3 := Lib.hid hb3
    clear hb3
    go_wp2
    go_ret
    exact ⟨rfl, HB3.out⟩
  · have HD := Lib.hid (show decide (16384 < (s.size : Int)) = false by simp; omega)
    have hs : s.size ≤ 140737488355328 := by omega
    have h1 := fun w => Radix_any s w hs
    rw [rrad_same] at h1
    have H1 : Hid (∀ w, Calls Tryd.prog 41 #[.string s] w fun e w' => e = .returned (.tuple #[.int .i64 ((rrad s.data.toList).getD 0), .bool (rrad s.data.toList).isSome]) ∧ Below w.heap.size w w') := h1
    have H2 : Hid (∀ w, Calls Tryd.prog 42 #[.string s] w fun e w' => e = .returned (.tuple #[.int .i64 ((rrad s.data.toList).getD 0), .bool (rrad s.data.toList).isSome]) ∧ w = w') := fun w => rRadix_any s w hs
    clear h1
    generalize (rrad s.data.toList).getD 0 = N at *
    generalize (rrad s.data.toList).isSome = B at *
    go_enter Tryd.func12, Tryd.ntmps12
    go_wp2_with fail
    refine (long_any s _).mono ?_
    rintro e w' ⟨rfl, rfl⟩
    rw [HD.out]
    go_wp2_with fail
    refine (H1.out _).mono ?_
    rintro e w1 ⟨rfl, hb1⟩
    have HB1 := Lib.hid hb1
    clear hb1
    go_wp2_with fail
    refine (H2.out _).mono ?_
    rintro e w' ⟨rfl, rfl⟩
    go_wp2_with fail
    refine (known_any _).mono ?_
    rintro e w3 ⟨rfl, hb3⟩
    have HB3 : Hid (Below w.heap.size w w3) := HB1.out.trans (hb3.mono HB1.out.size)
    clear hb3
    go_wp2
    go_ret
    exact ⟨rfl, HB3.out⟩

end Go.Proofs.YtmlifgngdilplaaDoor
