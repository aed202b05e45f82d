/-
  The document's OfText: the number of a text, as num's. Conditions: a text of at most 2^47 bytes.
-/
import Derived.Test.YtmlifgngdilplaaDoorLooks
namespace Go.Proofs.YtmlifgngdilplaaDoor
open Go.RowKit

def raw (l : List UInt8) : Int := l.foldl (fun n c => 10 * n + ((c.toNat : Int) - 48)) 0
theorem raw_snoc (l : List UInt8) (c : UInt8) : raw (l ++ [c]) = 10 * raw l + ((c.toNat : Int) - 48) := by simp [raw]
theorem raw_grow : ∀ (t : List UInt8) (n : Int), 0 ≤ n → (∀ c, c ∈ t → dig c = true) → n ≤ t.foldl (fun n c => 10 * n + ((c.toNat : Int) - 48)) n
  | [], n, _, _ => Int.le_refl n
  | c :: t, n, h0, h => by
    have hc := h c (by simp)
    simp only [dig, digB, Bool.and_eq_true, decide_eq_true_eq] at hc
    have := raw_grow t (10 * n + ((c.toNat : Int) - 48)) (by omega) (fun d hd => h d (by simp [hd]))
    simp only [List.foldl_cons]
    omega
theorem dval_raw_gen : ∀ (t : List UInt8) (n m : Int), 0 ≤ n → m = min n 9007199254740992 → (∀ c, c ∈ t → dig c = true) →
    t.foldl (fun n c => min (n * 10 + ((c.toNat : Int) - 48)) 9007199254740992) m = min (t.foldl (fun n c => 10 * n + ((c.toNat : Int) - 48)) n) 9007199254740992
  | [], n, m, _, h, _ => h
  | c :: t, n, m, h0, h, hd => by
    have hc := hd c (by simp)
    simp only [dig, digB, Bool.and_eq_true, decide_eq_true_eq] at hc
    simp only [List.foldl_cons]
    exact dval_raw_gen t _ _ (by omega) (by omega) (fun d hd' => hd d (by simp [hd']))
theorem dval_raw (l : List UInt8) (h : ∀ c, c ∈ l → dig c = true) : dval l = min (raw l) 9007199254740992 := dval_raw_gen l 0 0 (by omega) (by omega) h
theorem take_dig (l : List UInt8) (k : Nat) (h : k ≤ ldig l) : ∀ c, c ∈ l.take k → dig c = true := by
  intro c hc
  obtain ⟨j, hj, he⟩ := List.mem_iff_getElem.1 hc
  rw [List.length_take] at hj
  refine ldig_dig l j c (by omega) ?_
  rw [← he, List.getElem_take, List.getElem?_eq_getElem]
theorem raw_nonneg (l : List UInt8) (h : ∀ c, c ∈ l → dig c = true) : 0 ≤ raw l := raw_grow l 0 (by omega) h
theorem raw_mono (l : List UInt8) (k m : Nat) (hkm : k ≤ m) (hm : m ≤ ldig l) : raw (l.take k) ≤ raw (l.take m) := by
  have e : l.take m = l.take k ++ (l.take m).drop k := by
    have h := (List.take_append_drop k (l.take m)).symm
    rwa [List.take_take, Nat.min_eq_left hkm] at h
  have h2 := raw_grow ((l.take m).drop k) (raw (l.take k)) (raw_nonneg _ (take_dig l k (by omega))) (fun c hc => take_dig l m hm c (List.mem_of_mem_drop hc))
  rw [e]
  unfold raw at *
  rw [List.foldl_append]
  exact h2

theorem minus_signed {l : List UInt8} (h : minus l = true) : signed l = true := by
  cases l with
  | nil => simp [minus] at h
  | cons c l => simp [minus] at h; simp [signed, h]
theorem minus_no (l : List UInt8) (h : 0 < hI l → l[hI l - 1]? ≠ some 45) : minus (skipL l) = false := by
  rw [skipL_drop]
  cases hm : minus (l.drop (nb l))
  · rfl
  · have hs := minus_signed hm
    have hi : hI l = nb l + 1 := by unfold hI; rw [hs]; rfl
    have h2 := h (by omega)
    rw [hi, Nat.add_sub_cancel] at h2
    exfalso
    apply h2
    rw [List.drop_eq_getElem?_toList_append] at hm
    cases hc : l[nb l]? with
    | none =>
      have : l.drop (nb l + 1) = [] := by
        have := List.getElem?_eq_none_iff.1 hc
        exact List.drop_eq_nil_of_le (by omega)
      rw [hc, this] at hm
      simp [minus] at hm
    | some c =>
      rw [hc] at hm
      have : c = 45 := by simpa [minus] using hm
      rw [this]
theorem minus_yes (l : List UInt8) (hh : 0 < hI l) (h : l[hI l - 1]? = some 45) : minus (skipL l) = true := by
  rw [skipL_drop]
  by_cases hs : signed (l.drop (nb l)) = true
  · have hi : hI l = nb l + 1 := by unfold hI; rw [hs]; rfl
    rw [hi, Nat.add_sub_cancel] at h
    rw [List.drop_eq_getElem?_toList_append, h]
    rfl
  · have hi : hI l = nb l := by unfold hI; rw [if_neg hs]; rfl
    rw [hi] at h hh
    exfalso
    have hb : blk 45 = true := by
      have : ∀ (p : UInt8 → Bool) (l : List UInt8) (j : Nat) (c : UInt8), j < (l.takeWhile p).length → l[j]? = some c → p c = true := by
        intro p l
        induction l with
        | nil => intro j c hj; simp at hj
        | cons d l ih =>
          intro j c hj hc
          rw [List.takeWhile_cons] at hj
          split at hj
          · cases j with
            | zero => simp at hc; subst hc; assumption
            | succ j => exact ih j c (by simpa using hj) (by simpa using hc)
          · simp at hj
      exact this blk l _ 45 (show nb l - 1 < nb l by omega) h
    exact absurd hb (by decide)

set_option maxHeartbeats 1600000 in
theorem OfText_any (s : ByteArray) (w : World) (hs : s.size ≤ 140737488355328) : Calls Tryd.prog 51 #[.string s] w fun e w' => e = .returned (.int .i64 (numOf s.data.toList)) ∧ w = w' := by
  have hh := head_any s w hs
  have hkle := hK_le s.data.toList
  rw [← size_list] at hkle
  have hile := hI_le s.data.toList
  rw [← size_list] at hile
  have HH : Hid (Calls Tryd.prog 56 #[.string s] w fun e w' => e = .returned (.tuple #[.int .i64 (hI s.data.toList), .int .i64 (hK s.data.toList)]) ∧ w = w') := hh
  clear hh
  have hkd : hK s.data.toList = hI s.data.toList + ldig (s.data.toList.drop (hI s.data.toList)) := rfl
  have HNO := Lib.hid (minus_no s.data.toList)
  have HYES := Lib.hid (minus_yes s.data.toList)
  have HNUM : Hid (numOf s.data.toList = if minus (skipL s.data.toList) then -dval ((s.data.toList.drop (hI s.data.toList)).take (ldig (s.data.toList.drop (hI s.data.toList)))) else dval ((s.data.toList.drop (hI s.data.toList)).take (ldig (s.data.toList.drop (hI s.data.toList))))) := by
    show _ = _
    unfold numOf
    rw [cutL_drop]
  generalize numOf s.data.toList = N at *
  generalize hI s.data.toList = I at *
  generalize hK s.data.toList = K at *
  generalize minus (skipL s.data.toList) = M at *
  have HDR := Lib.hid (fun k h => dval_raw ((s.data.toList.drop I).take k) (take_dig (s.data.toList.drop I) k h))
  have HNN := Lib.hid (fun k h => raw_nonneg ((s.data.toList.drop I).take k) (take_dig (s.data.toList.drop I) k h))
  have HMO := Lib.hid (fun k => raw_mono (s.data.toList.drop I) k (ldig (s.data.toList.drop I)))
  have HDG := Lib.hid (ldig_dig (s.data.toList.drop I))
  generalize hDe : ldig (s.data.toList.drop I) = D at *
  clear hDe
  have HKD := Lib.hid hkd
  have hIK : I + D ≤ s.size := by omega
  clear hkd
  go_enter Tryd.func51, Tryd.ntmps51
  go_wp2_with fail
  refine (HH.out).mono ?_
  rintro e w' ⟨rfl, rfl⟩
  go_wp2_with fail
  go_loop [5, 6] (fun n i => ∃ m : Nat, m ≤ D ∧ i = .int .i64 ((I + m : Nat) : Int) ∧ n = .int .i64 (raw ((s.data.toList.drop I).take m)) ∧ raw ((s.data.toList.drop I).take m) ≤ 90071992547409929) (fun _ i => K - (intOf i).toNat)
  case atStart => exact ⟨0, by omega, by go_num, rfl, by simp [raw]⟩
  case round =>
    obtain ⟨m, hm, rfl, rfl, hbd⟩ := hrel
    have hnn := HNN.out m hm
    by_cases hmore : m < D ∧ raw ((s.data.toList.drop I).take m) ≤ 9007199254740992
    · obtain ⟨hlt, hle⟩ := hmore
      have hlt2 : I + m < s.size := by omega
      have hlt3 : I + m < K := by have := HKD.out; omega
      have hx : (s.data.toList.drop I)[m]? = some s[I + m] := by rw [List.getElem?_drop]; exact getElem_list s (I + m) hlt2
      have hc := HDG.out m _ hlt hx
      simp only [dig, digB, Bool.and_eq_true, decide_eq_true_eq] at hc
      obtain ⟨c1, c2⟩ := hc
      have HS : Hid (raw ((s.data.toList.drop I).take (m + 1)) = 10 * raw ((s.data.toList.drop I).take m) + ((s[I + m].toNat : Int) - 48)) := by
        show _ = _
        rw [← raw_snoc, List.take_add_one, hx]
        rfl
      clear hx
      generalize raw ((s.data.toList.drop I).take m) = V at *
      generalize hq : I + m = q at *
      have HQ := Lib.hid hq
      clear hq
      go_wp2
      go_round
      case rel => exact ⟨m + 1, by omega, by have := HQ.out; rw [show I + (m + 1) = q + 1 by omega]; go_num, by rw [HS.out], by rw [HS.out]; omega⟩
      case measure => simp [intOf]; omega
    · have HV : Hid (min (raw ((s.data.toList.drop I).take m)) 9007199254740992 = dval ((s.data.toList.drop I).take D)) := by
        show _ = _
        rw [HDR.out D (Nat.le_refl _)]
        by_cases hmd : m < D
        · have h1 : 9007199254740992 < raw ((s.data.toList.drop I).take m) := by
            by_cases hh : raw ((s.data.toList.drop I).take m) ≤ 9007199254740992
            · exact absurd ⟨hmd, hh⟩ hmore
            · omega
          have h2 := HMO.out m (by omega) (Nat.le_refl _)
          omega
        · have : m = D := by omega
          rw [this]
      have hcase : ¬ (I + m < K) ∨ (I + m < K ∧ 9007199254740992 < raw ((s.data.toList.drop I).take m)) := by
        have := HKD.out
        by_cases hmd : m < D
        · right
          by_cases hh : raw ((s.data.toList.drop I).take m) ≤ 9007199254740992
          · exact absurd ⟨hmd, hh⟩ hmore
          · omega
        · left; omega
      clear hmore
      generalize raw ((s.data.toList.drop I).take m) = V at *
      generalize dval ((s.data.toList.drop I).take D) = T at *
      generalize I + m = q at *
      have hT1 : 0 ≤ T := by have := HV.out; omega
      have hT2 : T ≤ 9007199254740992 := by have := HV.out; omega
      have HNUM2 := HNUM.out
      by_cases hI0 : 0 < I
      · have hI1 : I - 1 < s.size := by omega
        have hsub : (I : Int) - 1 = ((I - 1 : Nat) : Int) := by omega
        by_cases h45 : s[I - 1] = 45
        · have hM := HYES.out hI0 (by rw [getElem_list s (I - 1) hI1, h45])
          have HF : Hid (N = -T) := by show _ = _; rw [HNUM2, hM]; rfl
          have e45 : s[I - 1].toNat = 45 := by rw [h45]; rfl
          clear hM HNUM2 HNUM h45
          rcases hcase with hc | ⟨hc, hc2⟩
          all_goals
            go_wp2
            go_ret
            exact ⟨ret_int (by rw [HF.out, ← HV.out]), rfl⟩
        · have hM := HNO.out (fun _ => by rw [getElem_list s (I - 1) hI1]; intro hh; exact h45 (by simpa using hh))
          have HF : Hid (N = T) := by show _ = _; rw [HNUM2, hM]; rfl
          have n45 : ((s[I - 1].toNat : Int) == 45) = false := by simp; intro h; exact h45 (UInt8.toNat_inj.1 (by show s[I - 1].toNat = 45; omega))
          clear hM HNUM2 HNUM h45
          rcases hcase with hc | ⟨hc, hc2⟩
          all_goals
            go_wp2
            go_ret
            exact ⟨ret_int (by rw [HF.out, ← HV.out]), rfl⟩
      · have hM := HNO.out (fun h => absurd h hI0)
        have HF : Hid (N = T) := by show _ = _; rw [HNUM2, hM]; rfl
        clear hM HNUM2 HNUM
        rcases hcase with hc | ⟨hc, hc2⟩
        all_goals
          go_wp2
          go_ret
          exact ⟨ret_int (by rw [HF.out, ← HV.out]), rfl⟩

end Go.Proofs.YtmlifgngdilplaaDoor
