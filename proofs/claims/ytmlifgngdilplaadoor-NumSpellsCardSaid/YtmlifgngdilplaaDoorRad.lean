/-
  num.Radix and the document's Radix: the same number of a whole text, and whether there is one. Conditions: a text of at most 2^47 bytes.
-/
import Derived.Test.YtmlifgngdilplaaDoorLooks
namespace Go.Proofs.YtmlifgngdilplaaDoor
open Go.RowKit

theorem bytes_made (s : ByteArray) (w : World) : ∃ W1 cap, (convert 9 74 (.string s)).run Tryd.prog w = .ok (.slice (some ⟨w.heap.size, 0, none⟩) s.size cap) W1 ∧ Below w.heap.size w W1 ∧ w.heap.size < W1.heap.size ∧
    (∀ j (h : j < s.size), W1.cell? ⟨w.heap.size, j, none⟩ = some (.int .u8 (s[j].toNat : Int))) ∧ (∀ j, j < s.size → W1.frozen? ⟨w.heap.size, j, none⟩ = false) := by
  have h := run_bytes_of_string (P := Tryd.prog) w 9 74 5 s Tryd.underlying9 Tryd.underlying74 Tryd.underlying5
  have hsz : s.size ≤ (bytesRow s (grownCap w s.size 0 5)).size := by
    unfold bytesRow
    rw [Array.size_append, Array.size_map]
    exact Nat.le_add_right _ _
  refine ⟨_, _, h, ?_, by simp, ?_, ?_⟩
  · exact ((Below.refl _ w).drew).alloc (Nat.le_refl _) _
  · intro j hj
    have hw : w.heap.size = w.drew.heap.size := rfl
    rw [hw, World.cell?_alloc_mark, bytesRow_at s _ j hj]
    rfl
  · intro j hj
    have hw : w.heap.size = w.drew.heap.size := rfl
    rw [hw, World.frozen?_alloc_mark]
    simp
    omega

/-- The value of a digit of any base; 99 for other bytes. -/
def dv (c : Int) : Int := if 48 ≤ c ∧ c ≤ 57 then c - 48 else if 97 ≤ c ∧ c ≤ 102 then c - 97 + 10 else if 65 ≤ c ∧ c ≤ 70 then c - 65 + 10 else 99

theorem digitOf_any (c : Int) (w : World) (h0 : 0 ≤ c) (h1 : c ≤ 255) : Calls Tryd.prog 71 #[.int .u8 c] w fun e w' => e = .returned (.int .i64 (dv c)) ∧ w = w' := by
  by_cases hd : 48 ≤ c ∧ c ≤ 57
  · have HD := Lib.hid (show digB c = true by simp [digB, hd])
    have HF := Lib.hid (show dv c = c - 48 from if_pos hd)
    obtain ⟨d1, d2⟩ := hd
    go_enter Tryd.func71, Tryd.ntmps71
    go_wp2_with fail
    refine (isDigit_any c _).mono ?_
    rintro e w' ⟨rfl, rfl⟩
    rw [HD.out]
    go_wp2
    go_ret
    exact ⟨ret_int HF.out.symm, rfl⟩
  · have HD := Lib.hid (show digB c = false by
      cases hx : digB c
      · rfl
      · simp [digB] at hx; exact absurd hx hd)
    by_cases ha : 97 ≤ c ∧ c ≤ 102
    · have HF := Lib.hid (show dv c = c - 97 + 10 by unfold dv; rw [if_neg hd, if_pos ha])
      obtain ⟨d1, d2⟩ := ha
      clear hd
      go_enter Tryd.func71, Tryd.ntmps71
      go_wp2_with fail
      refine (isDigit_any c _).mono ?_
      rintro e w' ⟨rfl, rfl⟩
      rw [HD.out]
      go_wp2
      go_ret
      exact ⟨ret_int HF.out.symm, rfl⟩
    · by_cases hA : 65 ≤ c ∧ c ≤ 70
      · have HF := Lib.hid (show dv c = c - 65 + 10 by unfold dv; rw [if_neg hd, if_neg ha, if_pos hA])
        obtain ⟨d1, d2⟩ := hA
        clear hd ha
        go_enter Tryd.func71, Tryd.ntmps71
        go_wp2_with fail
        refine (isDigit_any c _).mono ?_
        rintro e w' ⟨rfl, rfl⟩
        rw [HD.out]
        go_wp2
        go_ret
        exact ⟨ret_int HF.out.symm, rfl⟩
      · have HF := Lib.hid (show dv c = 99 by unfold dv; rw [if_neg hd, if_neg ha, if_neg hA])
        have ca : c < 65 ∨ (70 < c ∧ c < 97) ∨ 102 < c := by omega
        clear hd ha hA
        rcases ca with ca | ⟨ca, cb⟩ | ca
        all_goals
          go_enter Tryd.func71, Tryd.ntmps71
          go_wp2_with fail
          refine (isDigit_any c _).mono ?_
          rintro e w' ⟨rfl, rfl⟩
          rw [HD.out]
          go_wp2
          go_ret
          exact ⟨ret_int HF.out.symm, rfl⟩

/-- The document's value of a digit of a base; -1 if it is none. -/
def val (b c : Int) : Int := if dv c < b then dv c else -1

theorem value_any (c b : Int) (w : World) (h0 : 0 ≤ c) (h1 : c ≤ 255) (b0 : 2 ≤ b) (b1 : b ≤ 16) : Calls Tryd.prog 107 #[.int .u8 c, .int .i64 b] w fun e w' => e = .returned (.int .i64 (val b c)) ∧ w = w' := by
  by_cases hd : 48 ≤ c ∧ c ≤ 57
  · have HD := Lib.hid (show digB c = true by simp [digB, hd])
    have hv : dv c = c - 48 := if_pos hd
    obtain ⟨d1, d2⟩ := hd
    by_cases hb : c - 48 < b
    · have HF := Lib.hid (show val b c = c - 48 by unfold val; rw [hv]; rw [if_pos hb])
      clear hv
      go_enter Tryd.func107, Tryd.ntmps107
      go_wp2_with fail
      refine (digit_any c _).mono ?_
      rintro e w' ⟨rfl, rfl⟩
      rw [HD.out]
      go_wp2
      go_ret
      exact ⟨ret_int HF.out.symm, rfl⟩
    · have HF := Lib.hid (show val b c = -1 by unfold val; rw [hv]; rw [if_neg hb])
      have hb' : b ≤ c - 48 := by omega
      clear hb
      clear hv
      go_enter Tryd.func107, Tryd.ntmps107
      go_wp2_with fail
      refine (digit_any c _).mono ?_
      rintro e w' ⟨rfl, rfl⟩
      rw [HD.out]
      go_wp2
      go_ret
      exact ⟨ret_int HF.out.symm, rfl⟩
  · have HD := Lib.hid (show digB c = false by
      cases hx : digB c
      · rfl
      · simp [digB] at hx; exact absurd hx hd)
    by_cases ha : 97 ≤ c ∧ c ≤ 102
    · have hv : dv c = c - 97 + 10 := by unfold dv; rw [if_neg hd, if_pos ha]
      obtain ⟨d1, d2⟩ := ha
      clear hd
      by_cases hb : c - 97 + 10 < b
      · have HF := Lib.hid (show val b c = c - 97 + 10 by unfold val; rw [hv]; rw [if_pos hb])
        clear hv
        go_enter Tryd.func107, Tryd.ntmps107
        go_wp2_with fail
        refine (digit_any c _).mono ?_
        rintro e w' ⟨rfl, rfl⟩
        rw [HD.out]
        go_wp2
        go_ret
        exact ⟨ret_int HF.out.symm, rfl⟩
      · have HF := Lib.hid (show val b c = -1 by unfold val; rw [hv]; rw [if_neg hb])
        have hb' : b ≤ c - 97 + 10 := by omega
        clear hb
        clear hv
        go_enter Tryd.func107, Tryd.ntmps107
        go_wp2_with fail
        refine (digit_any c _).mono ?_
        rintro e w' ⟨rfl, rfl⟩
        rw [HD.out]
        go_wp2
        go_ret
        exact ⟨ret_int HF.out.symm, rfl⟩
    · by_cases hA : 65 ≤ c ∧ c ≤ 70
      · have hv : dv c = c - 65 + 10 := by unfold dv; rw [if_neg hd, if_neg ha, if_pos hA]
        obtain ⟨d1, d2⟩ := hA
        clear hd ha
        by_cases hb : c - 65 + 10 < b
        · have HF := Lib.hid (show val b c = c - 65 + 10 by unfold val; rw [hv]; rw [if_pos hb])
          clear hv
          go_enter Tryd.func107, Tryd.ntmps107
          go_wp2_with fail
          refine (digit_any c _).mono ?_
          rintro e w' ⟨rfl, rfl⟩
          rw [HD.out]
          go_wp2
          go_ret
          exact ⟨ret_int HF.out.symm, rfl⟩
        · have HF := Lib.hid (show val b c = -1 by unfold val; rw [hv]; rw [if_neg hb])
          have hb' : b ≤ c - 65 + 10 := by omega
          clear hb
          clear hv
          go_enter Tryd.func107, Tryd.ntmps107
          go_wp2_with fail
          refine (digit_any c _).mono ?_
          rintro e w' ⟨rfl, rfl⟩
          rw [HD.out]
          go_wp2
          go_ret
          exact ⟨ret_int HF.out.symm, rfl⟩
      · have HF := Lib.hid (show val b c = -1 by unfold val dv; rw [if_neg hd, if_neg ha, if_neg hA, if_neg (by omega)])
        have ca : c < 65 ∨ (70 < c ∧ c < 97) ∨ 102 < c := by omega
        clear hd ha hA
        rcases ca with ca | ⟨ca, cb⟩ | ca
        all_goals
          go_enter Tryd.func107, Tryd.ntmps107
          go_wp2_with fail
          refine (digit_any c _).mono ?_
          rintro e w' ⟨rfl, rfl⟩
          rw [HD.out]
          go_wp2
          go_ret
          exact ⟨ret_int HF.out.symm, rfl⟩

/-- The readers, letter by letter: num's, and the document's. -/
def dvb (c : UInt8) : Int := dv (c.toNat : Int)
def runN (b : Int) : List UInt8 → Int → Bool → Option Int
  | [], n, bd => if bd then some n else none
  | c :: t, n, bd => if c = 95 ∧ bd = true then runN b t n false else if b ≤ dvb c then none else if 9007199254740992 < n * b + dvb c then none else runN b t (n * b + dvb c) true
def runR (b : Int) : List UInt8 → Int → Bool → Option Int
  | [], n, _ => some n
  | c :: t, n, bf => if c = 95 then (if bf = false then none else match t with | [] => none | d :: _ => if b ≤ dvb d then none else runR b t n false)
      else if b ≤ dvb c then none else runR b t (min (n * b + dvb c) 144115188075855872) true

theorem dv_bd (c : Int) : 0 ≤ dv c ∧ dv c ≤ 99 := by
  unfold dv; split
  · omega
  · split
    · omega
    · split <;> omega
theorem dvb_us : dvb 95 = 99 := by decide

theorem run_over (b : Int) (b0 : 2 ≤ b) : ∀ (l : List UInt8) (n : Int) (bf : Bool), 9007199254740992 < n → n ≤ 144115188075855872 → ∀ m, runR b l n bf = some m → 9007199254740992 < m
  | [], n, _, h, _, m, hm => by simp [runR] at hm; omega
  | c :: t, n, bf, h, h2, m, hm => by
    have hd := dv_bd (c.toNat : Int)
    have hd2 : 0 ≤ dvb c ∧ dvb c ≤ 99 := hd
    unfold runR at hm
    split at hm
    · split at hm
      · cases hm
      · cases t with
        | nil => simp at hm
        | cons d r =>
          simp only at hm
          split at hm
          · cases hm
          · exact run_over b b0 (d :: r) n false h h2 m hm
    · split at hm
      · cases hm
      · refine run_over b b0 t _ true ?_ (Int.min_le_right _ _) m hm
        have h3 : 2 * n ≤ n * b := by rw [Int.mul_comm n b]; exact Int.mul_le_mul_of_nonneg_right b0 (by omega)
        omega

def capM (o : Option Int) : Option Int := match o with | some n => if n ≤ 9007199254740992 then some n else none | none => none

theorem run_same (b : Int) (b0 : 2 ≤ b) (b1 : b ≤ 16) : ∀ (l : List UInt8) (n : Int) (bf : Bool), 0 ≤ n → n ≤ 9007199254740992 → (bf = true ∨ l ≠ []) → runN b l n bf = capM (runR b l n bf)
  | [], n, bf, h0, h1, h => by
    have hb : bf = true := by
      rcases h with h | h
      · exact h
      · exact absurd rfl h
    subst hb
    simp [runN, runR, capM, h1]
  | c :: t, n, bf, h0, h1, h => by
    have hd2 : 0 ≤ dvb c ∧ dvb c ≤ 99 := dv_bd (c.toNat : Int)
    by_cases hc : c = 95
    · cases bf
      · have e1 : runN b (c :: t) n false = none := by
          unfold runN
          rw [if_neg (by simp), if_pos (by rw [hc, dvb_us]; omega)]
        have e2 : runR b (c :: t) n false = none := by
          unfold runR
          rw [if_pos hc, if_pos rfl]
        rw [e1, e2]; rfl
      · have e1 : runN b (c :: t) n true = runN b t n false := by
          rw [runN, if_pos ⟨hc, rfl⟩]
        rw [e1]
        cases t with
        | nil =>
          have e2 : runR b (c :: []) n true = none := by unfold runR; rw [if_pos hc, if_neg (by simp)]
          rw [e2]; rfl
        | cons d r =>
          by_cases hdb : b ≤ dvb d
          · have e2 : runR b (c :: d :: r) n true = none := by rw [runR, if_pos hc, if_neg (by simp), if_pos hdb]
            have e3 : runN b (d :: r) n false = none := by rw [runN, if_neg (by simp), if_pos hdb]
            rw [e2, e3]; rfl
          · have e2 : runR b (c :: d :: r) n true = runR b (d :: r) n false := by rw [runR, if_pos hc, if_neg (by simp), if_neg hdb]
            rw [e2]
            exact run_same b b0 b1 (d :: r) n false h0 h1 (.inr (by simp))
    · have hnc : ¬ (c = 95 ∧ bf = true) := fun hh => hc hh.1
      rw [runN, if_neg hnc, runR.eq_def]
      show _ = capM (if c = 95 then _ else _)
      rw [if_neg hc]
      by_cases hdb : b ≤ dvb c
      · rw [if_pos hdb, if_pos hdb]; rfl
      · rw [if_neg hdb, if_neg hdb]
        have hm : n * b ≤ 9007199254740992 * 16 := Int.mul_le_mul h1 b1 (by omega) (by omega)
        have hm0 : 0 ≤ n * b := Int.mul_nonneg h0 (by omega)
        by_cases ho : 9007199254740992 < n * b + dvb c
        · rw [if_pos ho]
          cases hr : runR b t (min (n * b + dvb c) 144115188075855872) true with
          | none => rfl
          | some m =>
            have := run_over b b0 t _ true (by omega) (Int.min_le_right _ _) m hr
            unfold capM
            simp only
            rw [if_neg (by omega)]
        · rw [if_neg ho]
          have e : min (n * b + dvb c) 144115188075855872 = n * b + dvb c := by omega
          rw [e]
          exact run_same b b0 b1 t _ true (by omega) (by omega) (.inl rfl)

end Go.Proofs.YtmlifgngdilplaaDoor
