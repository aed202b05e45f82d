/-
  num's readers of texts: blanks, a sign, digits; the number of a text; whether it looks like one. Conditions: a text of at most 2^47 bytes.
-/
import Derived.Test.YtmlifgngdilplaaDoorBase
import Derived.Test.YtmlifgngdilplaaDoorShelf
import Derived.Shelf.Strings.SlTrimAscii
namespace Go.Proofs.YtmlifgngdilplaaDoor
open Go.RowKit Go.Shelf

def skipL (l : List UInt8) : List UInt8 := Lib.trimLeftS l [9, 10, 13, 32]

theorem skipBlanks_any (s : ByteArray) (w : World) :
    Calls Tryd.prog 54 #[.string s] w fun e w' => e = .returned (.string (bs (skipL s.data.toList))) ∧ Below w.heap.size w w' := by
  have hcon := Any.strings_TrimLeft_laid Tryd.lays161 (by kernel_rfl) s ⟨#[9, 10, 13, 32]⟩ w (by decide) (ascii_of_all (by decide))
  change Calls Tryd.prog 78 _ _ (fun e w' => e = .returned (.string (bs (skipL s.data.toList))) ∧ Below w.heap.size w w') at hcon
  generalize bs (skipL s.data.toList) = r at hcon ⊢
  go_enter Tryd.func54, Tryd.ntmps54
  go_wp2_with (go_at_call 78; refine hcon.mono ?_; rintro e w' ⟨rfl, hB⟩)
  go_ret
  exact ⟨rfl, hB⟩

/-- Whether a list of bytes begins with a sign. -/
def signed (l : List UInt8) : Bool := match l with | c :: _ => (c == 43 || c == 45) | [] => false
def minus (l : List UInt8) : Bool := match l with | c :: _ => c == 45 | [] => false
def cutL (l : List UInt8) : List UInt8 := if signed l then l.drop 1 else l

def CutPost (s : ByteArray) (w : World) (e : Ending) (w' : World) : Prop :=
  e = .returned (.tuple #[.bool (minus s.data.toList), .string (bs (cutL s.data.toList))]) ∧ Below w.heap.size w w'

theorem cutSign_any (s : ByteArray) (w : World) (hs : s.size ≤ 140737488355328) : Calls Tryd.prog 53 #[.string s] w (CutPost s w) := by
  by_cases h0 : s.size = 0
  · have hl : s.data.toList = [] := List.eq_nil_of_length_eq_zero h0
    have HP := Lib.hid (show ∀ w', Below w.heap.size w w' → CutPost s w (.returned (.tuple #[.bool false, .string s])) w' by
      intro w' hb
      refine ⟨?_, hb⟩
      rw [← bs_of s, bs_list, hl]
      rfl)
    have hemp : s.toList.isEmpty = true := by rw [Lib.toList_data, hl]; rfl
    clear hl
    go_enter Tryd.func53, Tryd.ntmps53
    go_wp2
    go_ret2
    exact HP.out _ (Below.refl _ _)
  · have hp : 0 < s.size := by omega
    have hemp : s.toList.isEmpty = false := by
      rw [Lib.toList_data]
      cases h : s.data.toList with
      | nil => have := Lib.size_eq s; rw [h, List.length_nil] at this; omega
      | cons _ _ => rfl
    obtain ⟨c, l, hl⟩ : ∃ c l, s.data.toList = c :: l := by
      cases h : s.data.toList with
      | nil => have := Lib.size_eq s; rw [h, List.length_nil] at this; omega
      | cons c l => exact ⟨c, l, rfl⟩
    have hc : s[0] = c := by
      have h1 : s.data.toList[0]? = some s[0] := by simp [ByteArray.getElem_eq_getElem_data]
      rw [hl] at h1
      simpa using h1.symm
    have hx : s.extract 1 s.size = bs l := by
      rw [← bs_of (s.extract 1 s.size), Lib.extract_data, hl]
      congr 1
      have : s.size = l.length + 1 := by rw [size_list, hl]; rfl
      simp [this]
    have HP := Lib.hid (show ∀ w', Below w.heap.size w w' → CutPost s w (.returned (.tuple #[.bool (c == 45), .string (if c == 43 || c == 45 then s.extract 1 s.size else s)])) w' by
      intro w' hb
      refine ⟨?_, hb⟩
      rw [hx, hl]
      by_cases h : (c == 43 || c == 45) = true
      · simp [minus, cutL, signed, h]
      · simp only [Bool.not_eq_true] at h
        have hs2 : bs (c :: l) = s := by rw [← hl, bs_of]
        simp [minus, cutL, signed, h, hs2])
    clear hx hl
    by_cases c43 : c = 43
    · subst c43
      have e0 : (s[0]).toNat = 43 := by rw [hc]; rfl
      clear hc
      go_enter Tryd.func53, Tryd.ntmps53
      go_wp2
      go_quiet (fail)
      go_wp2
      go_ret2
      exact HP.out _ (below_drewN (Below.refl _ _) _)
    · by_cases c45 : c = 45
      · subst c45
        have e0 : (s[0]).toNat = 45 := by rw [hc]; rfl
        clear hc c43
        go_enter Tryd.func53, Tryd.ntmps53
        go_wp2
        go_quiet (fail)
        go_wp2
        go_ret2
        exact HP.out _ (below_drewN (Below.refl _ _) _)
      · have n43 : ((s[0].toNat : Int) == 43) = false := by rw [hc]; simp; intro h; exact c43 (UInt8.toNat_inj.1 (by show c.toNat = 43; omega))
        have n45 : ((s[0].toNat : Int) == 45) = false := by rw [hc]; simp; intro h; exact c45 (UInt8.toNat_inj.1 (by show c.toNat = 45; omega))
        have HQ := Lib.hid (show ∀ w', Below w.heap.size w w' → CutPost s w (.returned (.tuple #[.bool false, .string s])) w' by
          intro w' hb
          have := HP.out w' hb
          have e3 : (c == 43) = false := by simpa using c43
          have e5 : (c == 45) = false := by simpa using c45
          rw [e3, e5] at this
          exact this)
        clear hc c43 c45
        go_enter Tryd.func53, Tryd.ntmps53
        go_wp2
        go_ret2
        exact HQ.out _ (Below.refl _ _)

def dig (c : UInt8) : Bool := digB (c.toNat : Int)
/-- With how many digits a list of bytes begins. -/
def ldig (l : List UInt8) : Nat := (l.takeWhile dig).length
theorem getElem_list (s : ByteArray) (k : Nat) (h : k < s.size) : s.data.toList[k]? = some s[k] := by
  simp [ByteArray.getElem_eq_getElem_data]
theorem takeWhile_at (p : UInt8 → Bool) : ∀ (l : List UInt8) (k : Nat), (∀ j c, j < k → l[j]? = some c → p c = true) → k ≤ l.length → (∀ c, l[k]? = some c → p c = false) → (l.takeWhile p).length = k
  | [], k, _, h2, _ => by simp at h2; simp [h2]
  | c :: l, 0, _, _, h3 => by simp [h3 c rfl]
  | c :: l, k + 1, h1, h2, h3 => by
    have hc := h1 0 c (by omega) rfl
    simp only [List.takeWhile_cons, hc, if_true, List.length_cons]
    rw [takeWhile_at p l k (fun j d hj hd => h1 (j + 1) d (by omega) (by simpa using hd)) (by simpa using h2) (fun d hd => h3 d (by simpa using hd))]
theorem ldig_le (l : List UInt8) : ldig l ≤ l.length := (List.takeWhile_sublist _).length_le

theorem leadingDigits_any (s : ByteArray) (w : World) (hs : s.size ≤ 140737488355328) :
    Calls Tryd.prog 55 #[.string s] w fun e w' => e = .returned (.int .i64 (ldig s.data.toList)) ∧ w = w' := by
  go_enter Tryd.func55, Tryd.ntmps55
  go_wp2
  go_loop [3] (fun i => ∃ k : Nat, k ≤ s.size ∧ i = .int .i64 k ∧ Hid (∀ j c, j < k → s.data.toList[j]? = some c → dig c = true)) (fun i => s.size - (intOf i).toNat)
  case atStart => exact ⟨0, Nat.zero_le _, rfl, fun j c h => absurd h (Nat.not_lt_zero j)⟩
  case round =>
    obtain ⟨k, hk, rfl, hd⟩ := hrel
    by_cases hlt : k < s.size
    · cases hb : digB (s[k].toNat : Int)
      · have HF := Lib.hid (show ldig s.data.toList = k from takeWhile_at _ _ k hd.out (by rw [← size_list]; exact hk) (fun c hc => by rw [getElem_list s k hlt] at hc; cases hc; exact hb))
        have HB := Lib.hid hb
        clear hb
        go_wp2_with fail
        refine (isDigit_any _ _).mono ?_
        rintro e w' ⟨rfl, rfl⟩
        rw [HB.out]
        go_wp2
        go_ret
        exact ⟨ret_int (by rw [HF.out]), rfl⟩
      · have HF : Hid (∀ j c, j < k + 1 → s.data.toList[j]? = some c → dig c = true) := fun j c hj hc => by
          by_cases hjk : j = k
          · subst hjk; rw [getElem_list s j hlt] at hc; cases hc; exact hb
          · exact hd.out j c (by omega) hc
        have HB := Lib.hid hb
        clear hb
        go_wp2_with fail
        refine (isDigit_any _ _).mono ?_
        rintro e w' ⟨rfl, rfl⟩
        rw [HB.out]
        go_wp2
        go_round
        case rel => exact ⟨k + 1, by omega, by go_num, HF⟩
        case measure => simp [intOf]; omega
    · have hks : k = s.size := by omega
      have HF := Lib.hid (show ldig s.data.toList = k from takeWhile_at _ _ k hd.out (by rw [← size_list]; exact hk) (fun c hc => by
        have := (List.getElem?_eq_some_iff.1 hc).1
        rw [← size_list] at this
        omega))
      clear hks
      go_wp2
      go_ret
      exact ⟨ret_int (by rw [HF.out]), rfl⟩

/-- The number that digits write, staying at 2^53. -/
def dval (l : List UInt8) : Int := l.foldl (fun n c => min (n * 10 + ((c.toNat : Int) - 48)) 9007199254740992) 0
def numOf (l : List UInt8) : Int :=
  if minus (skipL l) then -dval ((cutL (skipL l)).take (ldig (cutL (skipL l)))) else dval ((cutL (skipL l)).take (ldig (cutL (skipL l))))

theorem dval_snoc (l : List UInt8) (c : UInt8) : dval (l ++ [c]) = min (dval l * 10 + ((c.toNat : Int) - 48)) 9007199254740992 := by
  simp [dval]
theorem take_snoc (s : ByteArray) (k : Nat) (h : k < s.size) : s.data.toList.take (k + 1) = s.data.toList.take k ++ [s[k]] := by
  rw [List.take_succ_eq_append_getElem (by rw [← size_list]; exact h)]
  congr 2
theorem ldig_dig (l : List UInt8) : ∀ (k : Nat) (c : UInt8), k < ldig l → l[k]? = some c → dig c = true := by
  induction l with
  | nil => intro k c h; simp [ldig] at h
  | cons d l ih =>
    intro k c h hc
    unfold ldig at h
    rw [List.takeWhile_cons] at h
    split at h
    · cases k with
      | zero => simp at hc; subst hc; assumption
      | succ k => exact ih k c (by unfold ldig; simpa using h) (by simpa using hc)
    · simp at h
theorem dval_bd (l : List UInt8) (h : ∀ c, c ∈ l → dig c = true) : 0 ≤ dval l ∧ dval l ≤ 9007199254740992 := by
  suffices h2 : ∀ (n : Int), 0 ≤ n → n ≤ 9007199254740992 → 0 ≤ l.foldl (fun n c => min (n * 10 + ((c.toNat : Int) - 48)) 9007199254740992) n ∧ l.foldl (fun n c => min (n * 10 + ((c.toNat : Int) - 48)) 9007199254740992) n ≤ 9007199254740992 by
    exact h2 0 (by omega) (by omega)
  induction l with
  | nil => intro n h0 h1; exact ⟨h0, h1⟩
  | cons c l ih =>
    intro n h0 h1
    have hc := h c (by simp)
    simp [dig, digB] at hc
    exact ih (fun d hd => h d (by simp [hd])) _ (by show 0 ≤ min (n * 10 + ((c.toNat : Int) - 48)) 9007199254740992; omega) (by show min (n * 10 + ((c.toNat : Int) - 48)) 9007199254740992 ≤ _; omega)

theorem skipL_le (l : List UInt8) : (skipL l).length ≤ l.length := (List.dropWhile_sublist _).length_le
theorem cutL_le (l : List UInt8) : (cutL l).length ≤ l.length := by unfold cutL; split <;> simp

def NumPost (s : ByteArray) (w : World) (e : Ending) (w' : World) : Prop := e = .returned (.int .i64 (numOf s.data.toList)) ∧ Below w.heap.size w w'

theorem dval_take_bd (l : List UInt8) (k : Nat) (h : k ≤ ldig l) : 0 ≤ dval (l.take k) ∧ dval (l.take k) ≤ 9007199254740992 := by
  refine dval_bd _ fun c hc => ?_
  obtain ⟨j, hj, he⟩ := List.mem_iff_getElem.1 hc
  rw [List.length_take] at hj
  refine ldig_dig l j c (by omega) ?_
  rw [← he, List.getElem_take, List.getElem?_eq_getElem]

set_option maxHeartbeats 400000 in
theorem numberOf_any (s : ByteArray) (w : World) (hs : s.size ≤ 140737488355328) : Calls Tryd.prog 48 #[.string s] w (NumPost s w) := by
  have h1 := skipL_le s.data.toList
  have h2 := cutL_le (skipL s.data.toList)
  rw [← size_list] at h1
  have hr : (bs (cutL (bs (skipL s.data.toList)).data.toList)).size ≤ 140737488355328 := by rw [bs_size, bs_list]; omega
  have hs1 : (bs (skipL s.data.toList)).size ≤ 140737488355328 := by rw [bs_size]; omega
  clear h1 h2
  go_enter Tryd.func48, Tryd.ntmps48
  go_wp2_with fail
  refine (skipBlanks_any s _).mono ?_
  rintro e w1 ⟨rfl, hb1⟩
  go_wp2_with fail
  refine (cutSign_any _ _ hs1).mono ?_
  rintro e w2 ⟨rfl, hb2⟩
  go_wp2_with fail
  have HB : Hid (Below w.heap.size w w2) := hb1.trans (hb2.mono hb1.size)
  have HF : Hid (∀ w', Below w.heap.size w w' → NumPost s w (.returned (.int .i64 (if minus (bs (skipL s.data.toList)).data.toList then -dval ((bs (cutL (bs (skipL s.data.toList)).data.toList)).data.toList.take (ldig (bs (cutL (bs (skipL s.data.toList)).data.toList)).data.toList)) else dval ((bs (cutL (bs (skipL s.data.toList)).data.toList)).data.toList.take (ldig (bs (cutL (bs (skipL s.data.toList)).data.toList)).data.toList))))) w') := by
    intro w' hb
    refine ⟨?_, hb⟩
    rw [bs_list, bs_list]
    rfl
  clear hb1 hb2 hs1
  generalize minus (bs (skipL s.data.toList)).data.toList = m at *
  generalize bs (cutL (bs (skipL s.data.toList)).data.toList) = r at *
  refine (leadingDigits_any _ _ hr).mono ?_
  rintro e w' ⟨rfl, rfl⟩
  have hD : ldig r.data.toList ≤ r.size := ldig_le _
  have HD := Lib.hid (dval_take_bd r.data.toList)
  have HG := Lib.hid (ldig_dig r.data.toList)
  generalize ldig r.data.toList = D at *
  cases hm : m
  all_goals
    rw [hm] at HF
    clear hm
    go_wp2_with fail
    go_loop [5, 15] (fun n i => ∃ k : Nat, k ≤ D ∧ i = .int .i64 k ∧ n = .int .i64 (dval (r.data.toList.take k))) (fun _ i => D - (intOf i).toNat)
    case atStart => exact ⟨0, by omega, rfl, rfl⟩
    case round =>
      obtain ⟨k, hk, rfl, rfl⟩ := hrel
      obtain ⟨v1, v2⟩ := HD.out k hk
      by_cases hlt : k < D
      · have klt : k < r.size := by omega
        have hc := HG.out k r[k] hlt (getElem_list r k klt)
        simp only [dig, digB, Bool.and_eq_true, decide_eq_true_eq] at hc
        obtain ⟨c1, c2⟩ := hc
        have HS := Lib.hid (show dval (r.data.toList.take (k + 1)) = min (dval (r.data.toList.take k) * 10 + ((r[k].toNat : Int) - 48)) 9007199254740992 by rw [take_snoc r k klt, dval_snoc])
        generalize dval (r.data.toList.take k) = V at *
        go_wp2
        go_round
        case rel => exact ⟨k + 1, by omega, by go_num, by rw [HS.out]⟩
        case measure => simp [intOf]; omega
      · obtain rfl : k = D := by omega
        go_wp2
        go_ret
        exact HF.out _ HB.out

/-- Whether a list of bytes is a whole number with blanks around it. -/
def looksB (l : List UInt8) : Bool := decide (0 < ldig (cutL (skipL l))) && (skipL ((cutL (skipL l)).drop (ldig (cutL (skipL l))))).isEmpty

def BoolPost (b : Bool) (w : World) (e : Ending) (w' : World) : Prop := e = .returned (.bool b) ∧ Below w.heap.size w w'

theorem isEmpty_size (s : ByteArray) : s.toList.isEmpty = decide (s.size = 0) := by
  rw [Lib.toList_data, size_list]
  cases s.data.toList <;> simp

set_option maxHeartbeats 400000 in
theorem Looks_any (s : ByteArray) (w : World) (hs : s.size ≤ 140737488355328) : Calls Tryd.prog 25 #[.string s] w (BoolPost (looksB s.data.toList) w) := by
  have h1 := skipL_le s.data.toList
  have h2 := cutL_le (skipL s.data.toList)
  rw [← size_list] at h1
  have hr : (bs (cutL (bs (skipL s.data.toList)).data.toList)).size ≤ 140737488355328 := by rw [bs_size, bs_list]; omega
  have hs1 : (bs (skipL s.data.toList)).size ≤ 140737488355328 := by rw [bs_size]; omega
  clear h1 h2
  go_enter Tryd.func25, Tryd.ntmps25
  go_wp2_with fail
  refine (skipBlanks_any s _).mono ?_
  rintro e w1 ⟨rfl, hb1⟩
  go_wp2_with fail
  refine (cutSign_any _ _ hs1).mono ?_
  rintro e w2 ⟨rfl, hb2⟩
  go_wp2_with fail
  have HB : Hid (Below w.heap.size w w2) := hb1.trans (hb2.mono hb1.size)
  have HF : Hid (∀ b w', b = (decide (0 < ldig (bs (cutL (bs (skipL s.data.toList)).data.toList)).data.toList) && (skipL ((bs (cutL (bs (skipL s.data.toList)).data.toList)).data.toList.drop (ldig (bs (cutL (bs (skipL s.data.toList)).data.toList)).data.toList))).isEmpty) → Below w.heap.size w w' → BoolPost (looksB s.data.toList) w (.returned (.bool b)) w') := by
    rintro b w' rfl hb
    refine ⟨?_, hb⟩
    rw [bs_list, bs_list]
    rfl
  have HZ := Lib.hid hb1.size
  have HZ2 := Lib.hid hb2.size
  clear hb1 hb2 hs1
  generalize minus (bs (skipL s.data.toList)).data.toList = m at *
  generalize bs (cutL (bs (skipL s.data.toList)).data.toList) = r at *
  refine (leadingDigits_any _ _ hr).mono ?_
  rintro e w' ⟨rfl, rfl⟩
  have hD : ldig r.data.toList ≤ r.size := ldig_le _
  generalize ldig r.data.toList = D at *
  by_cases h0 : 0 < D
  · go_wp2_with fail
    refine (skipBlanks_any _ _).mono ?_
    rintro e w3 ⟨rfl, hb3⟩
    have HE := Lib.hid (isEmpty_size (bs (skipL (r.extract D r.size).data.toList)))
    have HB3 : Hid (Below w.heap.size w w3) := HB.out.trans (hb3.mono HB.out.size)
    have HX : Hid (decide ((bs (skipL (r.extract D r.size).data.toList)).size = 0) = (skipL (r.data.toList.drop D)).isEmpty) := by
      show _ = _
      rw [bs_size, Lib.extract_to_end]
      cases skipL (r.data.toList.drop D) <;> simp
    clear hb3
    generalize bs (skipL (r.extract D r.size).data.toList) = t at *
    go_wp2
    all_goals
      go_ret
      refine HF.out _ _ ?_ HB3.out
      rw [← HX.out, ← HE.out]
      simp_all
  · go_wp2
    go_ret
    refine HF.out _ _ ?_ HB.out
    simp [h0]

end Go.Proofs.YtmlifgngdilplaaDoor
