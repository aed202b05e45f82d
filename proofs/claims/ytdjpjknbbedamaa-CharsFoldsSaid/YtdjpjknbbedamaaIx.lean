/-
  Where a text stands first and last in another one: chars.Index and Last, and the document's. No condition beside int's own range.
-/
import Derived.Test.YtdjpjknbbedamaaPl
namespace Go.Proofs.Ytdjpjknbbedamaa
open Go.RowKit

/-! ### the first place from one on, the last place up to one -/
def IsF (L T : List Nat) (fr : Int) (x : Int) : Prop :=
  (∃ k : Nat, k ≤ L.length ∧ x = k ∧ stB L T k = true ∧ min fr L.length ≤ (k : Int) ∧ ∀ j : Nat, j < k → min fr L.length ≤ (j : Int) → stB L T j = false) ∨
  (x = -1 ∧ ∀ j : Nat, j ≤ L.length → min fr L.length ≤ (j : Int) → stB L T j = false)
def IsL (L T : List Nat) (fr : Int) (x : Int) : Prop :=
  (∃ k : Nat, k ≤ L.length ∧ x = k ∧ stB L T k = true ∧ (k : Int) ≤ fr ∧ ∀ j : Nat, k < j → j ≤ L.length → (j : Int) ≤ fr → stB L T j = false) ∨
  (x = -1 ∧ ∀ j : Nat, j ≤ L.length → (j : Int) ≤ fr → stB L T j = false)
theorem isF_unique {L T : List Nat} {fr x y : Int} (hx : IsF L T fr x) (hy : IsF L T fr y) : x = y := by
  rcases hx with ⟨k, k1, rfl, k3, k4, k5⟩ | ⟨rfl, k5⟩ <;> rcases hy with ⟨m, m1, rfl, m3, m4, m5⟩ | ⟨rfl, m5⟩
  · rcases Nat.lt_trichotomy k m with h | h | h
    · rw [m5 k h k4] at k3; cases k3
    · rw [h]
    · rw [k5 m h m4] at m3; cases m3
  · rw [m5 k k1 k4] at k3; cases k3
  · rw [k5 m m1 m4] at m3; cases m3
  · rfl
theorem isL_unique {L T : List Nat} {fr x y : Int} (hx : IsL L T fr x) (hy : IsL L T fr y) : x = y := by
  rcases hx with ⟨k, k1, rfl, k3, k4, k5⟩ | ⟨rfl, k5⟩ <;> rcases hy with ⟨m, m1, rfl, m3, m4, m5⟩ | ⟨rfl, m5⟩
  · rcases Nat.lt_trichotomy k m with h | h | h
    · rw [k5 m h m1 m4] at m3; cases m3
    · rw [h]
    · rw [m5 k h k1 k4] at k3; cases k3
  · rw [m5 k k1 k4] at k3; cases k3
  · rw [k5 m m1 m4] at m3; cases m3
  · rfl
theorem exF (L T : List Nat) (fr : Int) : ∃ x, IsF L T fr x := by
  have h : ∀ n, n ≤ L.length + 1 → (∃ k : Nat, k < n ∧ stB L T k = true ∧ min fr L.length ≤ (k : Int) ∧ ∀ j : Nat, j < k → min fr L.length ≤ (j : Int) → stB L T j = false) ∨ (∀ j : Nat, j < n → min fr L.length ≤ (j : Int) → stB L T j = false) := by
    intro n
    induction n with
    | zero => intro _; exact .inr (fun j hj => absurd hj (Nat.not_lt_zero j))
    | succ n ih =>
      intro hn
      rcases ih (by omega) with ⟨k, h1, h2⟩ | h
      · exact .inl ⟨k, by omega, h2⟩
      · by_cases hs : stB L T n = true ∧ min fr L.length ≤ (n : Int)
        · exact .inl ⟨n, by omega, hs.1, hs.2, h⟩
        · refine .inr (fun j hj hm => ?_)
          by_cases e : j = n
          · subst e
            cases hb : stB L T j
            · rfl
            · exact absurd ⟨hb, hm⟩ hs
          · exact h j (by omega) hm
  rcases h (L.length + 1) (Nat.le_refl _) with ⟨k, h1, h2, h3, h4⟩ | h
  · exact ⟨k, .inl ⟨k, by omega, rfl, h2, h3, h4⟩⟩
  · exact ⟨-1, .inr ⟨rfl, fun j hj => h j (by omega)⟩⟩
theorem exL (L T : List Nat) (fr : Int) : ∃ x, IsL L T fr x := by
  have h : ∀ n, n ≤ L.length + 1 → (∃ k : Nat, k < n ∧ stB L T k = true ∧ (k : Int) ≤ fr ∧ ∀ j : Nat, k < j → j < n → (j : Int) ≤ fr → stB L T j = false) ∨ (∀ j : Nat, j < n → (j : Int) ≤ fr → stB L T j = false) := by
    intro n
    induction n with
    | zero => intro _; exact .inr (fun j hj => absurd hj (Nat.not_lt_zero j))
    | succ n ih =>
      intro hn
      by_cases hs : stB L T n = true ∧ (n : Int) ≤ fr
      · exact .inl ⟨n, by omega, hs.1, hs.2, fun j h1 h2 => by omega⟩
      · have hn' : (n : Int) ≤ fr → stB L T n = false := fun hm => by
          cases hb : stB L T n
          · rfl
          · exact absurd ⟨hb, hm⟩ hs
        rcases ih (by omega) with ⟨k, h1, h2, h3, h4⟩ | h
        · refine .inl ⟨k, by omega, h2, h3, fun j hj1 hj2 hm => ?_⟩
          by_cases e : j = n
          · subst e; exact hn' hm
          · exact h4 j hj1 (by omega) hm
        · refine .inr (fun j hj hm => ?_)
          by_cases e : j = n
          · subst e; exact hn' hm
          · exact h j (by omega) hm
  rcases h (L.length + 1) (Nat.le_refl _) with ⟨k, h1, h2, h3, h4⟩ | h
  · exact ⟨k, .inl ⟨k, by omega, rfl, h2, h3, fun j a b c => h4 j a (by omega) c⟩⟩
  · exact ⟨-1, .inr ⟨rfl, fun j hj => h j (by omega)⟩⟩
noncomputable def idxF (L T : List Nat) (fr : Int) : Int := Classical.choose (exF L T fr)
noncomputable def idxL (L T : List Nat) (fr : Int) : Int := Classical.choose (exL L T fr)
theorem idxF_of {L T : List Nat} {fr x : Int} (h : IsF L T fr x) : x = idxF L T fr := isF_unique h (Classical.choose_spec (exF L T fr))
theorem idxL_of {L T : List Nat} {fr x : Int} (h : IsL L T fr x) : x = idxL L T fr := isL_unique h (Classical.choose_spec (exL L T fr))

theorem plcA_get {L T : List Nat} (i : Nat) (h : i < (plcA L T).length) : (plcA L T)[i] ≤ L.length ∧ stB L T (plcA L T)[i] = true := by
  have := mem_plc.1 (List.getElem_mem h)
  exact ⟨by omega, this.2⟩
theorem plcA_at {L T : List Nat} {j : Nat} (hj : j ≤ L.length) (h : stB L T j = true) : ∃ i, ∃ h : i < (plcA L T).length, (plcA L T)[i] = j := by
  have : j ∈ plcA L T := mem_plc.2 ⟨by omega, h⟩
  exact List.mem_iff_getElem.1 this
theorem plcA_lt {L T : List Nat} {i j : Nat} (hi : i < (plcA L T).length) (hj : j < (plcA L T).length) (h : i < j) : (plcA L T)[i] < (plcA L T)[j] :=
  List.pairwise_iff_getElem.1 (plc_sorted L T _) i j hi hj h
theorem F_found {L T : List Nat} {fr : Int} {k : Nat} (h : k < (plcA L T).length) (hb : ∀ j (hj : j < (plcA L T).length), j < k → (((plcA L T)[j] : Nat) : Int) < min fr L.length) (hk : min fr L.length ≤ (((plcA L T)[k] : Nat) : Int)) : IsF L T fr (((plcA L T)[k] : Nat) : Int) := by
  obtain ⟨g1, g2⟩ := plcA_get k h
  refine .inl ⟨_, g1, rfl, g2, hk, fun j hj hm => ?_⟩
  cases hs : stB L T j
  · rfl
  · obtain ⟨i, hi, e⟩ := plcA_at (by omega) hs
    rcases Nat.lt_trichotomy i k with h1 | h1 | h1
    · have := hb i hi h1
      omega
    · subst h1; omega
    · have := plcA_lt h hi h1
      omega
theorem F_none {L T : List Nat} {fr : Int} (hb : ∀ j (hj : j < (plcA L T).length), (((plcA L T)[j] : Nat) : Int) < min fr L.length) : IsF L T fr (-1) := by
  refine .inr ⟨rfl, fun j hj hm => ?_⟩
  cases hs : stB L T j
  · rfl
  · obtain ⟨i, hi, e⟩ := plcA_at hj hs
    have := hb i hi
    omega
/-- The last of the first k places that is at most fr. -/
def LastK (L T : List Nat) (fr : Int) (k : Nat) (x : Int) : Prop :=
  (x = -1 ∧ ∀ j (hj : j < k) (h : j < (plcA L T).length), ¬ (((plcA L T)[j] : Nat) : Int) ≤ fr) ∨
  (∃ j, ∃ h : j < (plcA L T).length, j < k ∧ x = (((plcA L T)[j] : Nat) : Int) ∧ (((plcA L T)[j] : Nat) : Int) ≤ fr ∧ ∀ i (hi : i < (plcA L T).length), j < i → i < k → ¬ (((plcA L T)[i] : Nat) : Int) ≤ fr)
theorem lastK_zero (L T : List Nat) (fr : Int) : LastK L T fr 0 (-1) := .inl ⟨rfl, fun j hj => absurd hj (Nat.not_lt_zero j)⟩
theorem lastK_yes {L T : List Nat} {fr : Int} {k : Nat} (h : k < (plcA L T).length) (hk : (((plcA L T)[k] : Nat) : Int) ≤ fr) : LastK L T fr (k + 1) (((plcA L T)[k] : Nat) : Int) :=
  .inr ⟨k, h, by omega, rfl, hk, fun i _ h1 h2 => by omega⟩
theorem lastK_no {L T : List Nat} {fr x : Int} {k : Nat} (h : k < (plcA L T).length) (hk : ¬ (((plcA L T)[k] : Nat) : Int) ≤ fr) (hx : LastK L T fr k x) : LastK L T fr (k + 1) x := by
  rcases hx with ⟨rfl, h1⟩ | ⟨j, hj, h1, h2, h3, h4⟩
  · refine .inl ⟨rfl, fun j hj hl => ?_⟩
    by_cases e : j = k
    · subst e; exact hk
    · exact h1 j (by omega) hl
  · refine .inr ⟨j, hj, by omega, h2, h3, fun i hi a b => ?_⟩
    by_cases e : i = k
    · subst e; exact hk
    · exact h4 i hi a (by omega)
theorem lastK_end {L T : List Nat} {fr x : Int} (hx : LastK L T fr (plcA L T).length x) : IsL L T fr x := by
  rcases hx with ⟨rfl, h1⟩ | ⟨j, hj, h1, rfl, h3, h4⟩
  · refine .inr ⟨rfl, fun j hj hm => ?_⟩
    cases hs : stB L T j
    · rfl
    · obtain ⟨i, hi, e⟩ := plcA_at hj hs
      have := h1 i hi hi
      omega
  · obtain ⟨g1, g2⟩ := plcA_get j hj
    refine .inl ⟨_, g1, rfl, g2, h3, fun i h5 h6 hm => ?_⟩
    cases hs : stB L T i
    · rfl
    · obtain ⟨q, hq, e⟩ := plcA_at h6 hs
      rcases Nat.lt_trichotomy q j with a | a | a
      · have := plcA_lt hq hj a
        omega
      · subst a; omega
      · have := h4 q hq a hq
        omega

theorem find_bad_c (s t : ByteArray) (hb : ck2 (ckE s) (ckE t) ≠ 0) (fr : Int) (w : World) : Calls Try.prog 37 #[.string s, .string t, .int .i64 fr] w (NumE 0 (ck2 (ckE s) (ckE t)) w) ∧ Calls Try.prog 39 #[.string s, .string t, .int .i64 fr] w (NumE 0 (ck2 (ckE s) (ckE t)) w) := by
  have HK := Lib.hid (fun w => check2_any s t w)
  have hn : (ck2 (ckE s) (ckE t) != 0) = true := by simpa using hb
  have HP : Hid (∀ w w', Below w.heap.size w w' → NumE 0 (ck2 (ckE s) (ckE t)) w (.returned (.tuple #[.int .i64 0, .int .i64 (ck2 (ckE s) (ckE t))])) w') := fun w w' h => ⟨rfl, h⟩
  clear hb
  generalize ck2 (ckE s) (ckE t) = x at *
  constructor
  · go_enter Try.func37, Try.ntmps37
    go_wp2_with fail
    refine (HK.out _).mono ?_
    rintro e w' ⟨rfl, hb⟩
    have HB := Lib.hid hb
    clear hb
    go_wp2
    go_ret2
    exact HP.out _ _ HB.out
  · go_enter Try.func39, Try.ntmps39
    go_wp2_with fail
    refine (HK.out _).mono ?_
    rintro e w' ⟨rfl, hb⟩
    have HB := Lib.hid hb
    clear hb
    go_wp2
    go_ret2
    exact HP.out _ _ HB.out

theorem check2_ok {s t : ByteArray} {L T : List Nat} (hC : allC L) (hT : allC T) (hl : s.data.toList = ens L) (ht : t.data.toList = ens T) (hs : s.size ≤ 4096) (hts : t.size ≤ 4096) (w : World) : Calls Try.prog 45 #[.slice (some ⟨w.heap.size, 0, none⟩) 2 2] (w.alloc (.cells #[.string s, .string t] 9)) (ErrP 0 w) := by
  have := check2_any s t w
  rwa [ckE_ok hs hC hl, ckE_ok hts hT ht] at this

set_option maxRecDepth 100000 in
set_option maxHeartbeats 4000000 in
theorem Index_ok (s t : ByteArray) (L T : List Nat) (hC : allC L) (hT : allC T) (hl : s.data.toList = ens L) (ht : t.data.toList = ens T) (hs : s.size ≤ 4096) (hts : t.size ≤ 4096) (fr : Int) (_h0 : -9223372036854775808 ≤ fr) (_h1 : fr ≤ 9223372036854775807) (w : World) :
    Calls Try.prog 37 #[.string s, .string t, .int .i64 fr] w (NumE (idxF L T fr) 0 w) := by
  have HK := Lib.hid (fun w => check2_ok hC hT hl ht hs hts w)
  have HR : Hid (∀ w, Calls Try.prog 67 #[.string s] w fun e w' => e = .returned (.int .i64 L.length) ∧ Below w.heap.size w w') := fun w => by
    refine (Try.utf8_RuneCountInString s w (by omega)).mono ?_
    rintro e w' ⟨rfl, pos, rfl⟩
    rw [count_all s L hC hl]
    exact ⟨rfl, (Below.refl _ _).alloc (Nat.le_refl _) _⟩
  have HPL := Lib.hid (fun w => places_any s t L T hC hT hl ht hs w)
  have hLs := ens_len_of hl hs
  have HP : Hid (∀ x w', IsF L T fr x → Below w.heap.size w w' → NumE (idxF L T fr) 0 w (.returned (.tuple #[.int .i64 x, .int .i64 0])) w') := fun x w' hx h => by
    rw [idxF_of hx]
    exact ⟨rfl, h⟩
  have HPLn : Hid ((plcA L T).length ≤ 4097) := by
    have := plc_len L T (L.length + 1)
    show (plc L T (L.length + 1)).length ≤ _
    omega
  have HFF : Hid (∀ {k : Nat} (h : k < (plcA L T).length), (∀ j (hj : j < (plcA L T).length), j < k → (((plcA L T)[j] : Nat) : Int) < min fr L.length) → min fr L.length ≤ (((plcA L T)[k] : Nat) : Int) → IsF L T fr (((plcA L T)[k] : Nat) : Int)) := fun h a b => F_found h a b
  have HFN : Hid ((∀ j (hj : j < (plcA L T).length), (((plcA L T)[j] : Nat) : Int) < min fr L.length) → IsF L T fr (-1)) := fun h => F_none h
  have HUG : Hid (∀ k (h : k < (up (plcA L T)).length) (h2 : k < (plcA L T).length), (up (plcA L T))[k] = (((plcA L T)[k] : Nat) : Int)) := fun k h h2 => up_get _ k h
  have HUL : Hid ((up (plcA L T)).length = (plcA L T).length) := up_length _
  have HPB : Hid (∀ k (h : k < (plcA L T).length), (plcA L T)[k] ≤ 4096) := fun k h => Nat.le_trans (plcA_get k h).1 hLs
  clear hC hT hl ht
  generalize idxF L T fr = R at *
  generalize plcA L T = P at *
  go_enter Try.func37, Try.ntmps37
  go_wp2_with fail
  refine (HK.out _).mono ?_
  rintro e w1 ⟨rfl, hb1⟩
  have HB1 := Lib.hid hb1
  clear hb1
  go_wp2_with fail
  refine (HR.out _).mono ?_
  rintro e w2 ⟨rfl, hb2⟩
  have HB2 : Hid (Below w.heap.size w w2) := HB1.out.trans (hb2.mono HB1.out.size)
  clear hb2
  have hpl := HPLn.out
  go_wp2_with fail
  refine (HPL.out _).mono ?_
  rintro e w3 ⟨v, rfl, hb3, hr3⟩
  have HB3 : Hid (Below w.heap.size w w3) := HB2.out.trans (hb3.mono HB2.out.size)
  obtain ⟨ao, cv, rfl, hcl⟩ := row_cells hr3
  have HCL := Lib.hid (hcl w3 (Below.refl _ _))
  rw [HUL.out]
  clear hb3 hr3 hcl
  generalize hm : min fr (L.length : Int) = m at *
  have HM := Lib.hid hm
  clear hm
  go_wp2_with fail
  go_loop [26] (fun i => ∃ k : Nat, ∃ hk : k ≤ P.length, i = .int .i64 k ∧ Hid (∀ j (hj : j < P.length), j < k → ((P[j] : Nat) : Int) < m)) (fun i => P.length - (intOf i).toNat)
  case atStart => exact ⟨0, Nat.zero_le _, rfl, fun j _ hj => absurd hj (Nat.not_lt_zero j)⟩
  case round =>
    obtain ⟨k, hk, rfl, hall⟩ := hrel
    by_cases hlt : k < P.length
    · obtain ⟨b, o, rfl, hc⟩ := HCL.out k (by rw [HUL.out]; exact hlt)
      rw [HUG.out k _ hlt] at hc
      have HFk := Lib.hid (HFF.out hlt hall.out)
      have hpb := HPB.out k hlt
      have HN : Hid (((P[k] : Nat) : Int) < m → ∀ j (hj : j < P.length), j < k + 1 → ((P[j] : Nat) : Int) < m) := fun hh j hl hj => by
        by_cases e : j = k
        · subst e; exact hh
        · exact hall.out j hl (by omega)
      generalize P[k] = p at *
      by_cases hpm : m ≤ (p : Int)
      · have HX := Lib.hid (HFk.out hpm)
        clear HN HFk
        go_wp2
        go_ret2
        exact HP.out _ _ HX.out HB3.out
      · have HX := Lib.hid (HN.out (by omega))
        clear HN HFk
        go_wp2
        go_round
        case rel => exact ⟨k + 1, by omega, by go_num, HX⟩
        case measure => simp [intOf]; omega
    · obtain rfl : k = P.length := by omega
      have HX := Lib.hid (HFN.out (fun j hj => hall.out j hj hj))
      go_wp2
      go_ret2
      exact HP.out _ _ HX.out HB3.out

set_option maxRecDepth 100000 in
set_option maxHeartbeats 4000000 in
theorem Last_ok (s t : ByteArray) (L T : List Nat) (hC : allC L) (hT : allC T) (hl : s.data.toList = ens L) (ht : t.data.toList = ens T) (hs : s.size ≤ 4096) (hts : t.size ≤ 4096) (fr : Int) (w : World) :
    Calls Try.prog 39 #[.string s, .string t, .int .i64 fr] w (NumE (idxL L T fr) 0 w) := by
  have HK := Lib.hid (fun w => check2_ok hC hT hl ht hs hts w)
  have HPL := Lib.hid (fun w => places_any s t L T hC hT hl ht hs w)
  have hLs := ens_len_of hl hs
  have HP : Hid (∀ x w', IsL L T fr x → Below w.heap.size w w' → NumE (idxL L T fr) 0 w (.returned (.tuple #[.int .i64 x, .int .i64 0])) w') := fun x w' hx h => by
    rw [idxL_of hx]
    exact ⟨rfl, h⟩
  have HPLn : Hid ((plcA L T).length ≤ 4097) := by
    have := plc_len L T (L.length + 1)
    show (plc L T (L.length + 1)).length ≤ _
    omega
  have HLY : Hid (∀ {k : Nat} (h : k < (plcA L T).length), (((plcA L T)[k] : Nat) : Int) ≤ fr → LastK L T fr (k + 1) (((plcA L T)[k] : Nat) : Int)) := fun h a => lastK_yes h a
  have HLN : Hid (∀ {k : Nat} {x : Int} (h : k < (plcA L T).length), fr < (((plcA L T)[k] : Nat) : Int) → LastK L T fr k x → LastK L T fr (k + 1) x) := fun h a b => lastK_no h (by omega) b
  have HLE : Hid (∀ x, LastK L T fr (plcA L T).length x → IsL L T fr x) := fun x h => lastK_end h
  have HL0 : Hid (LastK L T fr 0 (-1)) := lastK_zero L T fr
  have HUG : Hid (∀ k (h : k < (up (plcA L T)).length) (h2 : k < (plcA L T).length), (up (plcA L T))[k] = (((plcA L T)[k] : Nat) : Int)) := fun k h h2 => up_get _ k h
  have HUL : Hid ((up (plcA L T)).length = (plcA L T).length) := up_length _
  clear hC hT hl ht
  generalize idxL L T fr = R at *
  generalize plcA L T = P at *
  go_enter Try.func39, Try.ntmps39
  go_wp2_with fail
  refine (HK.out _).mono ?_
  rintro e w1 ⟨rfl, hb1⟩
  have HB1 := Lib.hid hb1
  clear hb1
  have hpl := HPLn.out
  go_wp2_with fail
  refine (HPL.out _).mono ?_
  rintro e w3 ⟨v, rfl, hb3, hr3⟩
  have HB3 : Hid (Below w.heap.size w w3) := HB1.out.trans (hb3.mono HB1.out.size)
  obtain ⟨ao, cv, rfl, hcl⟩ := row_cells hr3
  have HCL := Lib.hid (hcl w3 (Below.refl _ _))
  rw [HUL.out]
  clear hb3 hr3 hcl
  go_wp2_with fail
  go_loop [9, 23] (fun la i => ∃ (k : Nat) (x : Int), k ≤ P.length ∧ i = .int .i64 k ∧ la = .int .i64 x ∧ Hid (LastK L T fr k x)) (fun _ i => P.length - (intOf i).toNat)
  case atStart => exact ⟨0, -1, Nat.zero_le _, rfl, rfl, HL0⟩
  case round =>
    obtain ⟨k, x, hk, rfl, rfl, hlk⟩ := hrel
    by_cases hlt : k < P.length
    · obtain ⟨b, o, rfl, hc⟩ := HCL.out k (by rw [HUL.out]; exact hlt)
      rw [HUG.out k _ hlt] at hc
      have HY := Lib.hid (HLY.out hlt)
      have HN : Hid (fr < ((P[k] : Nat) : Int) → LastK L T fr (k + 1) x) := fun h => HLN.out hlt h hlk.out
      generalize P[k] = p at *
      by_cases hpm : (p : Int) ≤ fr
      · have HX := Lib.hid (HY.out hpm)
        clear HN HY
        go_wp2
        go_round
        case rel => exact ⟨k + 1, p, by omega, by go_num, rfl, HX⟩
        case measure => simp [intOf]; omega
      · have HX := Lib.hid (HN.out (by omega))
        clear HN HY
        go_wp2
        go_round
        case rel => exact ⟨k + 1, x, by omega, by go_num, rfl, HX⟩
        case measure => simp [intOf]; omega
    · obtain rfl : k = P.length := by omega
      have HX := Lib.hid (HLE.out x hlk.out)
      go_wp2
      go_ret2
      exact HP.out _ _ HX.out HB3.out

end Go.Proofs.Ytdjpjknbbedamaa
