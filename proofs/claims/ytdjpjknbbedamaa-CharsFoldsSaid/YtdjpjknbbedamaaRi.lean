/-
  Where a text stands in another one, as the document finds it. No condition beside int's own range.
-/
import Derived.Test.YtdjpjknbbedamaaIx
namespace Go.Proofs.Ytdjpjknbbedamaa
open Go.RowKit

theorem both_any (s t : ByteArray) (w : World) : Calls Try.prog 65 #[.string s, .string t] w (ErrS (ck2 (ckE s) (ckE t)) w) := by
  have H1 := Lib.hid (fun w => Checked_any s w)
  have H2 := Lib.hid (fun w => Checked_any t w)
  have HP : Hid (∀ x w, x = ck2 (ckE s) (ckE t) → ErrS (ck2 (ckE s) (ckE t)) w (.returned (.int .i64 x)) w) := fun x w h => by
    subst h
    exact ⟨rfl, rfl⟩
  by_cases h : ckE s = 0
  · have HX : Hid (ckE t = ck2 (ckE s) (ckE t)) := by
      show _ = _
      unfold ck2
      rw [if_pos h]
    rw [h] at H1
    clear h
    generalize ckE t = y at *
    go_enter Try.func65, Try.ntmps65
    go_wp2_with fail
    refine (H1.out _).mono ?_
    rintro e w' ⟨rfl, rfl⟩
    go_wp2_with fail
    refine (H2.out _).mono ?_
    rintro e w' ⟨rfl, rfl⟩
    go_wp2
    go_ret
    exact HP.out _ _ HX.out
  · have HX : Hid (ckE s = ck2 (ckE s) (ckE t)) := by
      show _ = _
      unfold ck2
      rw [if_neg h]
    have hn : (ckE s != 0) = true := by simpa using h
    clear h
    generalize hx : ck2 (ckE s) (ckE t) = z at *
    have HZ := Lib.hid hx
    clear hx
    generalize ckE s = y at *
    go_enter Try.func65, Try.ntmps65
    go_wp2_with fail
    refine (H1.out _).mono ?_
    rintro e w' ⟨rfl, rfl⟩
    go_wp2
    go_ret
    exact HP.out _ _ HX.out

theorem up_inj {L M : List Nat} (h : up L = up M) : L = M := by
  induction L generalizing M with
  | nil => cases M with
    | nil => rfl
    | cons d M => cases h
  | cons c L ih => cases M with
    | nil => cases h
    | cons d M =>
      have h1 : (c : Int) :: up L = (d : Int) :: up M := h
      injection h1 with h2 h3
      rw [ih h3, Int.ofNat_inj.1 h2]
theorem st_same (L T : List Nat) (k : Nat) (_h : k + T.length ≤ L.length) : (up ((L.drop k).take T.length) == up T) = stB L T k := by
  unfold stB
  rw [Bool.eq_iff_iff, beq_iff_eq, List.isPrefixOf_iff_prefix]
  constructor
  · intro e
    have := up_inj e
    exact ⟨(L.drop k).drop T.length, by conv => lhs; lhs; rw [← this]
                                        exact List.take_append_drop _ _⟩
  · rintro ⟨q, e⟩
    rw [← e, List.take_left]
theorem st_short (L T : List Nat) (k : Nat) (h : ¬ k + T.length ≤ L.length) (hk : k ≤ L.length) : stB L T k = false := by
  unfold stB
  rw [Bool.eq_false_iff, ne_eq, List.isPrefixOf_iff_prefix]
  rintro ⟨q, e⟩
  have := congrArg List.length e
  rw [List.length_append, List.length_drop] at this
  omega

theorem Rd.slot {k : IntKind} {H n c : Nat} {ao : Option Addr} {L : List Int} {w : World} (h : Rd k H (.slice ao n c) L w) : n = L.length ∧ L.length ≤ c ∧ (0 < L.length → ∃ b o, ao = some ⟨b, o, none⟩ ∧ b < H ∧ ∀ j (h : j < L.length), w.cell? ⟨b, o + j, none⟩ = some (.int k L[j])) := by
  obtain ⟨ao2, cv, h1, h2, h3⟩ := h
  injection h1 with h1 h4 h5
  subst h1 h5
  exact ⟨h4, h2, h3⟩

set_option maxRecDepth 100000 in
set_option maxHeartbeats 1000000 in
theorem stands_nil (H2 : Nat) (ao1 ao2 : Option Addr) (c1 c2 : Nat) (w : World) (h2 : Rd .i64 H2 (.slice ao2 0 c2) [] w) :
    Calls Try.prog 69 #[.slice ao1 0 c1, .slice ao2 0 c2, .int .i64 0] w fun e w' => e = .returned (.bool true) ∧ Below w.heap.size w w' := by
  have HSM : Hid (∀ ao c, Calls Try.prog 16 #[.slice ao 0 c, .slice ao2 0 c2] w fun e w' => e = .returned (.bool true) ∧ Below w.heap.size w w') := fun ao c => (SameInts_any [] [] 0 H2 _ _ w ⟨ao, c, rfl, Nat.zero_le _, fun hq => absurd hq (by decide)⟩ h2 (by decide)).mono fun e w' h => h
  clear h2
  cases ao1 with
  | none =>
    go_enter Try.func69, Try.ntmps69
    go_wp2_with fail
    refine (HSM.out _ _).mono ?_
    rintro e w2 ⟨rfl, hb2⟩
    have HB2 := Lib.hid hb2
    clear hb2
    go_wp2
    go_ret
    exact ⟨rfl, HB2.out⟩
  | some a =>
    go_enter Try.func69, Try.ntmps69
    go_wp2_with fail
    all_goals
      refine (HSM.out _ _).mono ?_
      rintro e w2 ⟨rfl, hb2⟩
      have HB2 := Lib.hid hb2
      clear hb2
      go_wp2
      go_ret
      exact ⟨rfl, HB2.out⟩

set_option maxRecDepth 100000 in
set_option maxHeartbeats 1000000 in
theorem stands_any (L T : List Nat) (H1 H2 : Nat) (ao1 ao2 : Option Addr) (c1 c2 : Nat) (k : Nat) (w : World) (h1 : Rd .i64 H1 (.slice ao1 L.length c1) (up L) w) (h2 : Rd .i64 H2 (.slice ao2 T.length c2) (up T) w) (hL : L.length ≤ 4096) (hT : T.length ≤ 4096) (hk : k ≤ L.length) :
    Calls Try.prog 69 #[.slice ao1 L.length c1, .slice ao2 T.length c2, .int .i64 k] w fun e w' => e = .returned (.bool (stB L T k)) ∧ Below w.heap.size w w' := by
  have hb0 : Hid (Below w.heap.size w w) := Below.refl _ _
  by_cases hkt : k + T.length ≤ L.length
  · have HST := Lib.hid (st_same L T k hkt)
    have hlen : (up ((L.drop k).take T.length)).length = T.length := by rw [up_length, List.length_take, List.length_drop]; omega
    have HSM : Hid (∀ v, Rd .i64 H1 v (up ((L.drop k).take T.length)) w → Calls Try.prog 16 #[v, .slice ao2 T.length c2] w fun e w' => e = .returned (.bool (up ((L.drop k).take T.length) == up T)) ∧ Below w.heap.size w w') := fun v hv => SameInts_any _ _ _ _ _ _ w hv h2 (by rw [hlen]; omega)
    obtain ⟨_, hlc1, hr1⟩ := h1.slot
    rw [up_length] at hlc1
    have HRD : Hid ((∃ b o, ao1 = some ⟨b, o, none⟩ ∧ ∀ o' x c', x = T.length → (o' = o + k ∨ T.length = 0) → T.length ≤ c' → Rd .i64 H1 (.slice (some ⟨b, o', none⟩) x c') (up ((L.drop k).take T.length)) w) ∨ (ao1 = none ∧ L.length = 0) ∨ (∃ a, ao1 = some a ∧ L.length = 0)) := by
      by_cases hp : 0 < L.length
      · obtain ⟨b, o, e, hb, hc⟩ := hr1 (by rw [up_length]; exact hp)
        refine .inl ⟨b, o, e, fun o' x c' hx ho hc' => ?_⟩
        refine ⟨_, c', by rw [hlen, hx], by rw [hlen]; exact hc', fun hq => ?_⟩
        rw [hlen] at hq
        refine ⟨b, o', rfl, hb, fun j hj => ?_⟩
        rw [hlen] at hj
        obtain rfl : o' = o + k := by omega
        have h3 : k + j < L.length := by omega
        have := hc (k + j) (by rw [up_length]; exact h3)
        rw [up_get] at this
        rw [Nat.add_assoc, this, up_get]
        simp
      · cases ao1 with
        | none => exact .inr (.inl ⟨rfl, by omega⟩)
        | some a => exact .inr (.inr ⟨a, rfl, by omega⟩)
    have HR2 := Lib.hid h2
    clear hr1 h1 h2
    generalize hst : stB L T k = R at *
    rcases HRD.out with ⟨b, o, rfl, hrd⟩ | ⟨rfl, hl0⟩ | ⟨a, rfl, hl0⟩
    · have HRD2 := Lib.hid hrd
      clear hrd HRD HR2 hst
      generalize up T = U at *
      generalize hX : up ((L.drop k).take T.length) = X at *
      have HX := Lib.hid hX
      clear hX hlen
      go_enter Try.func69, Try.ntmps69
      go_wp2_with fail
      all_goals
        refine (HSM.out _ (HRD2.out _ _ _ (by omega) (by omega) (by omega))).mono ?_
        rintro e w2 ⟨rfl, hb2⟩
        have HB2 := Lib.hid hb2
        clear hb2
        rw [HST.out]
        go_wp2
        go_ret
        exact ⟨rfl, HB2.out⟩
    · obtain rfl : k = 0 := by omega
      obtain rfl : L = [] := List.eq_nil_of_length_eq_zero hl0
      obtain rfl : T = [] := List.eq_nil_of_length_eq_zero (by simp only [List.length_nil] at hkt; omega)
      refine (stands_nil H2 _ ao2 c1 c2 w HR2.out).mono fun e w' h => ?_
      rw [← hst]
      exact h
    · obtain rfl : k = 0 := by omega
      obtain rfl : L = [] := List.eq_nil_of_length_eq_zero hl0
      obtain rfl : T = [] := List.eq_nil_of_length_eq_zero (by simp only [List.length_nil] at hkt; omega)
      refine (stands_nil H2 _ ao2 c1 c2 w HR2.out).mono fun e w' h => ?_
      rw [← hst]
      exact h
  · have HF := Lib.hid (st_short L T k hkt hk)
    clear h1 h2
    go_enter Try.func69, Try.ntmps69
    go_wp2
    go_ret
    exact ⟨ret_bool HF.out.symm, hb0.out⟩

end Go.Proofs.Ytdjpjknbbedamaa
