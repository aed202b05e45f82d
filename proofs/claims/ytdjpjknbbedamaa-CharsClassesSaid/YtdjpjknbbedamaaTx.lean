/-
  The text of a list of numbers: chars.Text and the document's. Conditions: at most 1000000 numbers.
-/
import Derived.Test.YtdjpjknbbedamaaPt
namespace Go.Proofs.Ytdjpjknbbedamaa
open Go.RowKit

theorem dich (M : List Int) : (∃ L, allC L ∧ M = up L) ∨ (∃ k, ∃ h : k < M.length, isCI M[k] = false ∧ ∀ j (hj : j < k), isCI (M[j]'(by omega)) = true) := by
  induction M with
  | nil => exact .inl ⟨[], fun c h => (by cases h), rfl⟩
  | cons x M ih =>
    cases hx : isCI x
    · exact .inr ⟨0, by simp, hx, fun j hj => absurd hj (Nat.not_lt_zero j)⟩
    · rcases ih with ⟨L, hC, rfl⟩ | ⟨k, h, h1, h2⟩
      · left
        obtain ⟨n, rfl⟩ := Int.eq_ofNat_of_zero_le (isCI_iff.1 hx).1
        refine ⟨n :: L, ?_, rfl⟩
        intro c hc
        rcases List.mem_cons.1 hc with rfl | hc
        · rw [← isCI_nat]
          exact hx
        · exact hC c hc
      · right
        refine ⟨k + 1, by simpa using h, h1, ?_⟩
        intro j hj
        match j, hj with
        | 0, _ => exact hx
        | j + 1, hj => exact h2 j (by omega)

set_option maxHeartbeats 1600000 in
theorem rText_bad (M : List Int) (H : Nat) (v : Value) (w : World) (hr : Rd .i64 H v M w) (hl : M.length ≤ 1000000) (k0 : Nat) (h0 : k0 < M.length) (hb : isCI M[k0] = false) (hg : ∀ j (hj : j < k0), isCI (M[j]'(by omega)) = true) :
    Calls Try.prog 18 #[v] w (TxS [] 1 w) := by
  obtain ⟨ao, c0, rfl, hlc, hrd⟩ := hr
  obtain ⟨b, o, rfl, hbH, hcell⟩ := hrd (by omega)
  have HC := Lib.hid hcell
  have HB := Lib.hid hb
  have HG := Lib.hid hg
  have HP : Hid (∀ w, TxS [] 1 w (.returned (.tuple #[.string ⟨#[]⟩, .int .i64 1])) w) := fun w => ⟨rfl, rfl⟩
  clear hrd hcell hb hg
  go_enter Try.func18, Try.ntmps18
  go_wp2
  go_loop [4] (fun i => ∃ k : Nat, k ≤ k0 ∧ i = .int .i64 k) (fun i => M.length - (intOf i).toNat)
  case atStart => exact ⟨0, Nat.zero_le _, rfl⟩
  case round =>
    obtain ⟨k, hk, rfl⟩ := hrel
    have hkM : k < M.length := by omega
    have hc := HC.out k hkM
    by_cases hlt : k < k0
    · have HGk : Hid (isCI M[k] = true) := HG.out k hlt
      generalize M[k] = x at *
      go_wp2_with fail
      refine (IsChar_any _ _).mono ?_
      rintro e w' ⟨rfl, rfl⟩
      rw [HGk.out]
      go_wp2
      go_round
      case rel => exact ⟨k + 1, by omega, by go_num⟩
      case measure => simp [intOf]; omega
    · obtain rfl : k = k0 := by omega
      generalize M[k] = x at *
      go_wp2_with fail
      refine (IsChar_any _ _).mono ?_
      rintro e w' ⟨rfl, rfl⟩
      rw [HB.out]
      go_wp2
      go_ret2
      exact HP.out _

set_option maxHeartbeats 1600000 in
theorem Text_bad (M : List Int) (H : Nat) (v : Value) (w : World) (hr : Rd .i64 H v M w) (hl : M.length ≤ 1000000) (k0 : Nat) (h0 : k0 < M.length) (hb : isCI M[k0] = false) (hg : ∀ j (hj : j < k0), isCI (M[j]'(by omega)) = true) :
    Calls Try.prog 17 #[v] w (TxS [] 1 w) := by
  obtain ⟨ao, c0, rfl, hlc, hrd⟩ := hr
  obtain ⟨b, o, rfl, hbH, hcell⟩ := hrd (by omega)
  have HC := Lib.hid hcell
  have HB := Lib.hid hb
  have HG := Lib.hid hg
  have HP : Hid (∀ w, TxS [] 1 w (.returned (.tuple #[.string ⟨#[]⟩, .int .i64 1])) w) := fun w => ⟨rfl, rfl⟩
  clear hrd hcell hb hg
  go_enter Try.func17, Try.ntmps17
  go_wp2
  go_loop [11] (fun i => ∃ k : Nat, k ≤ k0 ∧ i = .int .i64 k) (fun i => M.length - (intOf i).toNat)
  case atStart => exact ⟨0, Nat.zero_le _, rfl⟩
  case round =>
    obtain ⟨k, hk, rfl⟩ := hrel
    have hkM : k < M.length := by omega
    have hc := HC.out k hkM
    by_cases hlt : k < k0
    · have HGk : Hid (isCI M[k] = true) := HG.out k hlt
      generalize M[k] = x at *
      go_wp2_with fail
      refine (isCharacter_any _ _).mono ?_
      rintro e w' ⟨rfl, rfl⟩
      rw [HGk.out]
      go_wp2
      go_round
      case rel => exact ⟨k + 1, by omega, by go_num⟩
      case measure => simp [intOf]; omega
    · obtain rfl : k = k0 := by omega
      generalize M[k] = x at *
      go_wp2_with fail
      refine (isCharacter_any _ _).mono ?_
      rintro e w' ⟨rfl, rfl⟩
      rw [HB.out]
      go_wp2
      go_ret2
      exact HP.out _

set_option maxHeartbeats 1600000 in
theorem rText_ok (L : List Nat) (hC : allC L) (H : Nat) (v : Value) (w : World) (hH : H ≤ w.heap.size) (hr : Rd .i64 H v (up L) w) (hl : L.length ≤ 1000000) :
    Calls Try.prog 18 #[v] w (TxP (szL (ens L)) (szE (ens L)) w) := by
  have HWR := Lib.hid (Write_any L hC H v w hH hr hl)
  have HSZ : Hid (∀ w, Calls Try.prog 53 #[.string (bs (ens L))] w (TxS (szL (ens L)) (szE (ens L)) w)) := fun w => sized_any _ w (by have := (ens_length_le L).2; omega)
  have HP : Hid (∀ w', Below w.heap.size w w' → TxP (szL (ens L)) (szE (ens L)) w (.returned (.tuple #[.string (bs (szL (ens L))), .int .i64 (szE (ens L))])) w') := fun w' h => ⟨rfl, h⟩
  obtain ⟨ao, c0, rfl, hlc, hrd⟩ := hr
  have HR : Hid (∀ k (h : k < L.length), ∃ b o, ao = some ⟨b, o, none⟩ ∧ w.cell? ⟨b, o + k, none⟩ = some (.int .i64 (L[k] : Nat))) := fun k h => by
    obtain ⟨b, o, e, hb, hc⟩ := hrd (by rw [up_length]; omega)
    refine ⟨b, o, e, ?_⟩
    have := hc k (by rw [up_length]; exact h)
    rw [up_get] at this
    exact this
  have HCI : Hid (∀ k (h : k < L.length), isCI (L[k] : Nat) = true) := fun k h => by
    rw [isCI_nat]
    exact hC _ (List.getElem_mem h)
  rw [up_length] at *
  clear hrd hC hH
  generalize szL (ens L) = R1 at *
  generalize szE (ens L) = R2 at *
  go_enter Try.func18, Try.ntmps18
  go_wp2
  go_loop [4] (fun i => ∃ k : Nat, k ≤ L.length ∧ i = .int .i64 k) (fun i => L.length - (intOf i).toNat)
  case atStart => exact ⟨0, Nat.zero_le _, rfl⟩
  case round =>
    obtain ⟨k, hk, rfl⟩ := hrel
    by_cases hlt : k < L.length
    · obtain ⟨b, o, rfl, hc⟩ := HR.out k hlt
      have HGk : Hid (isCI (L[k] : Nat) = true) := HCI.out k hlt
      generalize L[k] = x at *
      go_wp2_with fail
      refine (IsChar_any _ _).mono ?_
      rintro e w' ⟨rfl, rfl⟩
      rw [HGk.out]
      go_wp2
      go_round
      case rel => exact ⟨k + 1, by omega, by go_num⟩
      case measure => simp [intOf]; omega
    · go_wp2_with fail
      refine (HWR.out).mono ?_
      rintro e w1 ⟨rfl, hb1⟩
      have HB1 := Lib.hid hb1
      clear hb1
      go_wp2_with fail
      refine (HSZ.out _).mono ?_
      rintro e w' ⟨rfl, rfl⟩
      go_wp2
      go_ret2
      exact HP.out _ HB1.out

set_option maxRecDepth 100000 in
set_option maxHeartbeats 2000000 in
theorem Text_ok (L : List Nat) (hC : allC L) (H : Nat) (v : Value) (w : World) (hH : H ≤ w.heap.size) (hr : Rd .i64 H v (up L) w) (hl : L.length ≤ 1000000) :
    Calls Try.prog 17 #[v] w (TxP (szL (ens L)) (szE (ens L)) w) := by
  have HSZ : Hid (∀ w, Calls Try.prog 50 #[.string (bs (ens L))] w (TxS (szL (ens L)) (szE (ens L)) w)) := fun w => limited_any _ w (by have := (ens_length_le L).2; omega)
  have HP : Hid (∀ w', Below w.heap.size w w' → TxP (szL (ens L)) (szE (ens L)) w (.returned (.tuple #[.string (bs (szL (ens L))), .int .i64 (szE (ens L))])) w') := fun w' h => ⟨rfl, h⟩
  obtain ⟨ao, c0, rfl, hlc, hrd⟩ := hr
  have HR : Hid (∀ k (h : k < L.length) w', Below w.heap.size w w' → ∃ b o, ao = some ⟨b, o, none⟩ ∧ w'.cell? ⟨b, o + k, none⟩ = some (.int .i64 (L[k] : Nat))) := fun k h w' hbl => by
    obtain ⟨b, o, e, hb, hc⟩ := hrd (by rw [up_length]; omega)
    refine ⟨b, o, e, ?_⟩
    rw [hbl.cell (p := ⟨b, o + k, none⟩) (by show b < _; omega)]
    have := hc k (by rw [up_length]; exact h)
    rw [up_get] at this
    exact this
  have HCI : Hid (∀ k (h : k < L.length), isCI (L[k] : Nat) = true) := fun k h => by
    rw [isCI_nat]
    exact hC _ (List.getElem_mem h)
  have HWR : Hid (∀ k (h : k < L.length) B b l w, Bld B b l w → l.length + 4 ≤ 140737488355328 → B ≤ w.heap.size → Calls Try.prog 49 #[.pointer (some ⟨b, 0, none⟩), .int .i32 (L[k] : Nat)] w (WrP (en L[k]).length B b (l ++ en L[k]) w)) := fun k h B b l w h1 h2 h3 => WriteRune_any B b l _ (hC _ (List.getElem_mem h)) w h1 h2 h3
  have HCB : Hid (∀ k, (h : k < L.length) → (L[k] : Nat) ≤ 1114111) := fun k h => by
    have := isC_iff.1 (hC _ (List.getElem_mem h))
    show _ ≤ _
    omega
  have HSt : Hid (∀ k, (h : k < L.length) → ens (L.take (k + 1)) = ens (L.take k) ++ en L[k]) := fun k h => by
    rw [take_succ_get L k h, ens_append, ens_one]
  have HE : Hid (∀ k, L.length ≤ k → ens (L.take k) = ens L) := fun k h => ens_take_all L k h
  have HLen : Hid (∀ k, k ≤ L.length → (ens (L.take k)).length + 4 ≤ 140737488355328) := fun k h => by
    have := ens_len_take L k
    show _ ≤ _
    omega
  have HST : Hid (∀ w1, Bld w.heap.size w.heap.size (ens L) w1 → w.heap.size ≤ w1.heap.size → Calls Try.prog 51 #[.pointer (some ⟨w.heap.size, 0, none⟩)] w1 fun e w' => e = .returned (.string (bs (ens L))) ∧ BldKept w.heap.size w.heap.size (ens L) w1 w') := fun w1 h1 h2 => String_any _ _ _ w1 h1 h2
  have HF0 : Hid (Bld w.heap.size w.heap.size (ens (L.take 0)) (w.alloc (.cells #[.pointer none, .slice none 0 0] 60))) := Bld.fresh _ w (Nat.le_refl _)
  have HB0 : Hid (Below w.heap.size w (w.alloc (.cells #[.pointer none, .slice none 0 0] 60))) := (Below.refl _ _).alloc (Nat.le_refl _) _
  have HBR := Lib.hid (Below.refl w.heap.size w)
  rw [up_length] at *
  clear hrd hC
  generalize szL (ens L) = R1 at *
  generalize szE (ens L) = R2 at *
  generalize ens L = R at *
  go_enter Try.func17, Try.ntmps17
  go_wp2
  go_loop [11] (fun i => ∃ k : Nat, k ≤ L.length ∧ i = .int .i64 k) (fun i => L.length - (intOf i).toNat)
  case atStart => exact ⟨0, Nat.zero_le _, rfl⟩
  case round =>
    obtain ⟨k, hk, rfl⟩ := hrel
    by_cases hlt : k < L.length
    · obtain ⟨b, o, rfl, hc⟩ := HR.out k hlt w HBR.out
      have HGk : Hid (isCI (L[k] : Nat) = true) := HCI.out k hlt
      generalize L[k] = x at *
      go_wp2_with fail
      refine (isCharacter_any _ _).mono ?_
      rintro e w' ⟨rfl, rfl⟩
      rw [HGk.out]
      go_wp2
      go_round
      case rel => exact ⟨k + 1, by omega, by go_num⟩
      case measure => simp [intOf]; omega
    · go_wp2_with fail
      generalize w.alloc (.cells #[.pointer none, .slice none 0 0] 60) = w1 at *
      go_loopw [21] (fun i wr => ∃ k : Nat, k ≤ L.length ∧ i = .int .i64 k ∧ Hid (Bld w.heap.size w.heap.size (ens (L.take k)) wr) ∧ Hid (Below w.heap.size w wr)) (fun i _ => L.length - (intOf i).toNat)
      case atStart => exact ⟨0, Nat.zero_le _, rfl, HF0, HB0⟩
      case round =>
        obtain ⟨k, hk, rfl, hbd, hbl⟩ := hrel
        by_cases hlt : k < L.length
        · obtain ⟨b, o, rfl, hc⟩ := HR.out k hlt wr hbl.out
          have HW := Lib.hid (HWR.out k hlt _ _ _ wr hbd.out (HLen.out k hk) hbl.out.size)
          have hcb := HCB.out k hlt
          have HStk := Lib.hid (HSt.out k hlt)
          generalize L[k] = x at *
          go_wp2_with fail
          refine (HW.out).mono ?_
          rintro e w2 ⟨rfl, hk2⟩
          have HBD2 : Hid (Bld w.heap.size w.heap.size (ens (L.take (k + 1))) w2) := by
            show Bld _ _ _ _
            rw [HStk.out]
            exact hk2.1
          have HBL2 : Hid (Below w.heap.size w w2) := hbl.out.trans hk2.2.1
          clear hk2
          go_wp2
          go_roundw
          case rel => exact ⟨k + 1, by omega, by go_num, HBD2, HBL2⟩
          case measure => simp [intOf]; omega
        · have HBD : Hid (Bld w.heap.size w.heap.size R wr) := by
            show Bld _ _ _ _
            rw [← HE.out k (by omega)]
            exact hbd.out
          have HS2 := Lib.hid (HST.out wr HBD.out hbl.out.size)
          go_wp2_with fail
          refine (HS2.out).mono ?_
          rintro e w2 ⟨rfl, hk2⟩
          have HBL2 : Hid (Below w.heap.size w w2) := hbl.out.trans hk2.2.1
          clear hk2
          go_wp2_with fail
          refine (HSZ.out _).mono ?_
          rintro e w' ⟨rfl, rfl⟩
          go_wp2
          go_ret2
          exact HP.out _ HBL2.out

end Go.Proofs.Ytdjpjknbbedamaa
