/-
  The document's Escape and Unescape. No condition.
-/
import Derived.Test.YtegckpkancbnmaaDoorEv
import Derived.Test.YtegckpkancbnmaaDoorWt
namespace Go.Proofs.YtegckpkancbnmaaDoor
open Go.RowKit

theorem esB_snoc (L : List Nat) (k : Nat) (h : k < L.length) : ens ((L.take (k + 1)).flatMap esC) = ens ((L.take k).flatMap esC) ++ esB L[k] := by
  rw [flat_take esC L k h, ens_append]
  rfl
theorem rEscape_bad (s : ByteArray) (hb : ckE s ≠ 0) (w : World) : Calls Tryd.prog 10 #[.string s] w (TxP [] (ckE s) w) := by
  have HK := Lib.hid (fun w => Checked_any s w)
  have hn : (ckE s != 0) = true := by simpa using hb
  have HP : Hid (∀ w, TxP [] (ckE s) w (.returned (.tuple #[.string ⟨#[]⟩, .int .i64 (ckE s)])) w) := fun w => ⟨rfl, Below.refl _ _⟩
  clear hb
  generalize ckE s = x at *
  go_enter Tryd.func10, Tryd.ntmps10
  go_wp2_with fail
  refine (HK.out _).mono ?_
  rintro e w' ⟨rfl, rfl⟩
  go_wp2
  go_ret2
  exact HP.out _

set_option maxRecDepth 100000 in
set_option maxHeartbeats 2000000 in
theorem rEscape_ok (s : ByteArray) (L : List Nat) (hC : allC L) (hl : s.data.toList = ens L) (hs : s.size ≤ 4096) (w : World) : Calls Tryd.prog 10 #[.string s] w (TxP (frmL esC L) (frmE esC L) w) := by
  have HK : Hid (∀ w, Calls Tryd.prog 29 #[.string s] w (ErrS 0 w)) := fun w => by
    have := Checked_any s w
    rwa [ckE_ok hs hC hl] at this
  have HR := Lib.hid (fun w => Runes_any s L hC hl w hs)
  have HLL : L.length ≤ 4096 := by
    have := (ens_length_le L).1
    rw [← hl, ← size_list] at this
    omega
  have HP : Hid (∀ w', Below w.heap.size w w' → TxP (frmL esC L) (frmE esC L) w (.returned (.tuple #[.string (bs (frmL esC L)), .int .i64 (frmE esC L)])) w') := fun w' h => ⟨rfl, h⟩
  have HSt : Hid (∀ k, (h : k < L.length) → bs (ens ((L.take k).flatMap esC)) ++ bs (esB L[k]) = bs (ens ((L.take (k + 1)).flatMap esC))) := fun k h => by
    rw [esB_snoc L k h, bs_append]
  have HE : Hid (∀ k, L.length ≤ k → bs (ens ((L.take k).flatMap esC)) = bs (ens (L.flatMap esC))) := fun k h => by
    rw [List.take_of_length_le h]
  have HLen : Hid (∀ k, k ≤ L.length → ((bs (ens ((L.take k).flatMap esC))).size : Int) ≤ 8388600) := fun k h => by
    have h1 := (ens_length_le ((L.take k).flatMap esC)).2
    have h2 := flat_len esC 10 esC_len (L.take k)
    have h3 : (L.take k).length ≤ k := by rw [List.length_take]; omega
    show _ ≤ _
    rw [bs_size]
    omega
  have HSZ : Hid (∀ w, Calls Tryd.prog 33 #[.string (bs (ens (L.flatMap esC)))] w (TxS (frmL esC L) (frmE esC L) w)) := fun w => sized_any _ w (by
    have h1 := (ens_length_le (L.flatMap esC)).2
    have h2 := flat_len esC 10 esC_len L
    omega)
  have HCC : Hid (∀ k, (h : k < L.length) → isC L[k] = true) := fun k h => hC _ (List.getElem_mem h)
  have H0 : Hid (bs (ens ((L.take 0).flatMap esC)) = ⟨#[]⟩) := rfl
  clear hC hl
  generalize frmL esC L = R1 at *
  generalize frmE esC L = R2 at *
  generalize hT : bs (ens (L.flatMap esC)) = T at *
  clear hT
  go_enter Tryd.func10, Tryd.ntmps10
  go_wp2_with fail
  refine (HK.out _).mono ?_
  rintro e w' ⟨rfl, rfl⟩
  go_wp2_with fail
  refine (HR.out _).mono ?_
  rintro e w1 ⟨v, rfl, hb1, hr1⟩
  have HB1 := Lib.hid hb1
  obtain ⟨hro, ao, cv, rfl⟩ := hr1
  have HRD : Hid (∀ k (h : k < L.length) w', Below w1.heap.size w1 w' → ∃ b o, ao = some ⟨b, o, none⟩ ∧ w'.cell? ⟨b, o + k, none⟩ = some (.int .i64 (L[k] : Nat))) := fun k h w' hbl => by
    obtain ⟨ao', c0, hv, hlc, hrd⟩ := Row.rd (⟨hro, ao, cv, rfl⟩ : Row 3 .i64 w.heap.size (.slice ao (up L).length cv) (up L) w1)
    obtain ⟨rfl, _⟩ : ao = ao' ∧ cv = c0 := by
      simp only [Value.slice.injEq] at hv
      exact ⟨hv.1, hv.2.2⟩
    obtain ⟨b, o, e, hb, hc⟩ := hrd (by rw [up_length]; omega)
    refine ⟨b, o, e, ?_⟩
    rw [hbl.cell (p := ⟨b, o + k, none⟩) (by show b < _; omega)]
    have := hc k (by rw [up_length]; exact h)
    rw [up_get] at this
    exact this
  clear hb1 hro
  rw [up_length]
  have HBR := Lib.hid (Below.refl w1.heap.size w1)
  go_wp2
  go_loopw [5, 7] (fun ov iv wr => ∃ k : Nat, k ≤ L.length ∧ iv = .int .i64 k ∧ ov = .string (bs (ens ((L.take k).flatMap esC))) ∧ Hid (Below w1.heap.size w1 wr)) (fun _ iv _ => L.length - (intOf iv).toNat)
  case atStart => exact ⟨0, Nat.zero_le _, rfl, by rw [H0.out], HBR⟩
  case round =>
    obtain ⟨k, hk, rfl, rfl, hbl⟩ := hrel
    have hln := HLen.out k hk
    by_cases hlt : k < L.length
    · obtain ⟨b, o, rfl, hcell⟩ := HRD.out k hlt _ hbl.out
      have hci := HCC.out k hlt
      have HStk := Lib.hid (HSt.out k hlt)
      have hi := isC_iff.1 hci
      generalize L[k] = c at *
      have h1 : c ≤ 1114111 := by omega
      generalize bs (ens ((L.take k).flatMap esC)) = X at *
      have hX : (X.size : Int) ≤ 8388600 := hln
      clear hln
      by_cases h92 : c = 92
      · subst h92
        rw [esB_slash] at HStk
        rw [show ((92 : Nat) : Int) = 92 from rfl] at hcell
        clear hi hci
        go_wp2
        go_roundw
        case rel => exact ⟨k + 1, by omega, by go_num, by rw [HStk.out], hbl⟩
        case measure => simp [intOf]; omega
      · have n92 : ((c : Int) == 92) = false := by simp; omega
        by_cases ho : c < 32 ∨ 126 < c
        · have HX := Lib.hid (esB_out c h1 h92 ho)
          have HH := Lib.hid (fun w => rHex_any c h1 w)
          have hsz : ((bs (hxs c)).size : Int) ≤ 8 := by
            have := hxs_len6 h1
            rw [bs_size]
            omega
          unfold StrS at HH
          clear hi hci h92
          generalize bs (hxs c) = Y at *
          rcases ho with ho | ho
          · have ho2 : (c : Int) < 32 := by omega
            go_wp2_with fail
            refine (HH.out _).mono ?_
            rintro e w' ⟨rfl, rfl⟩
            go_wp2
            go_roundw
            case rel => exact ⟨k + 1, by omega, by go_num, by rw [← HStk.out, ← HX.out], hbl⟩
            case measure => simp [intOf]; omega
          · have ho2 : (126 : Int) < c := by omega
            have ho3 : ¬ (c : Int) < 32 := by omega
            go_wp2_with fail
            refine (HH.out _).mono ?_
            rintro e w' ⟨rfl, rfl⟩
            go_wp2
            go_roundw
            case rel => exact ⟨k + 1, by omega, by go_num, by rw [← HStk.out, ← HX.out], hbl⟩
            case measure => simp [intOf]; omega
        · rw [esB_plain c h1 h92 ho] at HStk
          have HO := Lib.hid (fun w => one_any c hci w)
          unfold StrP at HO
          have hsz : ((bs (en c)).size : Int) ≤ 4 := by
            have := (en_length c).2
            rw [bs_size]
            omega
          have ho1 : ¬ (c : Int) < 32 := by omega
          have ho2 : ¬ (126 : Int) < (c : Int) := by omega
          clear hi hci h92 ho
          generalize bs (en c) = Y at *
          go_wp2_with fail
          refine (HO.out _).mono ?_
          rintro e w2 ⟨rfl, hb2⟩
          have HB2 : Hid (Below w1.heap.size w1 w2) := hbl.out.trans (hb2.mono hbl.out.size)
          clear hb2
          go_wp2
          go_roundw
          case rel => exact ⟨k + 1, by omega, by go_num, by rw [HStk.out], HB2⟩
          case measure => simp [intOf]; omega
    · have he := HE.out k (by omega)
      rw [he]
      clear he
      go_wp2_with fail
      refine (HSZ.out _).mono ?_
      rintro e w' ⟨rfl, rfl⟩
      have HBL : Hid (Below w.heap.size w wr) := HB1.out.trans (hbl.out.mono HB1.out.size)
      go_wp2
      go_ret2
      exact HP.out _ HBL.out

end Go.Proofs.YtegckpkancbnmaaDoor
