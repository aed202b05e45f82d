/-
  The document's further: one text further. Conditions: a text of at most 4096 bytes.
-/
import Derived.Test.YtmlifgngdilplaaDoorNxl
namespace Go.Proofs.YtmlifgngdilplaaDoor
open Go.RowKit

theorem last_split (s : ByteArray) (n : Nat) (h0 : n < s.size) (h : s.size = n + 1) : s.data.toList = (s.extract 0 n).data.toList ++ [s[n]] := by
  have h1 : (s.extract 0 n).data.toList = s.data.toList.take n := by
    rw [ByteArray.data_extract, Array.toList_extract]; simp
  rw [h1]
  have h2 := take_snoc s n (by omega)
  rw [← h2, List.take_of_length_le]
  rw [← size_list]; omega

theorem ub_no {c : UInt8} (k : Nat) (h : ¬ c.toNat = k) : ((c.toNat : Int) == (k : Int)) = false := by
  rw [beq_nat]; exact decide_eq_false h
theorem ub_yes {c : UInt8} (k : Nat) (h : c.toNat = k) : ((c.toNat : Int) == (k : Int)) = true := by
  rw [beq_nat]; exact decide_eq_true h
theorem cz_no {c : UInt8} (h : cz c = false) : ¬ c.toNat = 122 ∧ ¬ c.toNat = 90 ∧ ¬ c.toNat = 57 := by
  simp only [cz, Bool.or_eq_false_iff, decide_eq_false_iff_not] at h
  exact ⟨fun e => h.1.1 (UInt8.toNat_inj.1 e), fun e => h.1.2 (UInt8.toNat_inj.1 e), fun e => h.2 (UInt8.toNat_inj.1 e)⟩
theorem cz_yes {c : UInt8} (h : cz c = true) : c.toNat = 122 ∨ c.toNat = 90 ∨ c.toNat = 57 := by
  simp only [cz, Bool.or_eq_true, decide_eq_true_eq] at h
  rcases h with (h | h) | h
  · exact .inl (by rw [h]; rfl)
  · exact .inr (.inl (by rw [h]; rfl))
  · exact .inr (.inr (by rw [h]; rfl))
theorem u8_succ (c : UInt8) : UInt8.ofNat (c.toNat + 1) = c + 1 := by
  apply UInt8.toNat_inj.1
  rw [UInt8.toNat_ofNat', UInt8.toNat_add]
  rfl

def FurP (s : ByteArray) (w : World) (e : Ending) (w' : World) : Prop := e = .returned (.string (bs (furP s.data.toList))) ∧ w = w'

set_option maxRecDepth 100000 in
set_option maxHeartbeats 1600000 in
theorem further_ser (f : Nat) : ∀ (s : ByteArray) (w : World), s.size ≤ f → s.size ≤ 4096 → cntB s.data.toList = true → Calls Tryd.prog 68 #[.string s] w (FurP s w) := by
  induction f with
  | zero =>
    intro s w hf _ hc
    exfalso
    have := ((cnt_iff _).1 hc).1
    apply this
    exact List.eq_nil_of_length_eq_zero (by rw [← size_list]; omega)
  | succ f ih =>
    intro s w hf hs hc
    have hne := ((cnt_iff _).1 hc).1
    obtain ⟨n, hn⟩ : ∃ n, s.size = n + 1 := ⟨s.size - 1, by
      have : s.size ≠ 0 := fun h => hne (List.eq_nil_of_length_eq_zero (by rw [← size_list]; exact h))
      omega⟩
    have HP : Hid (∀ v, v = bs (furP s.data.toList) → FurP s w (.returned (.string v)) w) := by
      rintro v rfl
      exact ⟨rfl, rfl⟩
    have hlt : n < s.size := by omega
    have hsp := last_split s n hlt hn
    have hpz : (s.extract 0 n).size = n := by rw [ByteArray.size_extract]; omega
    have HC := Lib.hid (fun w => counts_any s w (by omega))
    have hcl : s[n].toNat ≤ 122 := cnt_bd _ hc _ (by rw [hsp]; simp)
    have hn1 : (s.size : Int) - 1 = (n : Int) := by omega
    have HCB := Lib.hid hc
    have HSP := Lib.hid hsp
    have HN := Lib.hid hn
    have IH := Lib.hid ih
    have HF := Lib.hid hf
    clear hc hsp hne hn ih hf
    cases hcz : cz s[n]
    · obtain ⟨z1, z2, z3⟩ := cz_no hcz
      have HZ := Lib.hid hcz
      obtain ⟨k, hk⟩ : ∃ k, s[n].toNat = k := ⟨_, rfl⟩
      have HK := Lib.hid hk
      rw [hk] at z1 z2 z3 hcl
      have c122 : ((k : Int) == 122) = false := by rw [← hk]; exact ub_no 122 (by rw [hk]; exact z1)
      have c90 : ((k : Int) == 90) = false := by rw [← hk]; exact ub_no 90 (by rw [hk]; exact z2)
      have c57 : ((k : Int) == 57) = false := by rw [← hk]; exact ub_no 57 (by rw [hk]; exact z3)
      have hk2 : (k : Int) + 1 ≤ 255 := by omega
      have he : ((Utf8.encode ((k : Int) + 1)).size : Int) ≤ 8388608 := by
        rw [show (k : Int) + 1 = ((k + 1 : Nat) : Int) by omega, encode_small (k + 1) (by omega), bs_size]
        simp
      have hn2 : (n : Int) ≤ 8388608 := by omega
      clear z1 z2 z3 hcz
      go_enter Tryd.func68, Tryd.ntmps68
      go_wp2_with fail
      refine (HC.out _).mono ?_
      rintro e w' ⟨rfl, rfl⟩
      rw [HCB.out]
      go_wp2
      go_ret
      refine HP.out _ ?_
      rw [HSP.out, furP_stop _ _ HZ.out, ← bs_append, bs_of, show (k : Int) + 1 = ((k + 1 : Nat) : Int) by omega, encode_small (k + 1) (by omega), ← HK.out, u8_succ]
    · rcases cz_yes hcz with z1 | z1 | z1
      · have HZ := Lib.hid hcz
        have HF1 : Hid (fz s[n] = 97) := by show _ = _; rw [show s[n] = 122 from UInt8.toNat_inj.1 z1]; rfl
        have HH1 : Hid (hz s[n] = 97) := by show _ = _; rw [show s[n] = 122 from UInt8.toNat_inj.1 z1]; rfl
        clear hcz hcl
        by_cases h1 : n = 0
        · subst h1
          have hsz : (s.size : Int) = 1 := by have := HN.out; omega
          have HE : Hid (bs (furP s.data.toList) = bs [97, 97]) := by
            show _ = _
            rw [HSP.out, List.eq_nil_of_length_eq_zero (show (s.extract 0 0).data.toList.length = 0 by rw [← size_list]; exact hpz), List.nil_append, furP_one _ HZ.out, HF1.out, HH1.out]
          clear hn1 hpz hs
          go_enter Tryd.func68, Tryd.ntmps68
          go_wp2_with fail
          refine (HC.out _).mono ?_
          rintro e w' ⟨rfl, rfl⟩
          rw [HCB.out]
          go_wp2
          go_ret
          exact HP.out _ (by rw [HE.out]; rfl)
        · have hsz : ((s.size : Int) == 1) = false := by have := HN.out; simp; omega
          have HE : Hid (bs (furP s.data.toList) = bs (furP (s.extract 0 n).data.toList) ++ ⟨#[97]⟩) := by
            show _ = _
            rw [HSP.out, furP_go _ _ HZ.out (by intro h; have := congrArg List.length h; rw [← size_list, hpz] at this; exact h1 this), HF1.out, ← bs_append]
            rfl
          have hl : ((bs (furP (s.extract 0 n).data.toList)).size : Int) ≤ 8388608 := by
            rw [bs_size]
            have := furP_le (s.extract 0 n).data.toList
            rw [← size_list, hpz] at this
            omega
          have HI : Hid (∀ w, Calls Tryd.prog 68 #[.string (s.extract 0 n)] w fun e w' => e = .returned (.string (bs (furP (s.extract 0 n).data.toList))) ∧ w = w') := fun w => IH.out _ w (by have := HF.out; omega) (by omega) (cnt_init _ _ (by rw [← HSP.out]; exact HCB.out) (by intro h; have := congrArg List.length h; rw [← size_list, hpz] at this; exact h1 this))
          generalize bs (furP (s.extract 0 n).data.toList) = A at *
          go_enter Tryd.func68, Tryd.ntmps68
          go_wp2_with fail
          refine (HC.out _).mono ?_
          rintro e w' ⟨rfl, rfl⟩
          rw [HCB.out]
          go_wp2_with fail
          refine (HI.out _).mono ?_
          rintro e w' ⟨rfl, rfl⟩
          go_wp2
          go_ret
          exact HP.out _ HE.out.symm
      · have HZ := Lib.hid hcz
        have HF1 : Hid (fz s[n] = 65) := by show _ = _; rw [show s[n] = 90 from UInt8.toNat_inj.1 z1]; rfl
        have HH1 : Hid (hz s[n] = 65) := by show _ = _; rw [show s[n] = 90 from UInt8.toNat_inj.1 z1]; rfl
        clear hcz hcl
        by_cases h1 : n = 0
        · subst h1
          have hsz : (s.size : Int) = 1 := by have := HN.out; omega
          have HE : Hid (bs (furP s.data.toList) = bs [65, 65]) := by
            show _ = _
            rw [HSP.out, List.eq_nil_of_length_eq_zero (show (s.extract 0 0).data.toList.length = 0 by rw [← size_list]; exact hpz), List.nil_append, furP_one _ HZ.out, HF1.out, HH1.out]
          clear hn1 hpz hs
          go_enter Tryd.func68, Tryd.ntmps68
          go_wp2_with fail
          refine (HC.out _).mono ?_
          rintro e w' ⟨rfl, rfl⟩
          rw [HCB.out]
          go_wp2
          go_ret
          exact HP.out _ (by rw [HE.out]; rfl)
        · have hsz : ((s.size : Int) == 1) = false := by have := HN.out; simp; omega
          have HE : Hid (bs (furP s.data.toList) = bs (furP (s.extract 0 n).data.toList) ++ ⟨#[65]⟩) := by
            show _ = _
            rw [HSP.out, furP_go _ _ HZ.out (by intro h; have := congrArg List.length h; rw [← size_list, hpz] at this; exact h1 this), HF1.out, ← bs_append]
            rfl
          have hl : ((bs (furP (s.extract 0 n).data.toList)).size : Int) ≤ 8388608 := by
            rw [bs_size]
            have := furP_le (s.extract 0 n).data.toList
            rw [← size_list, hpz] at this
            omega
          have HI : Hid (∀ w, Calls Tryd.prog 68 #[.string (s.extract 0 n)] w fun e w' => e = .returned (.string (bs (furP (s.extract 0 n).data.toList))) ∧ w = w') := fun w => IH.out _ w (by have := HF.out; omega) (by omega) (cnt_init _ _ (by rw [← HSP.out]; exact HCB.out) (by intro h; have := congrArg List.length h; rw [← size_list, hpz] at this; exact h1 this))
          generalize bs (furP (s.extract 0 n).data.toList) = A at *
          go_enter Tryd.func68, Tryd.ntmps68
          go_wp2_with fail
          refine (HC.out _).mono ?_
          rintro e w' ⟨rfl, rfl⟩
          rw [HCB.out]
          go_wp2_with fail
          refine (HI.out _).mono ?_
          rintro e w' ⟨rfl, rfl⟩
          go_wp2
          go_ret
          exact HP.out _ HE.out.symm
      · have HZ := Lib.hid hcz
        have HF1 : Hid (fz s[n] = 48) := by show _ = _; rw [show s[n] = 57 from UInt8.toNat_inj.1 z1]; rfl
        have HH1 : Hid (hz s[n] = 49) := by show _ = _; rw [show s[n] = 57 from UInt8.toNat_inj.1 z1]; rfl
        clear hcz hcl
        by_cases h1 : n = 0
        · subst h1
          have hsz : (s.size : Int) = 1 := by have := HN.out; omega
          have HE : Hid (bs (furP s.data.toList) = bs [49, 48]) := by
            show _ = _
            rw [HSP.out, List.eq_nil_of_length_eq_zero (show (s.extract 0 0).data.toList.length = 0 by rw [← size_list]; exact hpz), List.nil_append, furP_one _ HZ.out, HF1.out, HH1.out]
          clear hn1 hpz hs
          go_enter Tryd.func68, Tryd.ntmps68
          go_wp2_with fail
          refine (HC.out _).mono ?_
          rintro e w' ⟨rfl, rfl⟩
          rw [HCB.out]
          go_wp2
          go_ret
          exact HP.out _ (by rw [HE.out]; rfl)
        · have hsz : ((s.size : Int) == 1) = false := by have := HN.out; simp; omega
          have HE : Hid (bs (furP s.data.toList) = bs (furP (s.extract 0 n).data.toList) ++ ⟨#[48]⟩) := by
            show _ = _
            rw [HSP.out, furP_go _ _ HZ.out (by intro h; have := congrArg List.length h; rw [← size_list, hpz] at this; exact h1 this), HF1.out, ← bs_append]
            rfl
          have hl : ((bs (furP (s.extract 0 n).data.toList)).size : Int) ≤ 8388608 := by
            rw [bs_size]
            have := furP_le (s.extract 0 n).data.toList
            rw [← size_list, hpz] at this
            omega
          have HI : Hid (∀ w, Calls Tryd.prog 68 #[.string (s.extract 0 n)] w fun e w' => e = .returned (.string (bs (furP (s.extract 0 n).data.toList))) ∧ w = w') := fun w => IH.out _ w (by have := HF.out; omega) (by omega) (cnt_init _ _ (by rw [← HSP.out]; exact HCB.out) (by intro h; have := congrArg List.length h; rw [← size_list, hpz] at this; exact h1 this))
          generalize bs (furP (s.extract 0 n).data.toList) = A at *
          go_enter Tryd.func68, Tryd.ntmps68
          go_wp2_with fail
          refine (HC.out _).mono ?_
          rintro e w' ⟨rfl, rfl⟩
          rw [HCB.out]
          go_wp2_with fail
          refine (HI.out _).mono ?_
          rintro e w' ⟨rfl, rfl⟩
          go_wp2
          go_ret
          exact HP.out _ HE.out.symm

end Go.Proofs.YtmlifgngdilplaaDoor
