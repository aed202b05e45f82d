/-
  num.nextSerial: the walk. Conditions: a text of letters and then digits of at most 4096 bytes.
-/
import Derived.Test.YtmlifgngdilplaaDoorNxs
namespace Go.Proofs.YtmlifgngdilplaaDoor
open Go.RowKit
theorem furP_len_of (s : ByteArray) (i : Nat) {v : UInt8} (h : furP s.data.toList = (mix s.data.toList (i + 1)).set i v) (hz : s.data.toList.length = s.size) : (furP s.data.toList).length = s.size := by
  rw [h, List.length_set, mix_len, hz]

def SerP (s : ByteArray) (w : World) (e : Ending) (w' : World) : Prop := e = .returned (.string (bs (furP s.data.toList))) ∧ Below w.heap.size w w'

set_option maxRecDepth 100000 in
set_option maxHeartbeats 1600000 in
theorem nextSerial_any (s : ByteArray) (w : World) (hs : s.size ≤ 4096) (hc : cntB s.data.toList = true) : Calls Tryd.prog 67 #[.string s] w (SerP s w) := by
  have hne := ((cnt_iff _).1 hc).1
  have HBD := Lib.hid (cnt_bd _ hc)
  have HP : Hid (∀ v w', v = bs (furP s.data.toList) → Below w.heap.size w w' → SerP s w (.returned (.string v)) w') := by
    rintro v w' rfl hb
    exact ⟨rfl, hb⟩
  obtain ⟨W1, cap, hcv, hB1, hz1, hcell, hfr⟩ := bytes_made s w
  have HB1 := Lib.hid hB1
  have HC0 : Hid (Cells (mix s.data.toList s.data.toList.length) w.heap.size W1) := by
    intro j c hj
    rw [mix_all] at hj
    have hlt : j < s.size := by rw [size_list]; exact (List.getElem?_eq_some_iff.1 hj).1
    rw [getElem_list s j hlt] at hj
    cases hj
    exact hcell j hlt
  have HFR : Hid (∀ j, j < s.size → W1.frozen? ⟨w.heap.size, j, none⟩ = false) := hfr
  have HFA : Hid (Far s.data.toList s.data.toList.length) := far_start _ hne
  have hpos : 0 < s.size := by
    rw [size_list]
    exact Nat.pos_of_ne_zero fun h => hne (List.eq_nil_of_length_eq_zero h)
  clear hB1 hcell hfr hz1 hc hne
  have HSZ : Hid (s.data.toList.length = s.size) := rfl
  rw [HSZ.out] at HC0 HFA
  go_enter Tryd.func67, Tryd.ntmps67
  go_wp2_with fail
  generalize hbe : w.heap.size = b at *
  have HBE := Lib.hid hbe
  clear hbe
  go_loopw [4] (fun i wr => ∃ k : Nat, k ≤ s.size ∧ i = .int .i64 ((k : Int) - 1) ∧ Hid (Below b w wr) ∧ Hid (Cells (mix s.data.toList k) b wr) ∧ Hid (∀ j, j < s.size → wr.frozen? ⟨b, j, none⟩ = false) ∧ Hid (Far s.data.toList k)) (fun i _ => (intOf i + 1).toNat)
  case atStart => exact ⟨s.size, Nat.le_refl _, rfl, HB1, HC0, HFR, HFA⟩
  case round =>
    obtain ⟨k, hk, rfl, hbr, hcr, hfr, hfa⟩ := hrel
    by_cases h0 : k = 0
    · subst h0
      obtain ⟨c, hc0, hcz, hfu⟩ := show ∃ c, s.data.toList[0]? = some c ∧ cz c = true ∧ furP s.data.toList = hz c :: s.data.toList.map fz from hfa.out
      have hcel : wr.cell? ⟨b, 0, none⟩ = some (.int .u8 ((fz c).toNat : Int)) := hcr.out 0 (fz c) (by rw [mix_at, if_neg (by omega), hc0]; rfl)
      have hfz := hfr.out 0 hpos
      have HCA := Lib.hid (fun w => carried_fz c hcz w)
      have HFU : Hid (bs [hz c] ++ bs (mix s.data.toList 0) = bs (furP s.data.toList)) := by
        show _ = _
        rw [bs_append, hfu, mix_zero]
        rfl
      have hl : ((bs (mix s.data.toList 0)).size : Int) ≤ 8388608 := by rw [bs_size, mix_len, HSZ.out]; omega
      have hl1 : ((bs [hz c]).size : Int) ≤ 8388608 := by rw [bs_size]; simp
      have hbk1 : ∀ q, (convert 74 9 (.slice (some ⟨b, 0, none⟩) s.size cap)).run Tryd.prog (wr.drewN q) = .ok (.string (bs (mix s.data.toList 0))) (wr.drewN q) := fun q => by
        have := (show Cells (mix s.data.toList 0) b (wr.drewN q) from hcr.out).back cap
        rwa [mix_len, HSZ.out] at this
      clear hc0 hcz hfu hk hcr hfr hfa
      generalize bs (mix s.data.toList 0) = M at *
      generalize bs [hz c] = Hc at *
      generalize fz c = d at *
      have HCB : Hid (∀ w, Calls Tryd.prog 98 #[.int .u8 (d.toNat : Int)] w fun e w' => e = .returned (.string Hc) ∧ w' = w) := fun w => (HCA.out w).mono fun e w' h => ⟨h.1, h.2.symm⟩
      clear HCA
      go_wp2_with fail
      go_quiet ((go_at_call 98; exact Calls.quiet_of_same (HCB.out _)))
      go_wp2
      go_ret
      exact HP.out _ _ HFU.out (below_drewN hbr.out _)
    · obtain ⟨i, rfl⟩ : ∃ i, k = i + 1 := ⟨k - 1, by omega⟩
      rw [show (((i + 1 : Nat) : Int) - 1) = (i : Int) by omega]
      have hlt : i < s.size := by omega
      have hgl := getElem_list s i hlt
      have hcel : wr.cell? ⟨b, i, none⟩ = some (.int .u8 (s[i].toNat : Int)) := hcr.out i s[i] (by rw [mix_at, if_pos (by omega)]; exact hgl)
      have hfz := hfr.out i hlt
      have HFR2 : Hid (∀ v, ∀ j, j < s.size → (wr.setCell ⟨b, i, none⟩ v).frozen? ⟨b, j, none⟩ = false) := fun v j hj => by rw [World.frozen?_setCell]; exact hfr.out j hj
      have HBR2 : Hid (∀ v, Below b w (wr.setCell ⟨b, i, none⟩ v)) := fun v => hbr.out.setCell (Nat.le_refl _) v
      cases hcz : cz s[i]
      · have hle : s[i].toNat ≤ 122 := HBD.out _ (List.mem_of_getElem? hgl)
        obtain ⟨z1, z2, z3⟩ := cz_no hcz
        have hst := far_stop _ i s[i] hgl hcz hfa.out
        have hmx := mix_stop s.data.toList i (s[i] + 1) (by rw [HSZ.out]; exact hlt)
        rw [← hmx] at hst
        have hcr2 := hcr.out.put i (by rw [mix_len, HSZ.out]; exact hlt) (s[i] + 1)
        have hbk := hcr2.back cap
        rw [← hst, furP_len_of s i hst HSZ.out] at hbk
        rw [show ((s[i] + 1).toNat : Int) = (s[i].toNat : Int) + 1 by rw [UInt8.toNat_add]; simp; omega] at hbk
        obtain ⟨K, hK⟩ : ∃ K, s[i].toNat = K := ⟨_, rfl⟩
        rw [hK] at hcel hle z1 z2 z3 hbk
        have c122 : ((K : Int) == 122) = false := by rw [← hK]; exact ub_no 122 (by rw [hK]; exact z1)
        have c90 : ((K : Int) == 90) = false := by rw [← hK]; exact ub_no 90 (by rw [hK]; exact z2)
        have c57 : ((K : Int) == 57) = false := by rw [← hK]; exact ub_no 57 (by rw [hK]; exact z3)
        have hk2 : (K : Int) + 1 ≤ 255 := by omega
        clear hst hmx hcr2 hcz hgl z1 z2 z3 hcr hfr hfa hK h0 hk
        go_wp2
        go_ret
        exact HP.out _ _ rfl (HBR2.out _)
      · rcases cz_yes hcz with z1 | z1 | z1
        · have hF : fz s[i] = 97 := by rw [show s[i] = 122 from UInt8.toNat_inj.1 z1]; rfl
          have HFA2 := Lib.hid (far_step _ i s[i] hgl hcz hfa.out)
          have hmx := mix_step s.data.toList i s[i] hgl
          have hcr2 := hcr.out.put i (by rw [mix_len, HSZ.out]; exact hlt) (fz s[i])
          rw [hmx, hF] at hcr2
          have HCR2 : Hid (Cells (mix s.data.toList i) b (wr.setCell ⟨b, i, none⟩ (.int .u8 97))) := hcr2
          rw [z1] at hcel
          have hcel : wr.cell? ⟨b, i, none⟩ = some (.int .u8 122) := hcel
          clear hmx hcr2 hF hcz hgl z1 hcr hfr hfa h0
          go_wp2
          go_roundw
          case rel => exact ⟨i, by omega, rfl, HBR2.out _, HCR2, HFR2.out _, HFA2⟩
          case measure => simp [intOf]
        · have hF : fz s[i] = 65 := by rw [show s[i] = 90 from UInt8.toNat_inj.1 z1]; rfl
          have HFA2 := Lib.hid (far_step _ i s[i] hgl hcz hfa.out)
          have hmx := mix_step s.data.toList i s[i] hgl
          have hcr2 := hcr.out.put i (by rw [mix_len, HSZ.out]; exact hlt) (fz s[i])
          rw [hmx, hF] at hcr2
          have HCR2 : Hid (Cells (mix s.data.toList i) b (wr.setCell ⟨b, i, none⟩ (.int .u8 65))) := hcr2
          rw [z1] at hcel
          have hcel : wr.cell? ⟨b, i, none⟩ = some (.int .u8 90) := hcel
          clear hmx hcr2 hF hcz hgl z1 hcr hfr hfa h0
          go_wp2
          go_roundw
          case rel => exact ⟨i, by omega, rfl, HBR2.out _, HCR2, HFR2.out _, HFA2⟩
          case measure => simp [intOf]
        · have hF : fz s[i] = 48 := by rw [show s[i] = 57 from UInt8.toNat_inj.1 z1]; rfl
          have HFA2 := Lib.hid (far_step _ i s[i] hgl hcz hfa.out)
          have hmx := mix_step s.data.toList i s[i] hgl
          have hcr2 := hcr.out.put i (by rw [mix_len, HSZ.out]; exact hlt) (fz s[i])
          rw [hmx, hF] at hcr2
          have HCR2 : Hid (Cells (mix s.data.toList i) b (wr.setCell ⟨b, i, none⟩ (.int .u8 48))) := hcr2
          rw [z1] at hcel
          have hcel : wr.cell? ⟨b, i, none⟩ = some (.int .u8 57) := hcel
          clear hmx hcr2 hF hcz hgl z1 hcr hfr hfa h0
          go_wp2
          go_roundw
          case rel => exact ⟨i, by omega, rfl, HBR2.out _, HCR2, HFR2.out _, HFA2⟩
          case measure => simp [intOf]

end Go.Proofs.YtmlifgngdilplaaDoor
