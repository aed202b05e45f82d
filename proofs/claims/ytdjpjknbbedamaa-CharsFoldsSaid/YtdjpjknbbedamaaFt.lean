/-
  The document's forms of texts: Lower, Upper, Fold, Title. No condition beside a text's own limit.
-/
import Derived.Test.YtdjpjknbbedamaaFr
import Derived.Test.YtdjpjknbbedamaaRx
import Derived.Laws.AppendOwnNone
namespace Go.Proofs.Ytdjpjknbbedamaa
open Go.RowKit

theorem formed_bad (s : ByteArray) (hb : ckE s ≠ 0) (f : Int) (w : World) : Calls Try.prog 60 #[.string s, .int .i64 f] w (TxP [] (ckE s) w) := by
  have HK := Lib.hid (fun w => Checked_any s w)
  have hn : (ckE s != 0) = true := by simpa using hb
  have HP : Hid (∀ w, TxP [] (ckE s) w (.returned (.tuple #[.string ⟨#[]⟩, .int .i64 (ckE s)])) w) := fun w => ⟨rfl, Below.refl _ _⟩
  clear hb
  generalize ckE s = x at *
  go_enter Try.func60, Try.ntmps60
  go_wp2_with fail
  refine (HK.out _).mono ?_
  rintro e w' ⟨rfl, rfl⟩
  go_wp2
  go_ret2
  exact HP.out _

set_option maxRecDepth 100000 in
set_option maxHeartbeats 4000000 in
theorem formed_0 (s : ByteArray) (L : List Nat) (hC : allC L) (hl : s.data.toList = ens L) (hs : s.size ≤ 4096) (w : World) : Calls Try.prog 60 #[.string s, .int .i64 0] w (TxP (frmL smF L) (frmE smF L) w) := by
  obtain ⟨i0, hi, hz0, hz1, hz2⟩ := info_parts info3
  have HK : Hid (∀ w, Calls Try.prog 46 #[.string s] w (ErrS 0 w)) := fun w => by
    have := Checked_any s w
    rwa [ckE_ok hs hC hl] at this
  have HR := Lib.hid (fun w => Runes_any s L hC hl w hs)
  have hLs := ens_len_of hl hs
  have HFL : Hid (∀ k, k ≤ L.length → (up ((L.take k).flatMap smF)).length ≤ 13000) := fun k hk => by
    rw [up_length]
    show _ ≤ _
    have h1 := flat_len smF 1 (fun c => by simp [smF]) (L.take k)
    have h2 : (L.take k).length ≤ k := by rw [List.length_take]; omega
    omega
  have HF0 : Hid (up ((L.take 0).flatMap smF) = []) := rfl
  have HFE : Hid (∀ k, L.length ≤ k → (L.take k).flatMap smF = L.flatMap smF) := fun k hk => by
    rw [List.take_of_length_le hk]
  have HWR : Hid (∀ (v : Value) (w : World), Rd .i64 w.heap.size v (up (L.flatMap smF)) w → Calls Try.prog 54 #[v] w (StrP (ens (L.flatMap smF)) w)) := fun v w h2 => Write_any _ (flat_allC (g := smF) (fun c h => smF_allC h) hC) _ v w (Nat.le_refl _) h2 (by
    have := HFL.out L.length (Nat.le_refl _)
    rw [up_length, HFE.out _ (Nat.le_refl _)] at this
    omega)
  have HSZ : Hid (∀ w, Calls Try.prog 53 #[.string (bs (ens (L.flatMap smF)))] w (TxS (frmL smF L) (frmE smF L) w)) := fun w => sized_any _ w (by
    have h0 := HFL.out L.length (Nat.le_refl _)
    rw [up_length, HFE.out _ (Nat.le_refl _)] at h0
    have h1 := (ens_length_le (L.flatMap smF)).2
    omega)
  have HP : Hid (∀ w', Below w.heap.size w w' → TxP (frmL smF L) (frmE smF L) w (.returned (.tuple #[.string (bs (frmL smF L)), .int .i64 (frmE smF L)])) w') := fun w' h => ⟨rfl, h⟩
  have HUL : Hid ((up L).length = L.length) := up_length L
  have HUG : Hid (∀ k (h : k < (up L).length) (h2 : k < L.length), (up L)[k] = ((L[k] : Nat) : Int)) := fun k h h2 => up_get L k h
  have HG : Hid (∀ k (h : k < L.length) w, Calls Try.prog 86 #[.int .i64 (L[k] : Nat)] w (IntS (smC L[k]) w)) := fun k h w => rsmall_any _ w (hC _ (List.getElem_mem h))
  have HSt : Hid (∀ k (h : k < L.length), (L.take (k + 1)).flatMap smF = (L.take k).flatMap smF ++ [smC L[k]]) := fun k h => flat_take smF L k h
  clear hC hl
  generalize (frmL smF L) = R1 at *
  generalize (frmE smF L) = R2 at *
  go_enter Try.func60, Try.ntmps60
  go_wp2_with fail
  refine (HK.out _).mono ?_
  rintro e w' ⟨rfl, rfl⟩
  go_wp2_with fail
  refine (HR.out _).mono ?_
  rintro e w2 ⟨lv, rfl, hb2, hr2⟩
  have HB2 := Lib.hid hb2
  obtain ⟨aoL, cvL, rfl, hcl⟩ := row_cells hr2
  rw [HUL.out]
  have HCL : Hid (∀ k (h : k < L.length) w', Below w2.heap.size w2 w' → ∃ b o, aoL = some ⟨b, o, none⟩ ∧ w'.cell? ⟨b, o + k, none⟩ = some (.int .i64 (L[k] : Nat))) := fun k h w' hbl => by
    obtain ⟨b, o, e, hc⟩ := hcl w' hbl k (by rw [HUL.out]; exact h)
    rw [HUG.out k _ h] at hc
    exact ⟨b, o, e, hc⟩
  have HBR := Lib.hid (Below.refl w2.heap.size w2)
  clear hb2 hr2 hcl
  go_wp2_with fail
  go_loopw [8, 9] (fun v i wr => ∃ (k : Nat) (ao : Option Addr) (cv : Nat), k ≤ L.length ∧ i = .int .i64 k ∧ v = .slice ao (up ((L.take k).flatMap smF)).length cv ∧ wr.ownsRow w2.heap.size 3 1 v (up ((L.take k).flatMap smF)).length ((up ((L.take k).flatMap smF)).map (Value.int .i64)) ∧ Hid (Below w2.heap.size w2 wr)) (fun _ i _ => L.length - (intOf i).toNat)
  case atStart => exact ⟨0, none, 0, Nat.zero_le _, rfl, by rw [HF0.out]; rfl, by rw [HF0.out]; exact World.ownsRow_nil _ _ _ _, HBR⟩
  case round =>
    obtain ⟨k, ao, cv, hk, rfl, rfl, hown, hbl⟩ := hrel
    have hfl := HFL.out k hk
    have hsize := hbl.out.size
    by_cases hlt : k < L.length
    · obtain ⟨b, o, rfl, hcell⟩ := HCL.out k hlt _ hbl.out
      have HSM := Lib.hid (HG.out k hlt)
      have HStk := Lib.hid (HSt.out k hlt)
      generalize L[k] = c at *
      generalize (L.take k).flatMap smF = A at *
      go_wp2_with fail
      refine (HSM.out _).mono ?_
      rintro e w' ⟨rfl, rfl⟩
      generalize smC c = x at *
      go_wp2_with (first
        | (at_builtin; refine wpList_append_own _ rfl _ _ 25 rfl w2.heap.size 3 i0 (.int .i64 0) 1 8 Try.underlying25 hi hz0 hz1 hz2 rfl (by decide) _ _ _ rfl (hown.alloc _) ⟨wr.heap.size, 0, none⟩ 1 1 [.int .i64 (x : Int)] rfl rfl (cell_one_new _ _ _) (fun x hx => by simp at hx; subst hx; rfl) (by unfold maxLen; omega) (by omega) (by simp; omega) ?_; intro v' w3 hown' hgrow3 hnil3))
      have hb3 : Hid (Below w2.heap.size w2 w3) := (hbl.out.alloc hsize _).grown hgrow3 (by simp; omega) (fun q hq => (hown.lt q hq).1)
      have HO3 : Hid (w3.ownsRow w2.heap.size 3 1 v' (up ((L.take (k + 1)).flatMap smF)).length ((up ((L.take (k + 1)).flatMap smF)).map (Value.int .i64))) := by
        show World.ownsRow _ _ _ _ _ _ _
        rw [HStk.out, up_append, up_one, List.length_append, List.map_append]
        exact hown'
      obtain ⟨ao2, cv2, rfl⟩ := form_any HO3.out
      clear hown' hgrow3 hnil3 hown
      go_wp2
      go_roundw
      case rel => exact ⟨k + 1, ao2, cv2, by omega, by go_num, rfl, HO3.out, hb3⟩
      case measure => simp [intOf]; omega
    · have HRD : Hid (Rd .i64 wr.heap.size (.slice ao (up ((L.take k).flatMap smF)).length cv) (up (L.flatMap smF)) wr) := by
        have h1 : Row 3 .i64 w2.heap.size (.slice ao (up ((L.take k).flatMap smF)).length cv) (up ((L.take k).flatMap smF)) wr := ⟨hown, ao, cv, rfl⟩
        show Rd _ _ _ _ _
        rw [← HFE.out k (by omega)]
        exact h1.rd
      clear hown
      generalize (up ((L.take k).flatMap smF)).length = n at *
      go_wp2_with fail
      refine (HWR.out _ _ HRD.out).mono ?_
      rintro e w4 ⟨rfl, hb4⟩
      have HB4 : Hid (Below w.heap.size w w4) := HB2.out.trans ((hbl.out.mono HB2.out.size).trans (hb4.mono (Nat.le_trans HB2.out.size hsize)))
      clear hb4
      go_wp2_with fail
      refine (HSZ.out _).mono ?_
      rintro e w' ⟨rfl, rfl⟩
      go_wp2
      go_ret2
      exact HP.out _ HB4.out

set_option maxRecDepth 100000 in
set_option maxHeartbeats 4000000 in
theorem formed_1 (s : ByteArray) (L : List Nat) (hC : allC L) (hl : s.data.toList = ens L) (hs : s.size ≤ 4096) (w : World) : Calls Try.prog 60 #[.string s, .int .i64 1] w (TxP (frmL cpC L) (frmE cpC L) w) := by
  obtain ⟨i0, hi, hz0, hz1, hz2⟩ := info_parts info3
  have HK : Hid (∀ w, Calls Try.prog 46 #[.string s] w (ErrS 0 w)) := fun w => by
    have := Checked_any s w
    rwa [ckE_ok hs hC hl] at this
  have HR := Lib.hid (fun w => Runes_any s L hC hl w hs)
  have hLs := ens_len_of hl hs
  have HFL : Hid (∀ k, k ≤ L.length → (up ((L.take k).flatMap cpC)).length ≤ 13000) := fun k hk => by
    rw [up_length]
    show _ ≤ _
    have h1 := flat_len cpC 3 (fun c => (cpC_ne c).2) (L.take k)
    have h2 : (L.take k).length ≤ k := by rw [List.length_take]; omega
    omega
  have HF0 : Hid (up ((L.take 0).flatMap cpC) = []) := rfl
  have HFE : Hid (∀ k, L.length ≤ k → (L.take k).flatMap cpC = L.flatMap cpC) := fun k hk => by
    rw [List.take_of_length_le hk]
  have HWR : Hid (∀ (v : Value) (w : World), Rd .i64 w.heap.size v (up (L.flatMap cpC)) w → Calls Try.prog 54 #[v] w (StrP (ens (L.flatMap cpC)) w)) := fun v w h2 => Write_any _ (flat_allC (g := cpC) (fun c h => cpC_allC h) hC) _ v w (Nat.le_refl _) h2 (by
    have := HFL.out L.length (Nat.le_refl _)
    rw [up_length, HFE.out _ (Nat.le_refl _)] at this
    omega)
  have HSZ : Hid (∀ w, Calls Try.prog 53 #[.string (bs (ens (L.flatMap cpC)))] w (TxS (frmL cpC L) (frmE cpC L) w)) := fun w => sized_any _ w (by
    have h0 := HFL.out L.length (Nat.le_refl _)
    rw [up_length, HFE.out _ (Nat.le_refl _)] at h0
    have h1 := (ens_length_le (L.flatMap cpC)).2
    omega)
  have HP : Hid (∀ w', Below w.heap.size w w' → TxP (frmL cpC L) (frmE cpC L) w (.returned (.tuple #[.string (bs (frmL cpC L)), .int .i64 (frmE cpC L)])) w') := fun w' h => ⟨rfl, h⟩
  have HUL : Hid ((up L).length = L.length) := up_length L
  have HUG : Hid (∀ k (h : k < (up L).length) (h2 : k < L.length), (up L)[k] = ((L[k] : Nat) : Int)) := fun k h h2 => up_get L k h
  have HG : Hid (∀ k (h : k < L.length) w, Calls Try.prog 83 #[.int .i64 (L[k] : Nat)] w (NewP (up (cpC L[k])) w)) := fun k h w => rcapital_any _ w (hC _ (List.getElem_mem h))
  have HSt : Hid (∀ k (h : k < L.length), up ((L.take (k + 1)).flatMap cpC) = up ((L.take k).flatMap cpC) ++ up (cpC L[k])) := fun k h => by rw [flat_take cpC L k h, up_append]
  clear hC hl
  generalize (frmL cpC L) = R1 at *
  generalize (frmE cpC L) = R2 at *
  go_enter Try.func60, Try.ntmps60
  go_wp2_with fail
  refine (HK.out _).mono ?_
  rintro e w' ⟨rfl, rfl⟩
  go_wp2_with fail
  refine (HR.out _).mono ?_
  rintro e w2 ⟨lv, rfl, hb2, hr2⟩
  have HB2 := Lib.hid hb2
  obtain ⟨aoL, cvL, rfl, hcl⟩ := row_cells hr2
  rw [HUL.out]
  have HCL : Hid (∀ k (h : k < L.length) w', Below w2.heap.size w2 w' → ∃ b o, aoL = some ⟨b, o, none⟩ ∧ w'.cell? ⟨b, o + k, none⟩ = some (.int .i64 (L[k] : Nat))) := fun k h w' hbl => by
    obtain ⟨b, o, e, hc⟩ := hcl w' hbl k (by rw [HUL.out]; exact h)
    rw [HUG.out k _ h] at hc
    exact ⟨b, o, e, hc⟩
  have HBR := Lib.hid (Below.refl w2.heap.size w2)
  clear hb2 hr2 hcl
  go_wp2_with fail
  go_loopw [8, 9] (fun v i wr => ∃ (k : Nat) (ao : Option Addr) (cv : Nat), k ≤ L.length ∧ i = .int .i64 k ∧ v = .slice ao (up ((L.take k).flatMap cpC)).length cv ∧ wr.ownsRow w2.heap.size 3 1 v (up ((L.take k).flatMap cpC)).length ((up ((L.take k).flatMap cpC)).map (Value.int .i64)) ∧ Hid (Below w2.heap.size w2 wr)) (fun _ i _ => L.length - (intOf i).toNat)
  case atStart => exact ⟨0, none, 0, Nat.zero_le _, rfl, by rw [HF0.out]; rfl, by rw [HF0.out]; exact World.ownsRow_nil _ _ _ _, HBR⟩
  case round =>
    obtain ⟨k, ao, cv, hk, rfl, rfl, hown, hbl⟩ := hrel
    have hfl := HFL.out k hk
    have hsize := hbl.out.size
    by_cases hlt : k < L.length
    · obtain ⟨b, o, rfl, hcell⟩ := HCL.out k hlt _ hbl.out
      have HSM := Lib.hid (HG.out k hlt)
      have HStk := Lib.hid (HSt.out k hlt)
      have HGL : Hid ((up (cpC L[k])).length ≤ 3) := by
        rw [up_length]
        exact (fun c => (cpC_ne c).2) _
      generalize L[k] = c at *
      generalize (L.take k).flatMap cpC = A at *
      generalize up (cpC c) = X at *
      go_wp2_with fail
      refine (HSM.out _).mono ?_
      rintro e w4 ⟨gb, rfl, hb4, hg1, hg2, hcg⟩
      have hown4 : w4.ownsRow w2.heap.size 3 1 (.slice ao (up A).length cv) (up A).length ((up A).map (Value.int .i64)) := owns_below hown hb4
      have HB4 : Hid (Below w2.heap.size w2 w4) := hbl.out.trans (hb4.mono hsize)
      have hsize4 := HB4.out.size
      have hnews := Lib.hid (news_of hcg)
      have hgl := HGL.out
      have HOW := Lib.hid hown4
      clear hb4 hown hcg
      go_wp2_with (first
        | (at_builtin; refine wpList_append_own _ rfl _ _ 25 rfl w2.heap.size 3 i0 (.int .i64 0) 1 8 Try.underlying25 hi hz0 hz1 hz2 rfl (by decide) _ _ _ rfl hown4 ⟨gb, 0, none⟩ X.length X.length (X.map (Value.int .i64)) rfl (by rw [List.length_map, Nat.mul_one]) hnews.out (ints_oneCell _ _) (by unfold maxLen; omega) (by omega) (by omega) ?_; intro v' w3 hown' hgrow3 hnil3))
      have hb3 : Hid (Below w2.heap.size w2 w3) := HB4.out.grown hgrow3 (by omega) (fun q hq => (HOW.out.lt q hq).1)
      have HO3 : Hid (w3.ownsRow w2.heap.size 3 1 v' (up ((L.take (k + 1)).flatMap cpC)).length ((up ((L.take (k + 1)).flatMap cpC)).map (Value.int .i64))) := by
        show World.ownsRow _ _ _ _ _ _ _
        rw [HStk.out, List.length_append, List.map_append]
        exact hown'
      obtain ⟨ao2, cv2, rfl⟩ := form_any HO3.out
      clear hown' hgrow3 hnil3 hown4
      go_wp2
      go_roundw
      case rel => exact ⟨k + 1, ao2, cv2, by omega, by go_num, rfl, HO3.out, hb3⟩
      case measure => simp [intOf]; omega
    · have HRD : Hid (Rd .i64 wr.heap.size (.slice ao (up ((L.take k).flatMap cpC)).length cv) (up (L.flatMap cpC)) wr) := by
        have h1 : Row 3 .i64 w2.heap.size (.slice ao (up ((L.take k).flatMap cpC)).length cv) (up ((L.take k).flatMap cpC)) wr := ⟨hown, ao, cv, rfl⟩
        show Rd _ _ _ _ _
        rw [← HFE.out k (by omega)]
        exact h1.rd
      clear hown
      generalize (up ((L.take k).flatMap cpC)).length = n at *
      go_wp2_with fail
      refine (HWR.out _ _ HRD.out).mono ?_
      rintro e w4 ⟨rfl, hb4⟩
      have HB4 : Hid (Below w.heap.size w w4) := HB2.out.trans ((hbl.out.mono HB2.out.size).trans (hb4.mono (Nat.le_trans HB2.out.size hsize)))
      clear hb4
      go_wp2_with fail
      refine (HSZ.out _).mono ?_
      rintro e w' ⟨rfl, rfl⟩
      go_wp2
      go_ret2
      exact HP.out _ HB4.out

set_option maxRecDepth 100000 in
set_option maxHeartbeats 4000000 in
theorem formed_2 (s : ByteArray) (L : List Nat) (hC : allC L) (hl : s.data.toList = ens L) (hs : s.size ≤ 4096) (w : World) : Calls Try.prog 60 #[.string s, .int .i64 2] w (TxP (frmL fdC L) (frmE fdC L) w) := by
  obtain ⟨i0, hi, hz0, hz1, hz2⟩ := info_parts info3
  have HK : Hid (∀ w, Calls Try.prog 46 #[.string s] w (ErrS 0 w)) := fun w => by
    have := Checked_any s w
    rwa [ckE_ok hs hC hl] at this
  have HR := Lib.hid (fun w => Runes_any s L hC hl w hs)
  have hLs := ens_len_of hl hs
  have HFL : Hid (∀ k, k ≤ L.length → (up ((L.take k).flatMap fdC)).length ≤ 13000) := fun k hk => by
    rw [up_length]
    show _ ≤ _
    have h1 := flat_len fdC 3 (fun c => (fdC_ne c).2) (L.take k)
    have h2 : (L.take k).length ≤ k := by rw [List.length_take]; omega
    omega
  have HF0 : Hid (up ((L.take 0).flatMap fdC) = []) := rfl
  have HFE : Hid (∀ k, L.length ≤ k → (L.take k).flatMap fdC = L.flatMap fdC) := fun k hk => by
    rw [List.take_of_length_le hk]
  have HWR : Hid (∀ (v : Value) (w : World), Rd .i64 w.heap.size v (up (L.flatMap fdC)) w → Calls Try.prog 54 #[v] w (StrP (ens (L.flatMap fdC)) w)) := fun v w h2 => Write_any _ (flat_allC (g := fdC) (fun c h => fdC_allC h) hC) _ v w (Nat.le_refl _) h2 (by
    have := HFL.out L.length (Nat.le_refl _)
    rw [up_length, HFE.out _ (Nat.le_refl _)] at this
    omega)
  have HSZ : Hid (∀ w, Calls Try.prog 53 #[.string (bs (ens (L.flatMap fdC)))] w (TxS (frmL fdC L) (frmE fdC L) w)) := fun w => sized_any _ w (by
    have h0 := HFL.out L.length (Nat.le_refl _)
    rw [up_length, HFE.out _ (Nat.le_refl _)] at h0
    have h1 := (ens_length_le (L.flatMap fdC)).2
    omega)
  have HP : Hid (∀ w', Below w.heap.size w w' → TxP (frmL fdC L) (frmE fdC L) w (.returned (.tuple #[.string (bs (frmL fdC L)), .int .i64 (frmE fdC L)])) w') := fun w' h => ⟨rfl, h⟩
  have HUL : Hid ((up L).length = L.length) := up_length L
  have HUG : Hid (∀ k (h : k < (up L).length) (h2 : k < L.length), (up L)[k] = ((L[k] : Nat) : Int)) := fun k h h2 => up_get L k h
  have HG : Hid (∀ k (h : k < L.length) w, Calls Try.prog 84 #[.int .i64 (L[k] : Nat)] w (NewP (up (fdC L[k])) w)) := fun k h w => rfold_any _ w (hC _ (List.getElem_mem h))
  have HSt : Hid (∀ k (h : k < L.length), up ((L.take (k + 1)).flatMap fdC) = up ((L.take k).flatMap fdC) ++ up (fdC L[k])) := fun k h => by rw [flat_take fdC L k h, up_append]
  clear hC hl
  generalize (frmL fdC L) = R1 at *
  generalize (frmE fdC L) = R2 at *
  go_enter Try.func60, Try.ntmps60
  go_wp2_with fail
  refine (HK.out _).mono ?_
  rintro e w' ⟨rfl, rfl⟩
  go_wp2_with fail
  refine (HR.out _).mono ?_
  rintro e w2 ⟨lv, rfl, hb2, hr2⟩
  have HB2 := Lib.hid hb2
  obtain ⟨aoL, cvL, rfl, hcl⟩ := row_cells hr2
  rw [HUL.out]
  have HCL : Hid (∀ k (h : k < L.length) w', Below w2.heap.size w2 w' → ∃ b o, aoL = some ⟨b, o, none⟩ ∧ w'.cell? ⟨b, o + k, none⟩ = some (.int .i64 (L[k] : Nat))) := fun k h w' hbl => by
    obtain ⟨b, o, e, hc⟩ := hcl w' hbl k (by rw [HUL.out]; exact h)
    rw [HUG.out k _ h] at hc
    exact ⟨b, o, e, hc⟩
  have HBR := Lib.hid (Below.refl w2.heap.size w2)
  clear hb2 hr2 hcl
  go_wp2_with fail
  go_loopw [8, 9] (fun v i wr => ∃ (k : Nat) (ao : Option Addr) (cv : Nat), k ≤ L.length ∧ i = .int .i64 k ∧ v = .slice ao (up ((L.take k).flatMap fdC)).length cv ∧ wr.ownsRow w2.heap.size 3 1 v (up ((L.take k).flatMap fdC)).length ((up ((L.take k).flatMap fdC)).map (Value.int .i64)) ∧ Hid (Below w2.heap.size w2 wr)) (fun _ i _ => L.length - (intOf i).toNat)
  case atStart => exact ⟨0, none, 0, Nat.zero_le _, rfl, by rw [HF0.out]; rfl, by rw [HF0.out]; exact World.ownsRow_nil _ _ _ _, HBR⟩
  case round =>
    obtain ⟨k, ao, cv, hk, rfl, rfl, hown, hbl⟩ := hrel
    have hfl := HFL.out k hk
    have hsize := hbl.out.size
    by_cases hlt : k < L.length
    · obtain ⟨b, o, rfl, hcell⟩ := HCL.out k hlt _ hbl.out
      have HSM := Lib.hid (HG.out k hlt)
      have HStk := Lib.hid (HSt.out k hlt)
      have HGL : Hid ((up (fdC L[k])).length ≤ 3) := by
        rw [up_length]
        exact (fun c => (fdC_ne c).2) _
      generalize L[k] = c at *
      generalize (L.take k).flatMap fdC = A at *
      generalize up (fdC c) = X at *
      go_wp2_with fail
      refine (HSM.out _).mono ?_
      rintro e w4 ⟨gb, rfl, hb4, hg1, hg2, hcg⟩
      have hown4 : w4.ownsRow w2.heap.size 3 1 (.slice ao (up A).length cv) (up A).length ((up A).map (Value.int .i64)) := owns_below hown hb4
      have HB4 : Hid (Below w2.heap.size w2 w4) := hbl.out.trans (hb4.mono hsize)
      have hsize4 := HB4.out.size
      have hnews := Lib.hid (news_of hcg)
      have hgl := HGL.out
      have HOW := Lib.hid hown4
      clear hb4 hown hcg
      go_wp2_with (first
        | (at_builtin; refine wpList_append_own _ rfl _ _ 25 rfl w2.heap.size 3 i0 (.int .i64 0) 1 8 Try.underlying25 hi hz0 hz1 hz2 rfl (by decide) _ _ _ rfl hown4 ⟨gb, 0, none⟩ X.length X.length (X.map (Value.int .i64)) rfl (by rw [List.length_map, Nat.mul_one]) hnews.out (ints_oneCell _ _) (by unfold maxLen; omega) (by omega) (by omega) ?_; intro v' w3 hown' hgrow3 hnil3))
      have hb3 : Hid (Below w2.heap.size w2 w3) := HB4.out.grown hgrow3 (by omega) (fun q hq => (HOW.out.lt q hq).1)
      have HO3 : Hid (w3.ownsRow w2.heap.size 3 1 v' (up ((L.take (k + 1)).flatMap fdC)).length ((up ((L.take (k + 1)).flatMap fdC)).map (Value.int .i64))) := by
        show World.ownsRow _ _ _ _ _ _ _
        rw [HStk.out, List.length_append, List.map_append]
        exact hown'
      obtain ⟨ao2, cv2, rfl⟩ := form_any HO3.out
      clear hown' hgrow3 hnil3 hown4
      go_wp2
      go_roundw
      case rel => exact ⟨k + 1, ao2, cv2, by omega, by go_num, rfl, HO3.out, hb3⟩
      case measure => simp [intOf]; omega
    · have HRD : Hid (Rd .i64 wr.heap.size (.slice ao (up ((L.take k).flatMap fdC)).length cv) (up (L.flatMap fdC)) wr) := by
        have h1 : Row 3 .i64 w2.heap.size (.slice ao (up ((L.take k).flatMap fdC)).length cv) (up ((L.take k).flatMap fdC)) wr := ⟨hown, ao, cv, rfl⟩
        show Rd _ _ _ _ _
        rw [← HFE.out k (by omega)]
        exact h1.rd
      clear hown
      generalize (up ((L.take k).flatMap fdC)).length = n at *
      go_wp2_with fail
      refine (HWR.out _ _ HRD.out).mono ?_
      rintro e w4 ⟨rfl, hb4⟩
      have HB4 : Hid (Below w.heap.size w w4) := HB2.out.trans ((hbl.out.mono HB2.out.size).trans (hb4.mono (Nat.le_trans HB2.out.size hsize)))
      clear hb4
      go_wp2_with fail
      refine (HSZ.out _).mono ?_
      rintro e w' ⟨rfl, rfl⟩
      go_wp2
      go_ret2
      exact HP.out _ HB4.out


set_option maxRecDepth 100000 in
set_option maxHeartbeats 4000000 in
theorem smallOf_any (M : List Nat) (hC : allC M) (H : Nat) (v : Value) (w : World) (hH : H ≤ w.heap.size) (hr : Rd .i64 H v (up M) w) (hl : M.length ≤ 4096) :
    Calls Try.prog 85 #[v] w (RowP 3 .i64 (up (M.flatMap smF)) w) := by
  obtain ⟨i0, hi, hz0, hz1, hz2⟩ := info_parts info3
  have HP : Hid (∀ w' v, Below w.heap.size w w' → Row 3 .i64 w.heap.size v (up (M.flatMap smF)) w' → RowP 3 .i64 (up (M.flatMap smF)) w (.returned v) w') := fun w' v h1 h2 => ⟨v, rfl, h1, h2⟩
  obtain ⟨aoL, cvL, rfl, hlcL, hrdL⟩ := hr
  have HCL : Hid (∀ k (h : k < M.length) w', Below w.heap.size w w' → ∃ b o, aoL = some ⟨b, o, none⟩ ∧ w'.cell? ⟨b, o + k, none⟩ = some (.int .i64 (M[k] : Nat))) := fun k h w' hbl => by
    obtain ⟨b, o, e, hb, hc⟩ := hrdL (by rw [up_length]; omega)
    refine ⟨b, o, e, ?_⟩
    rw [hbl.cell (p := ⟨b, o + k, none⟩) (by show b < _; omega), hc k (by rw [up_length]; exact h), up_get]
  rw [up_length] at hlcL
  rw [up_length]
  have HFL : Hid (∀ k, k ≤ M.length → (up ((M.take k).flatMap smF)).length ≤ 4096) := fun k hk => by
    have h1 := flat_len smF 1 (fun c => by simp [smF]) (M.take k)
    have h2 : (M.take k).length ≤ k := by rw [List.length_take]; omega
    rw [up_length]
    show _ ≤ _
    omega
  have HFE : Hid (∀ k, M.length ≤ k → up ((M.take k).flatMap smF) = up (M.flatMap smF)) := fun k hk => by
    rw [List.take_of_length_le hk]
  have HG : Hid (∀ k (h : k < M.length) w, Calls Try.prog 86 #[.int .i64 (M[k] : Nat)] w (IntS (smC M[k]) w)) := fun k h w => rsmall_any _ w (hC _ (List.getElem_mem h))
  have HSt : Hid (∀ k (h : k < M.length), (M.take (k + 1)).flatMap smF = (M.take k).flatMap smF ++ [smC M[k]]) := fun k h => flat_take smF M k h
  have HBR := Lib.hid (Below.refl w.heap.size w)
  clear hC hrdL
  generalize up (M.flatMap smF) = U at *
  go_enter Try.func85, Try.ntmps85
  go_wp2
  go_loopw [3, 4] (fun v i wr => ∃ (k : Nat) (ao : Option Addr) (cv : Nat), k ≤ M.length ∧ i = .int .i64 k ∧ v = .slice ao (up ((M.take k).flatMap smF)).length cv ∧ wr.ownsRow w.heap.size 3 1 v (up ((M.take k).flatMap smF)).length ((up ((M.take k).flatMap smF)).map (Value.int .i64)) ∧ Hid (Below w.heap.size w wr)) (fun _ i _ => M.length - (intOf i).toNat)
  case atStart => exact ⟨0, none, 0, Nat.zero_le _, rfl, rfl, World.ownsRow_nil _ _ _ _, HBR⟩
  case round =>
    obtain ⟨k, ao, cv, hk, rfl, rfl, hown, hbl⟩ := hrel
    have hfl := HFL.out k hk
    have hsize := hbl.out.size
    by_cases hlt : k < M.length
    · obtain ⟨b, o, rfl, hcell⟩ := HCL.out k hlt _ hbl.out
      have HSM := Lib.hid (HG.out k hlt)
      have HStk := Lib.hid (HSt.out k hlt)
      generalize M[k] = c at *
      generalize (M.take k).flatMap smF = A at *
      go_wp2_with fail
      refine (HSM.out _).mono ?_
      rintro e w' ⟨rfl, rfl⟩
      generalize smC c = x at *
      go_wp2_with (first
        | (at_builtin; refine wpList_append_own _ rfl _ _ 25 rfl w.heap.size 3 i0 (.int .i64 0) 1 8 Try.underlying25 hi hz0 hz1 hz2 rfl (by decide) _ _ _ rfl (hown.alloc _) ⟨wr.heap.size, 0, none⟩ 1 1 [.int .i64 (x : Int)] rfl rfl (cell_one_new _ _ _) (fun x hx => by simp at hx; subst hx; rfl) (by unfold maxLen; omega) (by omega) (by simp; omega) ?_; intro v' w3 hown' hgrow3 hnil3))
      have hb3 : Hid (Below w.heap.size w w3) := (hbl.out.alloc hsize _).grown hgrow3 (by simp; omega) (fun q hq => (hown.lt q hq).1)
      have HO3 : Hid (w3.ownsRow w.heap.size 3 1 v' (up ((M.take (k + 1)).flatMap smF)).length ((up ((M.take (k + 1)).flatMap smF)).map (Value.int .i64))) := by
        show World.ownsRow _ _ _ _ _ _ _
        rw [HStk.out, up_append, up_one, List.length_append, List.map_append]
        exact hown'
      obtain ⟨ao2, cv2, rfl⟩ := form_any HO3.out
      clear hown' hgrow3 hnil3 hown
      go_wp2
      go_roundw
      case rel => exact ⟨k + 1, ao2, cv2, by omega, by go_num, rfl, HO3.out, hb3⟩
      case measure => simp [intOf]; omega
    · have HR : Hid (Row 3 .i64 w.heap.size (.slice ao (up ((M.take k).flatMap smF)).length cv) U wr) := by
        show Row _ _ _ _ _ _
        rw [← HFE.out k (by omega)]
        exact ⟨hown, ao, cv, rfl⟩
      clear hown
      generalize (up ((M.take k).flatMap smF)).length = n at *
      go_wp2
      go_ret
      exact HP.out _ _ hbl.out HR.out


theorem flat_smF (T : List Nat) : T.flatMap smF = T.map smC := by
  induction T with
  | nil => rfl
  | cons c T ih => rw [List.flatMap_cons, ih]; rfl
theorem tt_allC {L : List Nat} (h : allC L) : allC (ttL L) := by
  have hM : allC (ttM L) := flat_allC (fun c h => cpC_allC h) (allC_take h 1)
  exact allC_append (allC_take hM 1) (flat_allC (fun c h => smF_allC h) (allC_append (allC_drop hM 1) (allC_drop h 1)))
theorem tt_one (L : List Nat) (h : 0 < L.length) : ttL (L.take 1) = (cpC L[0]).take 1 ++ ((cpC L[0]).drop 1).flatMap smF := by
  obtain ⟨c, L, rfl⟩ : ∃ c M, L = c :: M := by
    cases L with
    | nil => simp at h
    | cons c L => exact ⟨c, L, rfl⟩
  simp [ttL, ttM]
theorem tt_more (L : List Nat) (k : Nat) (hk : k < L.length) (h1 : 1 ≤ k) : ttL (L.take (k + 1)) = ttL (L.take k) ++ [smC L[k]] := by
  have hM : ttM (L.take (k + 1)) = ttM (L.take k) := by
    unfold ttM
    rw [List.take_take, List.take_take, Nat.min_eq_left (by omega), Nat.min_eq_left h1]
  unfold ttL
  rw [hM, take_succ_get L k hk, List.drop_append_of_le_length (by rw [List.length_take]; omega), ← List.append_assoc, List.flatMap_append, List.append_assoc]
  simp [smF]

set_option maxRecDepth 100000 in
set_option maxHeartbeats 4000000 in
theorem formed_3 (s : ByteArray) (L : List Nat) (hC : allC L) (hl : s.data.toList = ens L) (hs : s.size ≤ 4096) (w : World) : Calls Try.prog 60 #[.string s, .int .i64 3] w (TxP (szL (ens (ttL L))) (szE (ens (ttL L))) w) := by
  obtain ⟨i0, hi, hz0, hz1, hz2⟩ := info_parts info3
  have HK : Hid (∀ w, Calls Try.prog 46 #[.string s] w (ErrS 0 w)) := fun w => by
    have := Checked_any s w
    rwa [ckE_ok hs hC hl] at this
  have HR := Lib.hid (fun w => Runes_any s L hC hl w hs)
  have hLs := ens_len_of hl hs
  have HFL : Hid (∀ k, k ≤ L.length → (up (ttL (L.take k))).length ≤ 13000) := fun k hk => by
    rw [up_length]
    show _ ≤ _
    have h1 : ((L.take k).take 1).length ≤ 1 := by rw [List.length_take]; omega
    have h2 := flat_len cpC 3 (fun c => (cpC_ne c).2) ((L.take k).take 1)
    have h3 := flat_len smF 1 (fun c => by simp [smF]) ((ttM (L.take k)).drop 1 ++ (L.take k).drop 1)
    have h4 : (ttM (L.take k)).length ≤ 3 := by unfold ttM; omega
    have h5 : (L.take k).length ≤ k := by rw [List.length_take]; omega
    rw [List.length_append, List.length_drop, List.length_drop] at h3
    unfold ttL
    rw [List.length_append, List.length_take]
    omega
  have HF0 : Hid (up (ttL (L.take 0)) = []) := rfl
  have HFE : Hid (∀ k, L.length ≤ k → ttL (L.take k) = ttL L) := fun k hk => by
    rw [List.take_of_length_le hk]
  have HWR : Hid (∀ (v : Value) (w : World), Rd .i64 w.heap.size v (up (ttL L)) w → Calls Try.prog 54 #[v] w (StrP (ens (ttL L)) w)) := fun v w h2 => Write_any _ (tt_allC hC) _ v w (Nat.le_refl _) h2 (by
    have := HFL.out L.length (Nat.le_refl _)
    rw [up_length, HFE.out _ (Nat.le_refl _)] at this
    omega)
  have HSZ : Hid (∀ w, Calls Try.prog 53 #[.string (bs (ens (ttL L)))] w (TxS (szL (ens (ttL L))) (szE (ens (ttL L))) w)) := fun w => sized_any _ w (by
    have h0 := HFL.out L.length (Nat.le_refl _)
    rw [up_length, HFE.out _ (Nat.le_refl _)] at h0
    have h1 := (ens_length_le (ttL L)).2
    omega)
  have HP : Hid (∀ w', Below w.heap.size w w' → TxP (szL (ens (ttL L))) (szE (ens (ttL L))) w (.returned (.tuple #[.string (bs (szL (ens (ttL L)))), .int .i64 (szE (ens (ttL L)))])) w') := fun w' h => ⟨rfl, h⟩
  have HUL : Hid ((up L).length = L.length) := up_length L
  have HUG : Hid (∀ k (h : k < (up L).length) (h2 : k < L.length), (up L)[k] = ((L[k] : Nat) : Int)) := fun k h h2 => up_get L k h
  have HG : Hid (∀ k (h : k < L.length) w, Calls Try.prog 86 #[.int .i64 (L[k] : Nat)] w (IntS (smC L[k]) w)) := fun k h w => rsmall_any _ w (hC _ (List.getElem_mem h))
  have HSt : Hid (∀ k (h : k < L.length), 1 ≤ k → ttL (L.take (k + 1)) = ttL (L.take k) ++ [smC L[k]]) := fun k h h1 => tt_more L k h h1
  have HCP : Hid (∀ (h : 0 < L.length) w, Calls Try.prog 83 #[.int .i64 (L[0] : Nat)] w (NewP (up (cpC L[0])) w)) := fun h w => rcapital_any _ w (hC _ (List.getElem_mem h))
  have HSM : Hid (∀ (h : 0 < L.length) (H : Nat) (v : Value) (w : World), H ≤ w.heap.size → Rd .i64 H v (up ((cpC L[0]).drop 1)) w → Calls Try.prog 85 #[v] w (RowP 3 .i64 (up (((cpC L[0]).drop 1).flatMap smF)) w)) := fun h H v w h1 h2 => smallOf_any _ (allC_drop (cpC_allC (hC _ (List.getElem_mem h))) 1) H v w h1 h2 (by
    have := (cpC_ne L[0]).2
    rw [List.length_drop]
    omega)
  have HT1 : Hid (∀ (h : 0 < L.length), ttL (L.take 1) = (cpC L[0]).take 1 ++ ((cpC L[0]).drop 1).flatMap smF) := fun h => tt_one L h
  clear hC hl
  generalize (szL (ens (ttL L))) = R1 at *
  generalize (szE (ens (ttL L))) = R2 at *
  go_enter Try.func60, Try.ntmps60
  go_wp2_with fail
  refine (HK.out _).mono ?_
  rintro e w' ⟨rfl, rfl⟩
  go_wp2_with fail
  refine (HR.out _).mono ?_
  rintro e w2 ⟨lv, rfl, hb2, hr2⟩
  have HB2 := Lib.hid hb2
  obtain ⟨aoL, cvL, rfl, hcl⟩ := row_cells hr2
  rw [HUL.out]
  have HCL : Hid (∀ k (h : k < L.length) w', Below w2.heap.size w2 w' → ∃ b o, aoL = some ⟨b, o, none⟩ ∧ w'.cell? ⟨b, o + k, none⟩ = some (.int .i64 (L[k] : Nat))) := fun k h w' hbl => by
    obtain ⟨b, o, e, hc⟩ := hcl w' hbl k (by rw [HUL.out]; exact h)
    rw [HUG.out k _ h] at hc
    exact ⟨b, o, e, hc⟩
  have HBR := Lib.hid (Below.refl w2.heap.size w2)
  clear hb2 hr2 hcl
  go_wp2_with fail
  go_loopw [8, 9] (fun v i wr => ∃ (k : Nat) (ao : Option Addr) (cv : Nat), k ≤ L.length ∧ i = .int .i64 k ∧ v = .slice ao (up (ttL (L.take k))).length cv ∧ wr.ownsRow w2.heap.size 3 1 v (up (ttL (L.take k))).length ((up (ttL (L.take k))).map (Value.int .i64)) ∧ Hid (Below w2.heap.size w2 wr)) (fun _ i _ => L.length - (intOf i).toNat)
  case atStart => exact ⟨0, none, 0, Nat.zero_le _, rfl, by rw [HF0.out]; rfl, by rw [HF0.out]; exact World.ownsRow_nil _ _ _ _, HBR⟩
  case round =>
    obtain ⟨k, ao, cv, hk, rfl, rfl, hown, hbl⟩ := hrel
    have hfl := HFL.out k hk
    have hsize := hbl.out.size
    by_cases hlt : k < L.length
    · obtain ⟨b, o, rfl, hcell⟩ := HCL.out k hlt _ hbl.out
      by_cases h0 : k = 0
      · subst h0
        have HCP0 := Lib.hid (HCP.out hlt)
        have HSM0 := Lib.hid (HSM.out hlt)
        have HT := Lib.hid (HT1.out hlt)
        have hne := cpC_ne L[0]
        generalize hX : cpC L[0] = X at *
        generalize L[0] = c at *
        have hcell0 : wr.cell? ⟨b, o, none⟩ = some (.int .i64 (c : Int)) := by simpa using hcell
        clear hcell
        have HX := Lib.hid hX
        clear hX
        obtain ⟨d, T, rfl⟩ : ∃ d T, X = d :: T := by
          cases X with
          | nil => simp at hne
          | cons d T => exact ⟨d, T, rfl⟩
        have hTl : T.length ≤ 2 := by
          have := hne.2
          rw [List.length_cons] at this
          omega
        simp only [List.take_succ_cons, List.take_zero, List.drop_succ_cons, List.drop_zero] at HT HSM0
        have HUX : Hid (∀ j (h : j < (up (d :: T)).length), (up (d :: T))[j] = (((d :: T)[j]'(by rwa [up_length] at h) : Nat) : Int)) := fun j h => up_get _ j h
        have HXL : Hid ((up (d :: T)).length = T.length + 1) := by rw [up_length]; rfl
        generalize hAA : ttL (L.take 0) = A at *
        have HAA := Lib.hid hAA
        clear hAA hne
        go_wp2_with fail
        refine (HCP0.out _).mono ?_
        rintro e w4 ⟨gb, rfl, hb4, hg1, hg2, hcg⟩
        obtain ⟨m, hm⟩ : ∃ m, T.length = m := ⟨_, rfl⟩
        have HM := Lib.hid hm
        rw [HXL.out, hm]
        have hm2 : m ≤ 2 := by omega
        clear hm
        have hown4 : w4.ownsRow w2.heap.size 3 1 (.slice ao (up A).length cv) (up A).length ((up A).map (Value.int .i64)) := owns_below hown hb4
        have HB4 : Hid (Below w2.heap.size w2 w4) := hbl.out.trans (hb4.mono hsize)
        have hsize4 := HB4.out.size
        have HNE : Hid (∀ q, (Value.slice ao (up A).length cv).ownBlock = some q → q ≠ gb) := fun q hq => by
          have := (hown.lt q hq).2
          omega
        have hc0 : w4.cell? ⟨gb, 0, none⟩ = some (.int .i64 (d : Int)) := hcg 0 (by rw [HXL.out]; omega)
        have HCG : Hid (∀ j (h : j < T.length), w4.cell? ⟨gb, 1 + j, none⟩ = some (.int .i64 ((T[j] : Nat) : Int))) := fun j h => by
          rw [hcg (1 + j) (by rw [HXL.out]; omega), HUX.out (1 + j) (by rw [HXL.out]; omega)]
          have : (d :: T)[1 + j]'(by simp; omega) = T[j] := by
            simp [show 1 + j = j + 1 by omega]
          rw [this]
        have HOW := Lib.hid hown4
        have HG1 := Lib.hid hg1
        clear hb4 hown hcg
        by_cases hm0 : m = 0
        · subst hm0
          go_wp2_with (first
            | (at_builtin; refine wpList_append_own _ rfl _ _ 25 rfl w2.heap.size 3 i0 (.int .i64 0) 1 8 Try.underlying25 hi hz0 hz1 hz2 rfl (by decide) _ _ _ rfl (hown4.alloc _) ⟨w4.heap.size, 0, none⟩ 1 1 [.int .i64 (d : Int)] rfl rfl (cell_one_new _ _ _) (fun x hx => by simp at hx; subst hx; rfl) (by unfold maxLen; omega) (by omega) (by simp; omega) ?_; intro v' w5 hown' hgrow5 hnil5))
          have hb5 : Hid (Below w2.heap.size w2 w5) := (HB4.out.alloc hsize4 _).grown hgrow5 (by simp; omega) (fun q hq => (hown4.lt q hq).1)
          have HCG5 : Hid (∀ j (h : j < T.length), w5.cell? ⟨gb, 1 + j, none⟩ = some (.int .i64 ((T[j] : Nat) : Int))) := fun j h => by
            have hblk : w5.heap[gb]? = w4.heap[gb]? := by
              rw [hgrow5.block gb (by simp; omega) (fun hq => HNE.out gb hq.symm rfl), Lib.alloc_old w4 _ gb HG1.out]
            rw [← HCG.out j h]
            simp only [World.cell?, hblk]
          have hgb5 : gb < w5.heap.size := by
            have := hgrow5.size
            simp at this
            omega
          have HO5 : Hid (w5.ownsRow w2.heap.size 3 1 v' (up (A ++ [d])).length ((up (A ++ [d])).map (Value.int .i64))) := by
            show World.ownsRow _ _ _ _ _ _ _
            rw [up_append, up_one, List.length_append, List.map_append]
            exact hown'
          obtain ⟨ao5, cv5, rfl⟩ := form_any HO5.out
          have HRS : Hid (∀ o' x c', x = 0 → (o' = 1 ∨ 0 = 0) → 0 ≤ c' → Rd .i64 w5.heap.size (.slice (some ⟨gb, o', none⟩) x c') (up T) w5) := fun o' x c' hx ho hc => by
            have hm := HM.out
            refine ⟨_, c', by rw [up_length, hm, hx], by rw [up_length, hm]; exact hc, fun hp => ?_⟩
            rw [up_length] at hp
            refine ⟨gb, o', rfl, hgb5, fun j hj => ?_⟩
            rw [up_length] at hj
            obtain rfl : o' = 1 := by omega
            rw [HCG5.out j hj, up_get]
          have HSM5 := Lib.hid (fun v => HSM0.out w5.heap.size v w5 (Nat.le_refl _))
          have hfl5 : (up (A ++ [d])).length ≤ 13001 := by
            rw [up_length, List.length_append, List.length_singleton]
            rw [up_length] at hfl
            omega
          have HSL : Hid ((up (T.flatMap smF)).length = 0) := by
            show _ = _
            rw [← HM.out, up_length]
            rw [flat_smF, List.length_map]
          have HT2 : Hid (ttL (L.take 1) = (A ++ [d]) ++ T.flatMap smF) := by
            show _ = _
            rw [HT.out, show A = [] from HAA.out.symm]
            rfl
          clear hown' hgrow5 hnil5 hown4 hc0 HCG HCG5 hfl HT
          generalize hB : A ++ [d] = B at *
          have HBB := Lib.hid hB
          clear hB
          refine (HSM5.out _ (HRS.out _ _ _ (by omega) (by omega) (by omega))).mono ?_
          rintro e w6 ⟨v6, rfl, hb6, hr6⟩
          have HB6 : Hid (Below w2.heap.size w2 w6) := hb5.out.trans (hb6.mono hb5.out.size)
          have hown6 : w6.ownsRow w2.heap.size 3 1 (.slice ao5 (up B).length cv5) (up B).length ((up B).map (Value.int .i64)) := owns_below HO5.out hb6
          have HTE : Hid (up (T.flatMap smF) = []) := List.eq_nil_of_length_eq_zero HSL.out
          have HO7 : Hid (w6.ownsRow w2.heap.size 3 1 (.slice ao5 (up B).length cv5) (up (ttL (L.take 1))).length ((up (ttL (L.take 1))).map (Value.int .i64)) ∧ (up (ttL (L.take 1))).length = (up B).length) := by
            show _ ∧ _
            rw [HT2.out, up_append, HTE.out, List.append_nil]
            exact ⟨hown6, rfl⟩
          obtain ⟨hr6o, _⟩ := hr6
          rw [HTE.out] at hr6o
          rcases hr6o.2 with ⟨rfl, h60⟩ | ⟨g6, cap6, cur6, rfl, hg6⟩
          · clear hr6o hb6 h60
            go_wp2_with (first | (at_builtin; refine wpList_append_own_none rfl _ _ 25 rfl w2.heap.size 3 i0 1 Try.underlying25 hi _ _ _ rfl hown6 rfl ?_))
            clear hown6
            go_wp2
            go_roundw
            case rel => exact ⟨1, ao5, cv5, by omega, rfl, by rw [HO7.out.2], HO7.out.1, HB6⟩
            case measure => simp [intOf]; omega
          · clear hr6o hb6 hg6
            have hs6 := HB6.out.size
            have HOW6 := Lib.hid hown6
            go_wp2_with (first | (at_builtin; refine wpList_append_own _ rfl _ _ 25 rfl w2.heap.size 3 i0 (.int .i64 0) 1 8 Try.underlying25 hi hz0 hz1 hz2 rfl (by decide) _ _ _ rfl hown6 ⟨g6, 0, none⟩ 0 cap6 [] rfl rfl (fun j u hu => by simp at hu) (fun u hu => by cases hu) (by unfold maxLen; omega) (by omega) (by omega) ?_; intro v7 w7 hown7 hgrow7 hnil7))
            have hb7 : Hid (Below w2.heap.size w2 w7) := HB6.out.grown hgrow7 (by omega) (fun q hq => (HOW6.out.lt q hq).1)
            have HO8 : Hid (w7.ownsRow w2.heap.size 3 1 v7 (up (ttL (L.take 1))).length ((up (ttL (L.take 1))).map (Value.int .i64))) := by
              show World.ownsRow _ _ _ _ _ _ _
              rw [HT2.out, up_append, HTE.out, List.append_nil]
              rw [List.append_nil] at hown7
              exact hown7
            obtain ⟨ao8, cv8, rfl⟩ := form_any HO8.out
            clear hown7 hgrow7 hnil7 hown6
            go_wp2
            go_roundw
            case rel => exact ⟨1, ao8, cv8, by omega, rfl, rfl, HO8.out, hb7⟩
            case measure => simp [intOf]; omega
        · skip
          go_wp2_with (first
            | (at_builtin; refine wpList_append_own _ rfl _ _ 25 rfl w2.heap.size 3 i0 (.int .i64 0) 1 8 Try.underlying25 hi hz0 hz1 hz2 rfl (by decide) _ _ _ rfl (hown4.alloc _) ⟨w4.heap.size, 0, none⟩ 1 1 [.int .i64 (d : Int)] rfl rfl (cell_one_new _ _ _) (fun x hx => by simp at hx; subst hx; rfl) (by unfold maxLen; omega) (by omega) (by simp; omega) ?_; intro v' w5 hown' hgrow5 hnil5))
          have hb5 : Hid (Below w2.heap.size w2 w5) := (HB4.out.alloc hsize4 _).grown hgrow5 (by simp; omega) (fun q hq => (hown4.lt q hq).1)
          have HCG5 : Hid (∀ j (h : j < T.length), w5.cell? ⟨gb, 1 + j, none⟩ = some (.int .i64 ((T[j] : Nat) : Int))) := fun j h => by
            have hblk : w5.heap[gb]? = w4.heap[gb]? := by
              rw [hgrow5.block gb (by simp; omega) (fun hq => HNE.out gb hq.symm rfl), Lib.alloc_old w4 _ gb HG1.out]
            rw [← HCG.out j h]
            simp only [World.cell?, hblk]
          have hgb5 : gb < w5.heap.size := by
            have := hgrow5.size
            simp at this
            omega
          have HO5 : Hid (w5.ownsRow w2.heap.size 3 1 v' (up (A ++ [d])).length ((up (A ++ [d])).map (Value.int .i64))) := by
            show World.ownsRow _ _ _ _ _ _ _
            rw [up_append, up_one, List.length_append, List.map_append]
            exact hown'
          obtain ⟨ao5, cv5, rfl⟩ := form_any HO5.out
          have HRS : Hid (∀ o' x c', x = m → (o' = 1 ∨ m = 0) → m ≤ c' → Rd .i64 w5.heap.size (.slice (some ⟨gb, o', none⟩) x c') (up T) w5) := fun o' x c' hx ho hc => by
            have hm := HM.out
            refine ⟨_, c', by rw [up_length, hm, hx], by rw [up_length, hm]; exact hc, fun hp => ?_⟩
            rw [up_length] at hp
            refine ⟨gb, o', rfl, hgb5, fun j hj => ?_⟩
            rw [up_length] at hj
            obtain rfl : o' = 1 := by omega
            rw [HCG5.out j hj, up_get]
          have HSM5 := Lib.hid (fun v => HSM0.out w5.heap.size v w5 (Nat.le_refl _))
          have hfl5 : (up (A ++ [d])).length ≤ 13001 := by
            rw [up_length, List.length_append, List.length_singleton]
            rw [up_length] at hfl
            omega
          have HTL2 : Hid (m ≤ 2) := hm2
          have HSL : Hid ((up (T.flatMap smF)).length = m) := by
            show _ = _
            rw [← HM.out, up_length]
            rw [flat_smF, List.length_map]
          have HT2 : Hid (ttL (L.take 1) = (A ++ [d]) ++ T.flatMap smF) := by
            show _ = _
            rw [HT.out, show A = [] from HAA.out.symm]
            rfl
          clear hown' hgrow5 hnil5 hown4 hc0 HCG HCG5 hfl HT
          generalize hB : A ++ [d] = B at *
          have HBB := Lib.hid hB
          clear hB
          refine (HSM5.out _ (HRS.out _ _ _ (by omega) (by omega) (by omega))).mono ?_
          rintro e w6 ⟨v6, rfl, hb6, hr6⟩
          have HB6 : Hid (Below w2.heap.size w2 w6) := hb5.out.trans (hb6.mono hb5.out.size)
          have hown6 : w6.ownsRow w2.heap.size 3 1 (.slice ao5 (up B).length cv5) (up B).length ((up B).map (Value.int .i64)) := owns_below HO5.out hb6
          have hsl := HSL.out
          obtain ⟨hr6o, _⟩ := hr6
          rcases hr6o.2 with ⟨rfl, h60⟩ | ⟨g6, cap6, cur6, rfl, hg6⟩
          · exfalso
            omega
          · have HNW := Lib.hid (hr6o.cells (g := g6) rfl)
            have HLN : Hid (((up (T.flatMap smF)).map (Value.int .i64)).length = m) := by
              show _ = _
              rw [List.length_map, HSL.out]
            have HT3 : Hid (up (ttL (L.take 1)) = up B ++ up (T.flatMap smF)) := by
              show _ = _
              rw [HT2.out, up_append]
            have HONE : Hid (∀ u ∈ (up (T.flatMap smF)).map (Value.int .i64), u.oneCell' = true) := ints_oneCell _ _
            rw [hsl]
            clear hr6o hb6 hg6 hsl
            generalize hF : up (T.flatMap smF) = F at *
            have HF := Lib.hid hF
            clear hF
            have hs6 := HB6.out.size
            have HOW6 := Lib.hid hown6
            go_wp2_with (first | (at_builtin; refine wpList_append_own _ rfl _ _ 25 rfl w2.heap.size 3 i0 (.int .i64 0) 1 8 Try.underlying25 hi hz0 hz1 hz2 rfl (by decide) _ _ _ rfl hown6 ⟨g6, 0, none⟩ m cap6 (F.map (Value.int .i64)) rfl (by rw [HLN.out, Nat.mul_one]) HNW.out HONE.out (by unfold maxLen; omega) (by omega) (by omega) ?_; intro v7 w7 hown7 hgrow7 hnil7))
            have hb7 : Hid (Below w2.heap.size w2 w7) := HB6.out.grown hgrow7 (by omega) (fun q hq => (HOW6.out.lt q hq).1)
            have HO8 : Hid (w7.ownsRow w2.heap.size 3 1 v7 (up (ttL (L.take 1))).length ((up (ttL (L.take 1))).map (Value.int .i64))) := by
              show World.ownsRow _ _ _ _ _ _ _
              have hln := HLN.out
              rw [List.length_map] at hln
              rw [HT3.out, List.length_append, List.map_append, hln]
              exact hown7
            obtain ⟨ao8, cv8, rfl⟩ := form_any HO8.out
            clear hown7 hgrow7 hnil7 hown6
            go_wp2
            go_roundw
            case rel => exact ⟨1, ao8, cv8, by omega, rfl, rfl, HO8.out, hb7⟩
            case measure => simp [intOf]; omega
      · have h1k : 1 ≤ k := by omega
        have HStk := Lib.hid (HSt.out k hlt h1k)
        have HSM := Lib.hid (HG.out k hlt)
        have hk0 : ((k : Int) == 0) = false := by rw [beq_eq_false_iff_ne]; omega
        clear HSt HG
        generalize L[k] = c at *
        generalize ttL (L.take k) = A at *
        go_wp2_with fail
        refine (HSM.out _).mono ?_
        rintro e w' ⟨rfl, rfl⟩
        generalize smC c = x at *
        go_wp2_with (first
          | (at_builtin; refine wpList_append_own _ rfl _ _ 25 rfl w2.heap.size 3 i0 (.int .i64 0) 1 8 Try.underlying25 hi hz0 hz1 hz2 rfl (by decide) _ _ _ rfl (hown.alloc _) ⟨wr.heap.size, 0, none⟩ 1 1 [.int .i64 (x : Int)] rfl rfl (cell_one_new _ _ _) (fun x hx => by simp at hx; subst hx; rfl) (by unfold maxLen; omega) (by omega) (by simp; omega) ?_; intro v' w3 hown' hgrow3 hnil3))
        have hb3 : Hid (Below w2.heap.size w2 w3) := (hbl.out.alloc hsize _).grown hgrow3 (by simp; omega) (fun q hq => (hown.lt q hq).1)
        have HO3 : Hid (w3.ownsRow w2.heap.size 3 1 v' (up (ttL (L.take (k + 1)))).length ((up (ttL (L.take (k + 1)))).map (Value.int .i64))) := by
          show World.ownsRow _ _ _ _ _ _ _
          rw [HStk.out, up_append, up_one, List.length_append, List.map_append]
          exact hown'
        obtain ⟨ao2, cv2, rfl⟩ := form_any HO3.out
        clear hown' hgrow3 hnil3 hown
        go_wp2
        go_roundw
        case rel => exact ⟨k + 1, ao2, cv2, by omega, by go_num, rfl, HO3.out, hb3⟩
        case measure => simp [intOf]; omega
    · have HRD : Hid (Rd .i64 wr.heap.size (.slice ao (up (ttL (L.take k))).length cv) (up (ttL L)) wr) := by
        have h1 : Row 3 .i64 w2.heap.size (.slice ao (up (ttL (L.take k))).length cv) (up (ttL (L.take k))) wr := ⟨hown, ao, cv, rfl⟩
        show Rd _ _ _ _ _
        rw [← HFE.out k (by omega)]
        exact h1.rd
      clear hown
      generalize (up (ttL (L.take k))).length = n at *
      go_wp2_with fail
      refine (HWR.out _ _ HRD.out).mono ?_
      rintro e w4 ⟨rfl, hb4⟩
      have HB4 : Hid (Below w.heap.size w w4) := HB2.out.trans ((hbl.out.mono HB2.out.size).trans (hb4.mono (Nat.le_trans HB2.out.size hsize)))
      clear hb4
      go_wp2_with fail
      refine (HSZ.out _).mono ?_
      rintro e w' ⟨rfl, rfl⟩
      go_wp2
      go_ret2
      exact HP.out _ HB4.out


theorem rLower_bad (s : ByteArray) (hb : ckE s ≠ 0) (w : World) : Calls Try.prog 24 #[.string s] w (TxP [] (ckE s) w) := by
  have H := Lib.hid (fun w => formed_bad s hb 0 w)
  have HP : Hid (∀ w w', Below w.heap.size w w' → TxP [] (ckE s) w (.returned (.tuple #[.string (bs []), .int .i64 (ckE s)])) w') := fun w w' h => ⟨rfl, h⟩
  clear hb
  generalize ckE s = x at *
  go_enter Try.func24, Try.ntmps24
  go_wp2_with fail
  refine (H.out _).mono ?_
  rintro e w' ⟨rfl, hb⟩
  have HB := Lib.hid hb
  clear hb
  go_wp2
  go_ret2
  exact HP.out _ _ HB.out
theorem rLower_ok (s : ByteArray) (L : List Nat) (hC : allC L) (hl : s.data.toList = ens L) (hs : s.size ≤ 4096) (w : World) : Calls Try.prog 24 #[.string s] w (TxP (frmL smF L) (frmE smF L) w) := by
  have H := Lib.hid (fun w => formed_0 s L hC hl hs w)
  have HP : Hid (∀ w w', Below w.heap.size w w' → TxP (frmL smF L) (frmE smF L) w (.returned (.tuple #[.string (bs (frmL smF L)), .int .i64 (frmE smF L)])) w') := fun w w' h => ⟨rfl, h⟩
  clear hC hl
  generalize (frmL smF L) = R1 at *
  generalize (frmE smF L) = R2 at *
  go_enter Try.func24, Try.ntmps24
  go_wp2_with fail
  refine (H.out _).mono ?_
  rintro e w' ⟨rfl, hb⟩
  have HB := Lib.hid hb
  clear hb
  go_wp2
  go_ret2
  exact HP.out _ _ HB.out

theorem rUpper_bad (s : ByteArray) (hb : ckE s ≠ 0) (w : World) : Calls Try.prog 26 #[.string s] w (TxP [] (ckE s) w) := by
  have H := Lib.hid (fun w => formed_bad s hb 1 w)
  have HP : Hid (∀ w w', Below w.heap.size w w' → TxP [] (ckE s) w (.returned (.tuple #[.string (bs []), .int .i64 (ckE s)])) w') := fun w w' h => ⟨rfl, h⟩
  clear hb
  generalize ckE s = x at *
  go_enter Try.func26, Try.ntmps26
  go_wp2_with fail
  refine (H.out _).mono ?_
  rintro e w' ⟨rfl, hb⟩
  have HB := Lib.hid hb
  clear hb
  go_wp2
  go_ret2
  exact HP.out _ _ HB.out
theorem rUpper_ok (s : ByteArray) (L : List Nat) (hC : allC L) (hl : s.data.toList = ens L) (hs : s.size ≤ 4096) (w : World) : Calls Try.prog 26 #[.string s] w (TxP (frmL cpC L) (frmE cpC L) w) := by
  have H := Lib.hid (fun w => formed_1 s L hC hl hs w)
  have HP : Hid (∀ w w', Below w.heap.size w w' → TxP (frmL cpC L) (frmE cpC L) w (.returned (.tuple #[.string (bs (frmL cpC L)), .int .i64 (frmE cpC L)])) w') := fun w w' h => ⟨rfl, h⟩
  clear hC hl
  generalize (frmL cpC L) = R1 at *
  generalize (frmE cpC L) = R2 at *
  go_enter Try.func26, Try.ntmps26
  go_wp2_with fail
  refine (H.out _).mono ?_
  rintro e w' ⟨rfl, hb⟩
  have HB := Lib.hid hb
  clear hb
  go_wp2
  go_ret2
  exact HP.out _ _ HB.out

theorem rFold_bad (s : ByteArray) (hb : ckE s ≠ 0) (w : World) : Calls Try.prog 30 #[.string s] w (TxP [] (ckE s) w) := by
  have H := Lib.hid (fun w => formed_bad s hb 2 w)
  have HP : Hid (∀ w w', Below w.heap.size w w' → TxP [] (ckE s) w (.returned (.tuple #[.string (bs []), .int .i64 (ckE s)])) w') := fun w w' h => ⟨rfl, h⟩
  clear hb
  generalize ckE s = x at *
  go_enter Try.func30, Try.ntmps30
  go_wp2_with fail
  refine (H.out _).mono ?_
  rintro e w' ⟨rfl, hb⟩
  have HB := Lib.hid hb
  clear hb
  go_wp2
  go_ret2
  exact HP.out _ _ HB.out
theorem rFold_ok (s : ByteArray) (L : List Nat) (hC : allC L) (hl : s.data.toList = ens L) (hs : s.size ≤ 4096) (w : World) : Calls Try.prog 30 #[.string s] w (TxP (frmL fdC L) (frmE fdC L) w) := by
  have H := Lib.hid (fun w => formed_2 s L hC hl hs w)
  have HP : Hid (∀ w w', Below w.heap.size w w' → TxP (frmL fdC L) (frmE fdC L) w (.returned (.tuple #[.string (bs (frmL fdC L)), .int .i64 (frmE fdC L)])) w') := fun w w' h => ⟨rfl, h⟩
  clear hC hl
  generalize (frmL fdC L) = R1 at *
  generalize (frmE fdC L) = R2 at *
  go_enter Try.func30, Try.ntmps30
  go_wp2_with fail
  refine (H.out _).mono ?_
  rintro e w' ⟨rfl, hb⟩
  have HB := Lib.hid hb
  clear hb
  go_wp2
  go_ret2
  exact HP.out _ _ HB.out

theorem rTitle_bad (s : ByteArray) (hb : ckE s ≠ 0) (w : World) : Calls Try.prog 28 #[.string s] w (TxP [] (ckE s) w) := by
  have H := Lib.hid (fun w => formed_bad s hb 3 w)
  have HP : Hid (∀ w w', Below w.heap.size w w' → TxP [] (ckE s) w (.returned (.tuple #[.string (bs []), .int .i64 (ckE s)])) w') := fun w w' h => ⟨rfl, h⟩
  clear hb
  generalize ckE s = x at *
  go_enter Try.func28, Try.ntmps28
  go_wp2_with fail
  refine (H.out _).mono ?_
  rintro e w' ⟨rfl, hb⟩
  have HB := Lib.hid hb
  clear hb
  go_wp2
  go_ret2
  exact HP.out _ _ HB.out
theorem rTitle_ok (s : ByteArray) (L : List Nat) (hC : allC L) (hl : s.data.toList = ens L) (hs : s.size ≤ 4096) (w : World) : Calls Try.prog 28 #[.string s] w (TxP (szL (ens (ttL L))) (szE (ens (ttL L))) w) := by
  have H := Lib.hid (fun w => formed_3 s L hC hl hs w)
  have HP : Hid (∀ w w', Below w.heap.size w w' → TxP (szL (ens (ttL L))) (szE (ens (ttL L))) w (.returned (.tuple #[.string (bs (szL (ens (ttL L)))), .int .i64 (szE (ens (ttL L)))])) w') := fun w w' h => ⟨rfl, h⟩
  clear hC hl
  generalize (szL (ens (ttL L))) = R1 at *
  generalize (szE (ens (ttL L))) = R2 at *
  go_enter Try.func28, Try.ntmps28
  go_wp2_with fail
  refine (H.out _).mono ?_
  rintro e w' ⟨rfl, hb⟩
  have HB := Lib.hid hb
  clear hb
  go_wp2
  go_ret2
  exact HP.out _ _ HB.out
end Go.Proofs.Ytdjpjknbbedamaa
