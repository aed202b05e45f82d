/-
  Whether two texts have one fold: chars.SameFold and the document's; the walk of CharsFolds. No condition.
-/
import Derived.Test.YtdjpjknbbedamaaFt

namespace Go.Proofs.Ytdjpjknbbedamaa
open Go.RowKit

set_option maxRecDepth 100000 in
set_option maxHeartbeats 4000000 in
theorem folds_any (s : ByteArray) (L : List Nat) (hC : allC L) (hl : s.data.toList = ens L) (hs : s.size ≤ 4096) (w : World) : Calls Try.prog 66 #[.string s] w (RowP 3 .i64 (up (L.flatMap fdC)) w) := by
  obtain ⟨i0, hi, hz0, hz1, hz2⟩ := info_parts info3
  have HR := Lib.hid (fun w => Runes_any s L hC hl w hs)
  have hLs := ens_len_of hl hs
  have HFL : Hid (∀ k, k ≤ L.length → (up ((L.take k).flatMap fdC)).length ≤ 13000) := fun k hk => by
    rw [up_length]
    show _ ≤ _
    have h1 := flat_len fdC 3 (fun c => (fdC_ne c).2) (L.take k)
    have h2 : (L.take k).length ≤ k := by rw [List.length_take]; omega
    omega
  have HF0 : Hid (up ((L.take 0).flatMap fdC) = []) := rfl
  have HFE : Hid (∀ k, L.length ≤ k → (L.take k).flatMap fdC = L.flatMap fdC) := fun k hk => by
    rw [List.take_of_length_le hk]
  have HP : Hid (∀ w' v, Below w.heap.size w w' → Row 3 .i64 w.heap.size v (up (L.flatMap fdC)) w' → RowP 3 .i64 (up (L.flatMap fdC)) w (.returned v) w') := fun w' v h1 h2 => ⟨v, rfl, h1, h2⟩
  have HUL : Hid ((up L).length = L.length) := up_length L
  have HUG : Hid (∀ k (h : k < (up L).length) (h2 : k < L.length), (up L)[k] = ((L[k] : Nat) : Int)) := fun k h h2 => up_get L k h
  have HG : Hid (∀ k (h : k < L.length) w, Calls Try.prog 84 #[.int .i64 (L[k] : Nat)] w (NewP (up (fdC L[k])) w)) := fun k h w => rfold_any _ w (hC _ (List.getElem_mem h))
  have HSt : Hid (∀ k (h : k < L.length), up ((L.take (k + 1)).flatMap fdC) = up ((L.take k).flatMap fdC) ++ up (fdC L[k])) := fun k h => by rw [flat_take fdC L k h, up_append]
  clear hC hl
  go_enter Try.func66, Try.ntmps66
  go_wp2_with fail
  refine (HR.out _).mono ?_
  rintro e w2 ⟨lv, rfl, hb2, hr2⟩
  have HB2 := Lib.hid hb2
  obtain ⟨aoL, cvL, rfl, hcl⟩ := row_cells hr2
  rw [HUL.out]
  have HCL : Hid (∀ k (h : k < L.length) w', Below w2.heap.size w2 w' → ∃ b o, aoL = some ⟨b, o, none⟩ ∧ w'.cell? ⟨b, o + k, none⟩ = some (.int .i64 (L[k] : Nat))) := fun k h w' hbl => by
    obtain ⟨b, o, e, hc⟩ := hcl w' hbl k (by rw [HUL.out]; exact h)
    rw [HUG.out k _ h] at hc
    exact ⟨b, o, e, hc⟩
  have HBR := Lib.hid (Below.refl w2.heap.size w2)
  clear hb2 hr2 hcl
  go_wp2_with fail
  go_loopw [3, 5] (fun v i wr => ∃ (k : Nat) (ao : Option Addr) (cv : Nat), k ≤ L.length ∧ i = .int .i64 k ∧ v = .slice ao (up ((L.take k).flatMap fdC)).length cv ∧ wr.ownsRow w2.heap.size 3 1 v (up ((L.take k).flatMap fdC)).length ((up ((L.take k).flatMap fdC)).map (Value.int .i64)) ∧ Hid (Below w2.heap.size w2 wr)) (fun _ i _ => L.length - (intOf i).toNat)
  case atStart => exact ⟨0, none, 0, Nat.zero_le _, rfl, by rw [HF0.out]; rfl, by rw [HF0.out]; exact World.ownsRow_nil _ _ _ _, HBR⟩
  case round =>
    obtain ⟨k, ao, cv, hk, rfl, rfl, hown, hbl⟩ := hrel
    have hfl := HFL.out k hk
    have hsize := hbl.out.size
    by_cases hlt : k < L.length
    · obtain ⟨b, o, rfl, hcell⟩ := HCL.out k hlt _ hbl.out
      have HSM := Lib.hid (HG.out k hlt)
      have HStk := Lib.hid (HSt.out k hlt)
      have HGL : Hid ((up (fdC L[k])).length ≤ 3) := by
        rw [up_length]
        exact (fun c => (fdC_ne c).2) _
      generalize L[k] = c at *
      generalize (L.take k).flatMap fdC = A at *
      generalize up (fdC c) = X at *
      go_wp2_with fail
      refine (HSM.out _).mono ?_
      rintro e w4 ⟨gb, rfl, hb4, hg1, hg2, hcg⟩
      have hown4 : w4.ownsRow w2.heap.size 3 1 (.slice ao (up A).length cv) (up A).length ((up A).map (Value.int .i64)) := owns_below hown hb4
      have HB4 : Hid (Below w2.heap.size w2 w4) := hbl.out.trans (hb4.mono hsize)
      have hsize4 := HB4.out.size
      have hnews := Lib.hid (news_of hcg)
      have hgl := HGL.out
      have HOW := Lib.hid hown4
      clear hb4 hown hcg
      go_wp2_with (first
        | (at_builtin; refine wpList_append_own _ rfl _ _ 25 rfl w2.heap.size 3 i0 (.int .i64 0) 1 8 Try.underlying25 hi hz0 hz1 hz2 rfl (by decide) _ _ _ rfl hown4 ⟨gb, 0, none⟩ X.length X.length (X.map (Value.int .i64)) rfl (by rw [List.length_map, Nat.mul_one]) hnews.out (ints_oneCell _ _) (by unfold maxLen; omega) (by omega) (by omega) ?_; intro v' w3 hown' hgrow3 hnil3))
      have hb3 : Hid (Below w2.heap.size w2 w3) := HB4.out.grown hgrow3 (by omega) (fun q hq => (HOW.out.lt q hq).1)
      have HO3 : Hid (w3.ownsRow w2.heap.size 3 1 v' (up ((L.take (k + 1)).flatMap fdC)).length ((up ((L.take (k + 1)).flatMap fdC)).map (Value.int .i64))) := by
        show World.ownsRow _ _ _ _ _ _ _
        rw [HStk.out, List.length_append, List.map_append]
        exact hown'
      obtain ⟨ao2, cv2, rfl⟩ := form_any HO3.out
      clear hown' hgrow3 hnil3 hown4
      go_wp2
      go_roundw
      case rel => exact ⟨k + 1, ao2, cv2, by omega, by go_num, rfl, HO3.out, hb3⟩
      case measure => simp [intOf]; omega
    · have HRD : Hid (Row 3 .i64 w.heap.size (.slice ao (up ((L.take k).flatMap fdC)).length cv) (up (L.flatMap fdC)) wr) := by
        have h1 : Row 3 .i64 w2.heap.size (.slice ao (up ((L.take k).flatMap fdC)).length cv) (up ((L.take k).flatMap fdC)) wr := ⟨hown, ao, cv, rfl⟩
        show Row _ _ _ _ _ _
        rw [← HFE.out k (by omega)]
        exact h1.mono HB2.out.size
      clear hown
      generalize (up ((L.take k).flatMap fdC)).length = n at *
      go_wp2
      go_ret
      exact HP.out _ _ (HB2.out.trans (hbl.out.mono HB2.out.size)) HRD.out

end Go.Proofs.Ytdjpjknbbedamaa
