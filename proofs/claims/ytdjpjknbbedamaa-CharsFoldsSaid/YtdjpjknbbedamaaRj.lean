/-
  The document's Index and Last. No condition beside int's own range.
-/
import Derived.Test.YtdjpjknbbedamaaRi
namespace Go.Proofs.Ytdjpjknbbedamaa
open Go.RowKit

theorem rfind_bad (s t : ByteArray) (hb : ck2 (ckE s) (ckE t) ≠ 0) (fr : Int) (w : World) : Calls Try.prog 38 #[.string s, .string t, .int .i64 fr] w (NumE 0 (ck2 (ckE s) (ckE t)) w) ∧ Calls Try.prog 40 #[.string s, .string t, .int .i64 fr] w (NumE 0 (ck2 (ckE s) (ckE t)) w) := by
  have HK := Lib.hid (fun w => both_any s t w)
  have hbb : Hid (Below w.heap.size w w) := Below.refl _ _
  generalize ck2 (ckE s) (ckE t) = x at *
  have hn : (x != 0) = true := by simpa using hb
  constructor
  · go_enter Try.func38, Try.ntmps38
    go_wp2_with fail
    refine (HK.out _).mono ?_
    rintro e w' ⟨rfl, rfl⟩
    go_wp2
    go_ret2
    exact ⟨rfl, hbb.out⟩
  · go_enter Try.func40, Try.ntmps40
    go_wp2_with fail
    refine (HK.out _).mono ?_
    rintro e w' ⟨rfl, rfl⟩
    go_wp2
    go_ret2
    exact ⟨rfl, hbb.out⟩

theorem both_ok {s t : ByteArray} {L T : List Nat} (hC : allC L) (hT : allC T) (hl : s.data.toList = ens L) (ht : t.data.toList = ens T) (hs : s.size ≤ 4096) (hts : t.size ≤ 4096) (w : World) : Calls Try.prog 65 #[.string s, .string t] w (ErrS 0 w) := by
  have := both_any s t w
  rw [ckE_ok hs hC hl, ckE_ok hts hT ht] at this
  exact this

theorem stands_rows {s : Nat} {v1 v2 : Value} {L T : List Nat} {w w2 w3 : World} (hL : L.length ≤ 4096) (hT : T.length ≤ 4096) (h1 : Row 3 .i64 s v1 (up L) w2) (h2 : Row 3 .i64 w2.heap.size v2 (up T) w3) (h3 : Below w2.heap.size w2 w3) (_ : w = w) :
    ∃ ao1 c1 ao2 c2, v1 = .slice ao1 L.length c1 ∧ v2 = .slice ao2 T.length c2 ∧ ∀ (k : Nat) (wr : World), k ≤ L.length → Below w3.heap.size w3 wr → Calls Try.prog 69 #[.slice ao1 L.length c1, .slice ao2 T.length c2, .int .i64 k] wr fun e w' => e = .returned (.bool (stB L T k)) ∧ Below wr.heap.size wr w' := by
  have r1 := h1.rd.later h3
  have r2 := h2.rd
  obtain ⟨ao1, c1, e1, _⟩ := h1.rd
  obtain ⟨ao2, c2, e2, _⟩ := h2.rd
  subst e1 e2
  rw [up_length] at r1 r2
  refine ⟨ao1, c1, ao2, c2, by rw [up_length], by rw [up_length], fun k wr hk hb => ?_⟩
  exact stands_any L T _ _ ao1 ao2 c1 c2 k wr (r1.later (hb.mono h3.size)) (r2.later hb) hL hT hk

set_option maxRecDepth 100000 in
set_option maxHeartbeats 4000000 in
theorem rIndex_ok (s t : ByteArray) (L T : List Nat) (hC : allC L) (hT : allC T) (hl : s.data.toList = ens L) (ht : t.data.toList = ens T) (hs : s.size ≤ 4096) (hts : t.size ≤ 4096) (fr : Int) (w : World) :
    Calls Try.prog 38 #[.string s, .string t, .int .i64 fr] w (NumE (idxF L T fr) 0 w) := by
  have HK := Lib.hid (fun w => both_ok hC hT hl ht hs hts w)
  have HR1 := Lib.hid (fun w => Runes_any s L hC hl w hs)
  have HR2 := Lib.hid (fun w => Runes_any t T hT ht w hts)
  have hLs := ens_len_of hl hs
  have hTs := ens_len_of ht hts
  have HP : Hid (∀ x w', IsF L T fr x → Below w.heap.size w w' → NumE (idxF L T fr) 0 w (.returned (.tuple #[.int .i64 x, .int .i64 0])) w') := fun x w' hx h => by
    rw [idxF_of hx]
    exact ⟨rfl, h⟩
  have HY : Hid (∀ k : Nat, k ≤ L.length → stB L T k = true → min fr L.length ≤ (k : Int) → (∀ j : Nat, j < k → min fr L.length ≤ (j : Int) → stB L T j = false) → IsF L T fr k) := fun k h1 h2 h3 h4 => .inl ⟨k, h1, rfl, h2, h3, h4⟩
  have HN : Hid ((∀ j : Nat, j < L.length + 1 → min fr L.length ≤ (j : Int) → stB L T j = false) → IsF L T fr (-1)) := fun h => .inr ⟨rfl, fun j hj => h j (by omega)⟩
  have HSR := Lib.hid (fun (v1 v2 : Value) (w2 w3 : World) (h1 : Row 3 .i64 w.heap.size v1 (up L) w2) (h2 : Row 3 .i64 w2.heap.size v2 (up T) w3) (h3 : Below w2.heap.size w2 w3) => stands_rows (w := w) hLs hTs h1 h2 h3 rfl)
  clear hC hT hl ht hTs
  generalize idxF L T fr = R at *
  obtain ⟨k0, hk0⟩ : ∃ k0 : Nat, min (max fr 0) (L.length : Int) = k0 := ⟨(min (max fr 0) (L.length : Int)).toNat, by omega⟩
  have HK0 := Lib.hid hk0
  have HK1 : Hid (k0 ≤ L.length ∧ min fr L.length ≤ (k0 : Int) ∧ ∀ j : Nat, j < k0 → (j : Int) < min fr L.length) := ⟨by omega, by omega, fun j hj => by omega⟩
  clear hk0
  go_enter Try.func38, Try.ntmps38
  go_wp2_with fail
  refine (HK.out _).mono ?_
  rintro e w1 ⟨rfl, rfl⟩
  go_wp2_with fail
  refine (HR1.out _).mono ?_
  rintro e w2 ⟨v1, rfl, hb2, hr2⟩
  have HB2 := Lib.hid hb2
  have HQ2 := Lib.hid hr2
  clear hb2 hr2
  go_wp2_with fail
  refine (HR2.out _).mono ?_
  rintro e w3 ⟨v2, rfl, hb3, hr3⟩
  have HB3 : Hid (Below w.heap.size w w3) := HB2.out.trans (hb3.mono HB2.out.size)
  obtain ⟨ao1, c1, ao2, c2, rfl, rfl, hst⟩ := HSR.out _ _ _ _ HQ2.out hr3 hb3
  have HST := Lib.hid hst
  clear hb3 hr3 hst HSR HQ2
  generalize stB L T = S at *
  generalize hm : min fr (L.length : Int) = m at *
  clear hm
  go_wp2_with fail
  go_loopw [11] (fun i wr => ∃ k : Nat, k ≤ L.length + 1 ∧ i = .int .i64 k ∧ Hid (Below w3.heap.size w3 wr) ∧ Hid (m ≤ (k : Int)) ∧ Hid (∀ j : Nat, j < k → m ≤ (j : Int) → S j = false)) (fun i _ => L.length + 1 - (intOf i).toNat)
  case atStart =>
    refine ⟨k0, by have := HK1.out.1; omega, ?_, Below.refl _ _, HK1.out.2.1, fun j hj h => absurd h (Int.not_le.2 (HK1.out.2.2 j hj))⟩
    rw [← HK0.out]
  case round =>
    obtain ⟨k, hk, rfl, hbr, hmk, hall⟩ := hrel
    by_cases hlt : k ≤ L.length
    · go_wp2_with fail
      refine (HST.out k _ hlt hbr.out).mono ?_
      rintro e w4 ⟨rfl, hb4⟩
      have HB4 : Hid (Below w3.heap.size w3 w4) := hbr.out.trans (hb4.mono hbr.out.size)
      clear hb4 hbr
      have HYk := Lib.hid (HY.out k hlt)
      have HNk : Hid (S k = false → ∀ j : Nat, j < k + 1 → m ≤ (j : Int) → S j = false) := fun hf j hj hm => by
        by_cases e : j = k
        · rw [e]; exact hf
        · exact hall.out j (by omega) hm
      have HM2 : Hid (m ≤ ((k + 1 : Nat) : Int)) := by have := hmk.out; show _ ≤ _; omega
      generalize S k = sk at *
      cases sk with
      | true =>
        have HX := Lib.hid (HYk.out rfl hmk.out hall.out)
        go_wp2
        go_ret2
        exact HP.out _ _ HX.out (HB3.out.trans (HB4.out.mono HB3.out.size))
      | false =>
        have HX := Lib.hid (HNk.out rfl)
        clear HNk HYk
        go_wp2
        go_round
        case rel => exact ⟨k + 1, by omega, by go_num, HB4, HM2, HX⟩
        case measure => simp [intOf]; omega
    · obtain rfl : k = L.length + 1 := by omega
      have HX := Lib.hid (HN.out hall.out)
      go_wp2
      go_ret2
      exact HP.out _ _ HX.out (HB3.out.trans (hbr.out.mono HB3.out.size))

set_option maxRecDepth 100000 in
set_option maxHeartbeats 4000000 in
theorem rLast_ok (s t : ByteArray) (L T : List Nat) (hC : allC L) (hT : allC T) (hl : s.data.toList = ens L) (ht : t.data.toList = ens T) (hs : s.size ≤ 4096) (hts : t.size ≤ 4096) (fr : Int) (w : World) :
    Calls Try.prog 40 #[.string s, .string t, .int .i64 fr] w (NumE (idxL L T fr) 0 w) := by
  have HK := Lib.hid (fun w => both_ok hC hT hl ht hs hts w)
  have HR1 := Lib.hid (fun w => Runes_any s L hC hl w hs)
  have HR2 := Lib.hid (fun w => Runes_any t T hT ht w hts)
  have hLs := ens_len_of hl hs
  have hTs := ens_len_of ht hts
  have HP : Hid (∀ x w', IsL L T fr x → Below w.heap.size w w' → NumE (idxL L T fr) 0 w (.returned (.tuple #[.int .i64 x, .int .i64 0])) w') := fun x w' hx h => by
    rw [idxL_of hx]
    exact ⟨rfl, h⟩
  have HY : Hid (∀ k : Nat, k ≤ L.length → stB L T k = true → (k : Int) ≤ fr → (∀ j : Nat, (k : Int) < (j : Int) → j ≤ L.length → (j : Int) ≤ fr → stB L T j = false) → IsL L T fr k) := fun k h1 h2 h3 h4 => .inl ⟨k, h1, rfl, h2, h3, fun j hj => h4 j (Int.ofNat_lt.2 hj)⟩
  have HN : Hid (∀ x : Int, x < 0 → (∀ j : Nat, x < (j : Int) → j ≤ L.length → (j : Int) ≤ fr → stB L T j = false) → IsL L T fr (-1)) := fun x hx h => .inr ⟨rfl, fun j hj => h j (by omega) hj⟩
  have HSR := Lib.hid (fun (v1 v2 : Value) (w2 w3 : World) (h1 : Row 3 .i64 w.heap.size v1 (up L) w2) (h2 : Row 3 .i64 w2.heap.size v2 (up T) w3) (h3 : Below w2.heap.size w2 w3) => stands_rows (w := w) hLs hTs h1 h2 h3 rfl)
  clear hC hT hl ht hTs
  generalize idxL L T fr = R at *
  go_enter Try.func40, Try.ntmps40
  go_wp2_with fail
  refine (HK.out _).mono ?_
  rintro e w1 ⟨rfl, rfl⟩
  go_wp2_with fail
  refine (HR1.out _).mono ?_
  rintro e w2 ⟨v1, rfl, hb2, hr2⟩
  have HB2 := Lib.hid hb2
  have HQ2 := Lib.hid hr2
  clear hb2 hr2
  go_wp2_with fail
  refine (HR2.out _).mono ?_
  rintro e w3 ⟨v2, rfl, hb3, hr3⟩
  have HB3 : Hid (Below w.heap.size w w3) := HB2.out.trans (hb3.mono HB2.out.size)
  obtain ⟨ao1, c1, ao2, c2, rfl, rfl, hst⟩ := HSR.out _ _ _ _ HQ2.out hr3 hb3
  have HST := Lib.hid hst
  clear hb3 hr3 hst HSR HQ2
  generalize stB L T = S at *
  go_wp2_with fail
  go_loopw [11] (fun i wr => ∃ x : Int, i = .int .i64 x ∧ Hid (Below w3.heap.size w3 wr) ∧ Hid (x ≤ fr ∧ x ≤ L.length) ∧ Hid (∀ j : Nat, x < (j : Int) → j ≤ L.length → (j : Int) ≤ fr → S j = false)) (fun i _ => (intOf i + 1).toNat)
  case atStart =>
    refine ⟨min fr L.length, rfl, Below.refl _ _, ⟨by omega, by omega⟩, fun j h1 h2 h3 => by omega⟩
  case round =>
    obtain ⟨x, rfl, hbr, hmk, hall⟩ := hrel
    by_cases hx : 0 ≤ x
    · obtain ⟨k, rfl⟩ : ∃ k : Nat, x = k := ⟨x.toNat, by omega⟩
      have hlt : k ≤ L.length := by have := hmk.out.2; omega
      go_wp2_with fail
      refine (HST.out k _ hlt hbr.out).mono ?_
      rintro e w4 ⟨rfl, hb4⟩
      have HB4 : Hid (Below w3.heap.size w3 w4) := hbr.out.trans (hb4.mono hbr.out.size)
      clear hb4 hbr
      have HYk := Lib.hid (HY.out k hlt)
      have HNk : Hid (S k = false → ∀ j : Nat, (k : Int) - 1 < (j : Int) → j ≤ L.length → (j : Int) ≤ fr → S j = false) := fun hf j hj h1 h2 => by
        by_cases e : j = k
        · rw [e]; exact hf
        · exact hall.out j (by omega) h1 h2
      have HM2 : Hid ((k : Int) - 1 ≤ fr ∧ (k : Int) - 1 ≤ L.length) := by have := hmk.out; exact ⟨by omega, by omega⟩
      generalize S k = sk at *
      cases sk with
      | true =>
        have HX := Lib.hid (HYk.out rfl hmk.out.1 hall.out)
        go_wp2
        go_ret2
        exact HP.out _ _ HX.out (HB3.out.trans (HB4.out.mono HB3.out.size))
      | false =>
        have HX := Lib.hid (HNk.out rfl)
        clear HNk HYk
        go_wp2
        go_round
        case rel => exact ⟨(k : Int) - 1, rfl, HB4, HM2, HX⟩
        case measure => simp [intOf]
    · have HX := Lib.hid (HN.out x (by omega) hall.out)
      go_wp2
      go_ret2
      exact HP.out _ _ HX.out (HB3.out.trans (hbr.out.mono HB3.out.size))

end Go.Proofs.Ytdjpjknbbedamaa
