/-
  The document's Reverse; the walk of CharsTurns. No condition beside a text's own limit.
-/
import Derived.Test.YtdjpjknbbedamaaRv
import Derived.Test.YtdjpjknbbedamaaRx
import Derived.Laws.AppendOwnNone
namespace Go.Proofs.Ytdjpjknbbedamaa
open Go.RowKit

theorem rReverse_bad (s : ByteArray) (hb : ckE s ≠ 0) (w : World) : Calls Try.prog 42 #[.string s] w (TxP [] (ckE s) w) := by
  have HK := Lib.hid (fun w => Checked_any s w)
  have hn : (ckE s != 0) = true := by simpa using hb
  have HP : Hid (∀ w, TxP [] (ckE s) w (.returned (.tuple #[.string ⟨#[]⟩, .int .i64 (ckE s)])) w) := fun w => ⟨rfl, Below.refl _ _⟩
  clear hb
  generalize ckE s = x at *
  go_enter Try.func42, Try.ntmps42
  go_wp2_with fail
  refine (HK.out _).mono ?_
  rintro e w' ⟨rfl, rfl⟩
  go_wp2
  go_ret2
  exact HP.out _

set_option maxRecDepth 100000 in
set_option maxHeartbeats 4000000 in
theorem rReverse_ok (s : ByteArray) (L : List Nat) (hC : allC L) (hl : s.data.toList = ens L) (hs : s.size ≤ 4096) (w : World) : Calls Try.prog 42 #[.string s] w (TxP (ens L.reverse) 0 w) := by
  obtain ⟨i0, hi, hz0, hz1, hz2⟩ := info_parts info3
  have HK : Hid (∀ w, Calls Try.prog 46 #[.string s] w (ErrS 0 w)) := fun w => by
    have := Checked_any s w
    rwa [ckE_ok hs hC hl] at this
  have HR := Lib.hid (fun w => Runes_any s L hC hl w hs)
  have hLs := ens_len_of hl hs
  have HFE : Hid (∀ k, L.length ≤ k → L.reverse.take k = L.reverse) := fun k hk => List.take_of_length_le (by rw [List.length_reverse]; exact hk)
  have HFL : Hid (∀ k, (up (L.reverse.take k)).length ≤ 4096) := fun k => by
    rw [up_length, List.length_take, List.length_reverse]
    show _ ≤ _
    omega
  have HWR : Hid (∀ (v : Value) (w : World), Rd .i64 w.heap.size v (up L.reverse) w → Calls Try.prog 54 #[v] w (StrP (ens L.reverse) w)) := fun v w h2 => Write_any _ (allC_reverse hC) _ v w (Nat.le_refl _) h2 (by rw [List.length_reverse]; omega)
  have HP : Hid (∀ w', Below w.heap.size w w' → TxP (ens L.reverse) 0 w (.returned (.tuple #[.string (bs (ens L.reverse)), .int .i64 0])) w') := fun w' h => ⟨rfl, h⟩
  have HUL : Hid ((up L).length = L.length) := up_length L
  have HSt : Hid (∀ k m (_ : L.length = k + 1 + m) (h : m < (up L).length), up (L.reverse.take (k + 1)) = up (L.reverse.take k) ++ [(up L)[m]]) := fun k m e h => by
    have hk : k < L.reverse.length := by rw [List.length_reverse]; omega
    rw [take_succ_get L.reverse k hk, up_append, up_get, List.getElem_reverse]
    simp only [show L.length - 1 - k = m by omega]
    rfl
  clear hC hl
  generalize ens L.reverse = E at *
  go_enter Try.func42, Try.ntmps42
  go_wp2_with fail
  refine (HK.out _).mono ?_
  rintro e w' ⟨rfl, rfl⟩
  go_wp2_with fail
  refine (HR.out _).mono ?_
  rintro e w2 ⟨lv, rfl, hb2, hr2⟩
  have HB2 := Lib.hid hb2
  obtain ⟨aoL, cvL, rfl, hcl⟩ := row_cells hr2
  rw [HUL.out]
  have HCL := Lib.hid hcl
  have HBR := Lib.hid (Below.refl w2.heap.size w2)
  clear hb2 hr2 hcl
  go_wp2_with fail
  go_loopw [6, 7] (fun v i wr => ∃ (k : Nat) (x : Int) (ao : Option Addr) (cv : Nat), k ≤ L.length ∧ x = (L.length : Int) - 1 - k ∧ i = .int .i64 x ∧ v = .slice ao (up (L.reverse.take k)).length cv ∧ wr.ownsRow w2.heap.size 3 1 v (up (L.reverse.take k)).length ((up (L.reverse.take k)).map (Value.int .i64)) ∧ Hid (Below w2.heap.size w2 wr)) (fun _ i _ => (intOf i + 1).toNat)
  case atStart => exact ⟨0, _, none, 0, Nat.zero_le _, by omega, rfl, rfl, World.ownsRow_nil _ _ _ _, HBR⟩
  case round =>
    obtain ⟨k, x, ao, cv, hk, hx, rfl, rfl, hown, hbl⟩ := hrel
    have hfl := HFL.out k
    have hsize := hbl.out.size
    by_cases hlt : k < L.length
    · obtain ⟨m, hm⟩ : ∃ m, L.length = k + 1 + m := ⟨L.length - (k + 1), by omega⟩
      obtain rfl : x = (m : Int) := by omega
      have hml : m < (up L).length := by rw [HUL.out]; omega
      have hmL : m < L.length := by omega
      obtain ⟨b, o, rfl, hcell⟩ := HCL.out wr hbl.out m hml
      have HStk := Lib.hid (HSt.out k m hm hml)
      generalize (up L)[m] = c at *
      generalize L.reverse.take k = A at *
      have hx2 : (m : Int) - 1 = (L.length : Int) - 1 - ((k + 1 : Nat) : Int) := by omega
      have HX2 := Lib.hid hx2
      have HKL : Hid (k + 1 ≤ L.length) := hlt
      clear hx hx2 hm
      go_wp2_with (first
        | (at_builtin; refine wpList_append_own _ rfl _ _ 25 rfl w2.heap.size 3 i0 (.int .i64 0) 1 8 Try.underlying25 hi hz0 hz1 hz2 rfl (by decide) _ _ _ rfl (hown.alloc _) ⟨wr.heap.size, 0, none⟩ 1 1 [.int .i64 c] rfl rfl (cell_one_new _ _ _) (fun x hx => by simp at hx; subst hx; rfl) (by unfold maxLen; omega) (by omega) (by simp; omega) ?_; intro v' w3 hown' hgrow3 hnil3))
      have hb3 : Hid (Below w2.heap.size w2 w3) := (hbl.out.alloc hsize _).grown hgrow3 (by simp; omega) (fun q hq => (hown.lt q hq).1)
      have HO3 : Hid (w3.ownsRow w2.heap.size 3 1 v' (up (L.reverse.take (k + 1))).length ((up (L.reverse.take (k + 1))).map (Value.int .i64))) := by
        show World.ownsRow _ _ _ _ _ _ _
        rw [HStk.out, List.length_append, List.map_append]
        exact hown'
      obtain ⟨ao2, cv2, rfl⟩ := form_any HO3.out
      clear hown' hgrow3 hnil3 hown
      go_wp2
      go_roundw
      case rel => exact ⟨k + 1, (m : Int) - 1, ao2, cv2, HKL.out, HX2.out, rfl, rfl, HO3.out, hb3⟩
      case measure => simp [intOf]
    · have HRD : Hid (Rd .i64 wr.heap.size (.slice ao (up (L.reverse.take k)).length cv) (up L.reverse) wr) := by
        have h1 : Row 3 .i64 w2.heap.size (.slice ao (up (L.reverse.take k)).length cv) (up (L.reverse.take k)) wr := ⟨hown, ao, cv, rfl⟩
        show Rd _ _ _ _ _
        have h2 := h1.rd
        rw [HFE.out k (by omega)] at h2
        rw [HFE.out k (by omega)]
        exact h2
      clear hown
      generalize (up (L.reverse.take k)).length = n at *
      have hx0 : x < 0 := by omega
      clear hx
      go_wp2_with fail
      refine (HWR.out _ _ HRD.out).mono ?_
      rintro e w4 ⟨rfl, hb4⟩
      have HB4 : Hid (Below w.heap.size w w4) := HB2.out.trans ((hbl.out.mono HB2.out.size).trans (hb4.mono (Nat.le_trans HB2.out.size hsize)))
      clear hb4
      go_wp2
      go_ret2
      exact HP.out _ HB4.out

set_option maxHeartbeats 2000000 in
theorem turns_go (s : ByteArray) (X Y : List UInt8) (d : Int) (w : World) (hz : ¬ 20000 < s.size) (hd : d = 0 → bs Y = s)
    (H1 : Hid (∀ w, Calls Try.prog 41 #[.string s] w (TxP X d w))) (H2 : Hid (∀ w, Calls Try.prog 42 #[.string s] w (TxP X d w)))
    (H3 : Hid (∀ w, Calls Try.prog 41 #[.string (bs X)] w (TxP Y 0 w))) :
    Calls Try.prog 10 #[.string s] w (KnownPost w) := by
  have HKN := Lib.hid known_any
  generalize hX : bs X = x at *
  have HX := Lib.hid hX
  clear hX
  by_cases hd0 : d = 0
  · have hY := hd hd0
    have HY := Lib.hid hY
    subst hd0
    clear hd hY
    go_enter Try.func10, Try.ntmps10
    go_wp2_with fail
    refine (H1.out _).mono ?_
    rintro e w1 ⟨rfl, hb1⟩
    have HB1 := Lib.hid hb1
    clear hb1
    rw [show bs X = x from HX.out]
    go_wp2_with fail
    refine (H2.out _).mono ?_
    rintro e w2 ⟨rfl, hb2⟩
    have HB2 : Hid (Below w.heap.size w w2) := HB1.out.trans (hb2.mono HB1.out.size)
    clear hb2
    rw [show bs X = x from HX.out]
    go_wp2_with fail
    refine (H3.out _).mono ?_
    rintro e w3 ⟨rfl, hb3⟩
    have HB3 : Hid (Below w.heap.size w w3) := HB2.out.trans (hb3.mono HB2.out.size)
    clear hb3
    rw [show bs Y = s from HY.out]
    go_wp2_with fail
    refine (HKN.out _).mono ?_
    rintro e w6 ⟨rfl, hb6⟩
    have HB6 : Hid (Below w.heap.size w w6) := HB3.out.trans (hb6.mono HB3.out.size)
    clear hb6
    go_wp2
    go_ret
    exact ⟨rfl, HB6.out⟩
  · have hn : (d != 0) = true := by simpa using hd0
    clear hd hd0
    go_enter Try.func10, Try.ntmps10
    go_wp2_with fail
    refine (H1.out _).mono ?_
    rintro e w1 ⟨rfl, hb1⟩
    have HB1 := Lib.hid hb1
    clear hb1
    rw [show bs X = x from HX.out]
    go_wp2_with fail
    refine (H2.out _).mono ?_
    rintro e w2 ⟨rfl, hb2⟩
    have HB2 : Hid (Below w.heap.size w w2) := HB1.out.trans (hb2.mono HB1.out.size)
    clear hb2
    rw [show bs X = x from HX.out]
    go_wp2_with fail
    refine (H3.out _).mono ?_
    rintro e w3 ⟨rfl, hb3⟩
    have HB3 : Hid (Below w.heap.size w w3) := HB2.out.trans (hb3.mono HB2.out.size)
    clear hb3
    generalize bs Y = y at *
    go_wp2_with fail
    refine (HKN.out _).mono ?_
    rintro e w6 ⟨rfl, hb6⟩
    have HB6 : Hid (Below w.heap.size w w6) := HB3.out.trans (hb6.mono HB3.out.size)
    clear hb6
    go_wp2
    go_ret
    exact ⟨rfl, HB6.out⟩

theorem ens_rev_len (L : List Nat) : (ens L.reverse).length = (ens L).length := by
  induction L with
  | nil => rfl
  | cons c L ih =>
    rw [List.reverse_cons, ens_append, List.length_append, ih]
    simp only [ens, List.length_append, List.length_nil]
    omega

theorem charsTurns_walk (s : ByteArray) (_hs0 : s.size ≤ maxLen) (w : World) : Calls Try.prog 10 #[.string s] w (KnownPost w) := by
  clear _hs0
  by_cases hz : 20000 < s.size
  · have HKN := Lib.hid known_any
    go_enter Try.func10, Try.ntmps10
    go_wp2_with fail
    refine (HKN.out _).mono ?_
    rintro e w3 ⟨rfl, hb3⟩
    have HB3 := Lib.hid hb3
    clear hb3
    go_wp2
    go_ret
    exact ⟨rfl, HB3.out⟩
  · rcases ckE_cases s with ⟨_, hs4, L, hC, hl⟩ | ⟨hck, _⟩
    · have hs : bs (ens L) = s := by rw [← hl, bs_of]
      have hsz : (bs (ens L.reverse)).size ≤ 4096 := by
        rw [bs_size, ens_rev_len, ← hl, ← size_list]
        exact hs4
      refine turns_go s (ens L.reverse) (ens L) 0 w hz (fun _ => hs) (fun w => Reverse_ok s L hC hl hs4 w) (fun w => rReverse_ok s L hC hl hs4 w) (fun w => ?_)
      have := Reverse_ok (bs (ens L.reverse)) L.reverse (allC_reverse hC) (bs_list _) hsz w
      rwa [List.reverse_reverse] at this
    · exact turns_go s [] (ens [].reverse) (ckE s) w hz (fun h => absurd h hck) (fun w => Reverse_bad s hck w) (fun w => rReverse_bad s hck w) (fun w => Reverse_ok (bs []) [] (fun c h => by cases h) (bs_list _) (by decide) w)

end Go.Proofs.Ytdjpjknbbedamaa
