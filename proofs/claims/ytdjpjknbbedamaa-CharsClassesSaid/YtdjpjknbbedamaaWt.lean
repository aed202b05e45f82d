/-
  The text of characters, as the document writes it (Write). Conditions: characters; at most 140737488355 of them.
-/
import Derived.Test.YtdjpjknbbedamaaWr
namespace Go.Proofs.Ytdjpjknbbedamaa
open Go.RowKit

theorem byteCells_app (l m : List UInt8) : Lib.byteCells (l ++ m) = Lib.byteCells l ++ Lib.strCells (bs m) := by
  simp [Lib.byteCells, Lib.strCells, bs]
/-- A row of bytes. -/
def Bytes (B : Nat) (v : Value) (l : List UInt8) (w : World) : Prop := w.ownsRow B 5 1 v l.length (Lib.byteCells l)
theorem Bytes.form {B : Nat} {v : Value} {l : List UInt8} {w : World} (h : Bytes B v l w) : ∃ ao cv, v = .slice ao l.length cv := by
  rcases h.2 with ⟨hv, h0⟩ | ⟨g, cap, cur, hv, _⟩
  · exact ⟨none, 0, by rw [hv, h0]⟩
  · exact ⟨_, cap, hv⟩
theorem Bytes.back {B : Nat} {v : Value} {l : List UInt8} {w : World} (h : Bytes B v l w) : (convert 58 9 v).run Try.prog w = .ok (.string (bs l)) w := by
  rcases h.2 with ⟨hv, h0⟩ | ⟨g, cap, cur, hv, _⟩
  · have hl : l = [] := List.eq_nil_of_length_eq_zero h0
    subst hl
    rw [hv, run_convert_bytes_string w _ _ 5 none 0 0 Try.underlying58 Try.underlying5 Try.underlying9]
    rfl
  · have hc := h.cells (g := g) (by rw [hv]; rfl)
    subst hv
    refine run_convert_bytes_back _ _ _ 5 _ _ l Try.underlying58 Try.underlying5 Try.underlying9 ?_
    intro j hj
    refine hc j _ ?_
    simp [Lib.byteCells, hj]

theorem ens_len_take (L : List Nat) (k : Nat) : (ens (L.take k)).length ≤ 4 * k := by
  have h1 := (ens_length_le (L.take k)).2
  have h2 : (L.take k).length ≤ k := by rw [List.length_take]; omega
  omega

set_option maxRecDepth 100000 in
set_option maxHeartbeats 1600000 in
theorem Write_any (L : List Nat) (hC : allC L) (H : Nat) (v : Value) (w : World) (hH : H ≤ w.heap.size) (hr : Rd .i64 H v (up L) w) (hl : L.length ≤ 1000000) :
    Calls Try.prog 54 #[v] w (StrP (ens L) w) := by
  obtain ⟨i0, hi, hz0, hz1, hz2⟩ := info_parts infoB
  have HP : Hid (∀ w', Below w.heap.size w w' → StrP (ens L) w (.returned (.string (bs (ens L)))) w') := fun w' h => ⟨rfl, h⟩
  obtain ⟨ao0, c0, rfl, hlc, hrd⟩ := hr
  have HR : Hid (∀ k (h : k < L.length) w', Below w.heap.size w w' → ∃ b o, ao0 = some ⟨b, o, none⟩ ∧ w'.cell? ⟨b, o + k, none⟩ = some (.int .i64 (L[k] : Nat))) := fun k h w' hbl => by
    obtain ⟨b, o, e, hb, hc⟩ := hrd (by rw [up_length]; omega)
    refine ⟨b, o, e, ?_⟩
    rw [hbl.cell (p := ⟨b, o + k, none⟩) (by show b < _; omega)]
    have := hc k (by rw [up_length]; exact h)
    rw [up_get] at this
    exact this
  have HSt : Hid (∀ k, (h : k < L.length) → ens (L.take (k + 1)) = ens (L.take k) ++ en L[k]) := fun k h => by
    rw [take_succ_get L k h, ens_append, ens_one]
  have HE : Hid (∀ k, L.length ≤ k → ens (L.take k) = ens L) := fun k h => ens_take_all L k h
  have HLen : Hid (∀ k, k ≤ L.length → (ens (L.take k)).length ≤ 4000000) := fun k h => by
    have := ens_len_take L k
    omega
  have HO : Hid (∀ k, (h : k < L.length) → ∀ w, Calls Try.prog 74 #[.int .i64 (L[k] : Nat)] w (StrP (en L[k]) w)) := fun k h w => one_any _ (hC _ (List.getElem_mem h)) w
  have HW : Hid (∀ k, (hk : k < L.length) → 1 ≤ (en L[k]).length ∧ (en L[k]).length ≤ 4) := fun k hk => en_length _
  have HN : Hid (Bytes w.heap.size (.slice none 0 0) (ens (L.take 0)) w) := World.ownsRow_nil _ _ _ _
  have HBR := Lib.hid (Below.refl w.heap.size w)
  rw [up_length] at hlc
  rw [up_length]
  clear hrd hC
  generalize ens L = R at *
  go_enter Try.func54, Try.ntmps54
  go_wp2
  go_loopw [3, 4] (fun v i wr => ∃ (k : Nat) (ao : Option Addr) (cv : Nat), k ≤ L.length ∧ i = .int .i64 k ∧ v = .slice ao (ens (L.take k)).length cv ∧ Hid (Bytes w.heap.size v (ens (L.take k)) wr) ∧ Hid (Below w.heap.size w wr)) (fun _ i _ => L.length - (intOf i).toNat)
  case atStart => exact ⟨0, none, 0, Nat.zero_le _, rfl, rfl, HN, HBR⟩
  case round =>
    obtain ⟨k, ao, cv, hk, rfl, rfl, hby, hbl⟩ := hrel
    have hln := HLen.out k hk
    by_cases hlt : k < L.length
    · obtain ⟨b, o, rfl, hcell⟩ := HR.out k hlt _ hbl.out
      have hown : wr.ownsRow w.heap.size 5 1 (.slice ao (ens (L.take k)).length cv) (ens (L.take k)).length (Lib.byteCells (ens (L.take k))) := hby.out
      have HOk := Lib.hid (HO.out k hlt)
      have hW := HW.out k hlt
      have HStk := Lib.hid (HSt.out k hlt)
      have hsize := hbl.out.size
      generalize L[k] = c at *
      have hsz : (bs (en c)).size = (en c).length := bs_size _
      have HSZ := Lib.hid hsz
      have hszb : (bs (en c)).size ≤ 4 := by omega
      generalize hM : ens (L.take k) = M at *
      have HM := Lib.hid hM
      clear hM hsz
      go_wp2_with fail
      refine (HOk.out _).mono ?_
      rintro e w2 ⟨rfl, hb2⟩
      have HB2 : Hid (Below w.heap.size w w2) := hbl.out.trans (hb2.mono hsize)
      have hown2 : w2.ownsRow w.heap.size 5 1 (.slice ao M.length cv) M.length (Lib.byteCells M) := owns_below hown hb2
      have hsize2 := HB2.out.size
      have HOW2 := Lib.hid hown2
      clear hb2 hown
      go_wp2_with (first
        | (at_builtin; refine Lib.wpList_append_own_string _ rfl _ _ 58 9 rfl w.heap.size 5 i0 Try.underlying58 Try.underlying9 hi hz0 hz1 hz2 _ _ _ rfl hown2 (bs (en c)) rfl (by unfold maxLen; omega) (by omega) (by omega) ?_; intro v' w3 hown' hgrow3 hnil3))
      have hb3 : Hid (Below w.heap.size w w3) := HB2.out.grown hgrow3 hsize2 (fun q hq => (HOW2.out.lt q hq).1)
      have HBY : Hid (Bytes w.heap.size v' (ens (L.take (k + 1))) w3) := by
        show Bytes _ _ _ _
        rw [HStk.out]
        unfold Bytes
        rw [byteCells_app, List.length_append, ← HSZ.out]
        exact hown'
      obtain ⟨ao2, cv2, rfl⟩ := HBY.out.form
      clear hown' hgrow3 hnil3 hown2
      go_wp2
      go_roundw
      case rel => exact ⟨k + 1, ao2, cv2, by omega, by go_num, rfl, HBY, hb3⟩
      case measure => simp [intOf]; omega
    · have he := HE.out k (by omega)
      have HCV : Hid ((convert 58 9 (.slice ao (ens (L.take k)).length cv)).run Try.prog wr = .ok (.string (bs R)) wr) := by
        show _ = _
        rw [hby.out.back, he]
      clear he
      generalize (ens (L.take k)).length = n at *
      have hcv2 := HCV.out
      go_wp2
      go_ret
      exact HP.out _ hbl.out

end Go.Proofs.Ytdjpjknbbedamaa
