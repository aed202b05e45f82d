/-
  The decimal text of a number: strconv.Itoa's and the document's Written. Conditions: numbers within 2^53; strconv's table of powers of ten as it is laid.
-/
import Derived.Test.YtmlifgngdilplaaDoorLooks
import Derived.Shelf.Strconv.Itoa4
import Derived.Lib.AppendIntMem
import Derived.Lib.ItoaLen
namespace Go.Proofs.YtmlifgngdilplaaDoor
open Go.RowKit

def Tab (w : World) : Prop := Lib.TabIs Tryd.prog w "internal/strconv.uint64pow10" .u64 Lib.pow10Tab
theorem gTab : Tryd.prog.globalNamed "internal/strconv.uint64pow10" = some 1 := by kernel_rfl
theorem Tab.later {w w' : World} (h : Tab w) (hb : Below w.heap.size w w') : Tab w' := by
  have hc := Lib.TabIs.cell h gTab 0 (by decide)
  have hlt : 1 < w.heap.size := by
    by_cases hh : 1 < w.heap.size
    · exact hh
    · have : w.heap[1]? = none := Array.getElem?_eq_none (by omega)
      simp [World.cell?, this] at hc
  exact var?_below hb gTab hlt h

theorem Itoa_any (n : Int) (h : inR n) (w : World) (ht : Tab w) : Calls Tryd.prog 49 #[.int .i64 n] w fun e w' => e = .returned (.string (bs (Lib.itoa n))) ∧ Below w.heap.size w w' := by
  obtain ⟨h1, h2⟩ := h
  refine (Tryd.strconv_Itoa n (by omega) (by omega) w ht).mono ?_
  rintro e w' ⟨rfl, k, os, rfl⟩
  exact ⟨rfl, Lib.below_grow _ _ (Nat.le_refl _) _ _⟩

theorem encode_small (c : Nat) (h : c < 128) : Utf8.encode (c : Int) = bs [UInt8.ofNat c] := by
  have hv : Utf8.valid (c : Int) = true := by
    simp [Utf8.valid]; omega
  unfold Utf8.encode
  simp [hv, h, bs]

theorem written_small (u : Nat) (w : World) (h : u < 10) : Calls Tryd.prog 52 #[.int .i64 u] w fun e w' => e = .returned (.string (bs (Lib.decDigits u))) ∧ w = w' := by
  have HF : Hid (Utf8.encode (48 + (u : Int)) = bs (Lib.decDigits u)) := by
    show _ = _
    rw [Lib.decDigits_one h, ← encode_small (48 + u) (by omega)]
    congr 1
  have h0 : ¬ ((u : Int) < 0) := by omega
  have h1 : ¬ (10 ≤ (u : Int)) := by omega
  generalize bs (Lib.decDigits u) = D at *
  go_enter Tryd.func52, Tryd.ntmps52
  go_wp2
  go_ret
  exact ⟨by rw [← HF.out]; rfl, rfl⟩

theorem decDigits_le (u : Nat) (h : (u : Int) ≤ 9223372036854775807) : (Lib.decDigits u).length ≤ 21 := by
  have := Lib.itoa_length_le (u : Int) (by omega) h
  rwa [Lib.itoa_nonneg] at this
theorem decDigits_big (u : Nat) (h : 10 ≤ u) : Lib.decDigits u = Lib.decDigits (u / 10) ++ [UInt8.ofNat (48 + u % 10)] := by
  rw [Lib.decDigits, dif_neg (by omega)]
theorem bs_append (l m : List UInt8) : bs l ++ bs m = bs (l ++ m) := by
  simp [bs, ByteArray.mk_append_mk]

theorem written_nat (f : Nat) : ∀ (u : Nat) (w : World), u ≤ f → (u : Int) ≤ 9223372036854775807 →
    Calls Tryd.prog 52 #[.int .i64 u] w fun e w' => e = .returned (.string (bs (Lib.decDigits u))) ∧ w = w' := by
  induction f with
  | zero =>
    intro u w hu _
    exact written_small u w (by omega)
  | succ f ih =>
    intro u w hu hb
    by_cases hs : u < 10
    · exact written_small u w hs
    · have HF : Hid (bs (Lib.decDigits (u / 10)) ++ Utf8.encode (48 + (u : Int) % 10) = bs (Lib.decDigits u)) := by
        show _ = _
        rw [show (48 + (u : Int) % 10) = ((48 + u % 10 : Nat) : Int) by omega, encode_small (48 + u % 10) (by omega), bs_append, ← decDigits_big u (by omega)]
      have hl : ((bs (Lib.decDigits (u / 10))).size : Int) ≤ 8388608 := by
        rw [bs_size]
        have := decDigits_le (u / 10) (by omega)
        omega
      have he : ((Utf8.encode (48 + (u : Int) % 10)).size : Int) ≤ 8388608 := by
        rw [show (48 + (u : Int) % 10) = ((48 + u % 10 : Nat) : Int) by omega, encode_small (48 + u % 10) (by omega), bs_size]
        simp
      have H := Lib.hid (fun w => ih (u / 10) w (by omega) (by omega))
      have h0 : ¬ ((u : Int) < 0) := by omega
      have h1 : 10 ≤ (u : Int) := by omega
      clear ih hu hs
      generalize bs (Lib.decDigits u) = D at *
      generalize bs (Lib.decDigits (u / 10)) = E at *
      go_enter Tryd.func52, Tryd.ntmps52
      go_wp2_with fail
      rw [show (u : Int) / 10 = ((u / 10 : Nat) : Int) from by omega]
      refine (H.out _).mono ?_
      rintro e w' ⟨rfl, rfl⟩
      go_wp2
      go_ret
      exact ⟨by rw [← HF.out]; rfl, rfl⟩

theorem Written_any (n : Int) (hn : inR n) (w : World) : Calls Tryd.prog 52 #[.int .i64 n] w fun e w' => e = .returned (.string (bs (Lib.itoa n))) ∧ w = w' := by
  obtain ⟨n1, n2⟩ := hn
  by_cases h : n < 0
  · obtain ⟨u, hu⟩ := Int.eq_ofNat_of_zero_le (show 0 ≤ -n by omega)
    have hn : n = -(u : Int) := by omega
    subst hn
    have H := Lib.hid (fun w => written_nat u u w (Nat.le_refl _) (by omega))
    have hl : ((bs (Lib.decDigits u)).size : Int) ≤ 8388608 := by
      rw [bs_size]
      have := decDigits_le u (by omega)
      omega
    have HF : Hid ((⟨#[45]⟩ : ByteArray) ++ bs (Lib.decDigits u) = bs (Lib.itoa (-(u : Int)))) := by
      show _ = _
      rw [Lib.itoa_neg u (by omega)]
      exact bs_append [45] _
    generalize bs (Lib.decDigits u) = E at *
    generalize bs (Lib.itoa (-(u : Int))) = D at *
    have hneg : - -(u : Int) = (u : Int) := by omega
    go_enter Tryd.func52, Tryd.ntmps52
    go_wp2_with fail
    refine (H.out _).mono ?_
    rintro e w' ⟨rfl, rfl⟩
    go_wp2
    go_ret
    exact ⟨by rw [← HF.out]; rfl, rfl⟩
  · obtain ⟨u, rfl⟩ := Int.eq_ofNat_of_zero_le (show 0 ≤ n by omega)
    rw [Lib.itoa_nonneg]
    exact written_nat u u w (Nat.le_refl _) (by omega)

end Go.Proofs.YtmlifgngdilplaaDoor
