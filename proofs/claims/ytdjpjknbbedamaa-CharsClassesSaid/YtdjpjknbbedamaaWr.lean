/-
  The text of characters as the document writes it; two rows held against each other; the sizes of results. Conditions: characters; rows of at most 140737488355 elements.
-/
import Derived.Test.YtdjpjknbbedamaaRw
import Derived.Laws.IdiomStrings
namespace Go.Proofs.Ytdjpjknbbedamaa
open Go.RowKit

theorem back_new (w : World) (ns : List Int) (l : List UInt8) (hl : ns = l.map (fun b => (b.toNat : Int))) :
    (convert 58 9 (.slice (some ⟨w.heap.size, 0, none⟩) ns.length ns.length)).run Try.prog (w.alloc (.cells (ns.map (Value.int .u8)).toArray 5)) = .ok (.string (bs l)) (w.alloc (.cells (ns.map (Value.int .u8)).toArray 5)) := by
  subst hl
  rw [List.length_map]
  refine run_convert_bytes_back _ _ _ 5 _ _ l Try.underlying58 Try.underlying5 Try.underlying9 ?_
  intro j hj
  rw [add_zero_addr, World.cell?_alloc_new]
  simp [hj]

/-- One string handed back. -/
def StrP (l : List UInt8) (w : World) (e : Ending) (w' : World) : Prop := e = .returned (.string (bs l)) ∧ Below w.heap.size w w'

set_option maxRecDepth 1000000 in
set_option maxHeartbeats 4000000 in
theorem one_any (c : Nat) (hc : isC c = true) (w : World) : Calls Try.prog 74 #[.int .i64 c] w (StrP (en c) w) := by
  have hci := isC_iff.1 hc
  have HP : Hid (∀ o, StrP (en c) w (.returned (.string (bs (en c)))) (w.alloc o)) := fun o => ⟨rfl, (Below.refl _ _).alloc (Nat.le_refl _) o⟩
  by_cases h1 : c < 128
  · have hcv : (convert 58 9 (.slice (some ⟨w.heap.size, 0, none⟩) 1 1)).run Try.prog (w.alloc (.cells #[.int .u8 (c : Int)] 5)) = .ok (.string (bs (en c))) (w.alloc (.cells #[.int .u8 (c : Int)] 5)) := by
      rw [en1 h1]
      exact back_new w [(c : Int)] _ (by simp only [List.map_cons, List.map_nil]; rw [ofNat_toNat (by omega)])
    clear hc hci
    generalize bs (en c) = R at *
    go_enter Try.func74, Try.ntmps74
    go_wp2
    go_ret
    exact HP.out _
  by_cases h2 : c < 2048
  · have hcv : (convert 58 9 (.slice (some ⟨w.heap.size, 0, none⟩) 2 2)).run Try.prog (w.alloc (.cells #[.int .u8 (192 + (c : Int) / 64), .int .u8 (128 + (c : Int) % 64)] 5)) = .ok (.string (bs (en c))) (w.alloc (.cells #[.int .u8 (192 + (c : Int) / 64), .int .u8 (128 + (c : Int) % 64)] 5)) := by
      rw [en2 (by omega) h2]
      exact back_new w [192 + (c : Int) / 64, 128 + (c : Int) % 64] _ (by simp only [List.map_cons, List.map_nil]; rw [ofNat_toNat (by omega), ofNat_toNat (by omega)]; rfl)
    clear hc hci
    generalize bs (en c) = R at *
    go_enter Try.func74, Try.ntmps74
    go_wp2
    go_ret
    exact HP.out _
  by_cases h3 : c < 65536
  · have hcv : (convert 58 9 (.slice (some ⟨w.heap.size, 0, none⟩) 3 3)).run Try.prog (w.alloc (.cells #[.int .u8 (224 + (c : Int) / 4096), .int .u8 (128 + (c : Int) / 64 % 64), .int .u8 (128 + (c : Int) % 64)] 5)) = .ok (.string (bs (en c))) (w.alloc (.cells #[.int .u8 (224 + (c : Int) / 4096), .int .u8 (128 + (c : Int) / 64 % 64), .int .u8 (128 + (c : Int) % 64)] 5)) := by
      rw [en3 (by omega) h3 hc]
      exact back_new w [224 + (c : Int) / 4096, 128 + (c : Int) / 64 % 64, 128 + (c : Int) % 64] _ (by simp only [List.map_cons, List.map_nil]; rw [ofNat_toNat (by omega), ofNat_toNat (by omega), ofNat_toNat (by omega)]; rfl)
    clear hc hci
    generalize bs (en c) = R at *
    go_enter Try.func74, Try.ntmps74
    go_wp2
    go_ret
    exact HP.out _
  · have hcv : (convert 58 9 (.slice (some ⟨w.heap.size, 0, none⟩) 4 4)).run Try.prog (w.alloc (.cells #[.int .u8 (240 + (c : Int) / 262144), .int .u8 (128 + (c : Int) / 4096 % 64), .int .u8 (128 + (c : Int) / 64 % 64), .int .u8 (128 + (c : Int) % 64)] 5)) = .ok (.string (bs (en c))) (w.alloc (.cells #[.int .u8 (240 + (c : Int) / 262144), .int .u8 (128 + (c : Int) / 4096 % 64), .int .u8 (128 + (c : Int) / 64 % 64), .int .u8 (128 + (c : Int) % 64)] 5)) := by
      rw [en4 (by omega) hc]
      exact back_new w [240 + (c : Int) / 262144, 128 + (c : Int) / 4096 % 64, 128 + (c : Int) / 64 % 64, 128 + (c : Int) % 64] _ (by simp only [List.map_cons, List.map_nil]; rw [ofNat_toNat (by omega), ofNat_toNat (by omega), ofNat_toNat (by omega), ofNat_toNat (by omega)]; rfl)
    have hb : c ≤ 1114111 := by omega
    clear hc hci
    generalize bs (en c) = R at *
    go_enter Try.func74, Try.ntmps74
    go_wp2
    go_ret
    exact HP.out _

set_option maxHeartbeats 1600000 in
theorem SameInts_any (L M : List Int) (H1 H2 : Nat) (v1 v2 : Value) (w : World) (h1 : Rd .i64 H1 v1 L w) (h2 : Rd .i64 H2 v2 M w) (hl : L.length ≤ 140737488355) :
    Calls Try.prog 16 #[v1, v2] w fun e w' => e = .returned (.bool (L == M)) ∧ Below w.heap.size w w' := by
  have hb0 : Hid (Below w.heap.size w w) := Below.refl _ _
  obtain ⟨ao1, c1, rfl, hlc1, hr1⟩ := h1
  obtain ⟨ao2, c2, rfl, hlc2, hr2⟩ := h2
  have HR1 := Lib.hid hr1
  have HR2 := Lib.hid hr2
  clear hr1 hr2
  by_cases hne : L.length = M.length
  · have HNE := Lib.hid hne
    have hdn : ((L.length : Int) != (M.length : Int)) = false := by rw [hne]; simp
    have HEQ : Hid (∀ k, L.length ≤ k → (∀ j (h : j < k) (h1 : j < L.length) (h2 : j < M.length), L[j] = M[j]) → (L == M) = true) := fun k hk hh => by
      rw [beq_iff_eq]
      exact List.ext_getElem hne (fun j h1 h2 => hh j (by omega) h1 h2)
    have HNQ : Hid (∀ k (h1 : k < L.length) (h2 : k < M.length), L[k] ≠ M[k] → (L == M) = false) := fun k h1 h2 hn => by
      rw [beq_eq_false_iff_ne]
      rintro rfl
      exact hn rfl
    have HML : Hid (∀ k, k < L.length → k < M.length) := fun k h => by omega
    clear hne
    generalize (L == M) = R at *
    go_enter Try.func16, Try.ntmps16
    go_wp2
    go_loopw [5] (fun i wr => ∃ (k q : Nat), k ≤ L.length ∧ i = .int .i64 k ∧ wr = w.drewN q ∧ Hid (∀ j (h : j < k) (h1 : j < L.length) (h2 : j < M.length), L[j] = M[j])) (fun i _ => L.length - (intOf i).toNat)
    case atStart => exact ⟨0, 0, by omega, rfl, rfl, fun j h => absurd h (Nat.not_lt_zero j)⟩
    case round =>
      obtain ⟨k, q, hk, rfl, rfl, hsm⟩ := hrel
      by_cases hlt : k < L.length
      · have hlm := HML.out k hlt
        obtain ⟨b1, o1, rfl, hb1, hx1⟩ := HR1.out (by omega)
        obtain ⟨b2, o2, rfl, hb2, hx2⟩ := HR2.out (by omega)
        have hc1 : (w.drewN q).cell? ⟨b1, o1 + k, none⟩ = some (.int .i64 L[k]) := hx1 k hlt
        have hc2 : (w.drewN q).cell? ⟨b2, o2 + k, none⟩ = some (.int .i64 M[k]) := hx2 k hlm
        have HNk := Lib.hid (HNQ.out k hlt hlm)
        have HSt : Hid (L[k] = M[k] → ∀ j (h : j < k + 1) (h1 : j < L.length) (h2 : j < M.length), L[j] = M[j]) := fun he j h h1 h2 => by
          by_cases hjk : j = k
          · subst hjk; exact he
          · exact hsm.out j (by omega) h1 h2
        clear hx1 hx2
        generalize L[k] = X at *
        generalize M[k] = Y at *
        generalize hwq : w.drewN q = wq at *
        have HWQ := Lib.hid hwq
        clear hwq
        by_cases hxy : X = Y
        · have HG := Lib.hid (HSt.out hxy)
          subst hxy
          clear HSt HNk
          go_wp2
          go_quiet (fail)
          go_wp2
          go_roundw
          case rel => exact ⟨k + 1, q + nq, by omega, by go_num, by rw [← HWQ.out, World.drewN_drewN], HG⟩
          case measure => simp [intOf]; omega
        · have HF := Lib.hid (HNk.out hxy)
          have hxn : (X != Y) = true := by simpa using hxy
          clear HSt HNk hxy
          go_wp2
          go_quiet (fail)
          go_wp2
          go_ret
          exact ⟨ret_bool HF.out.symm, by rw [← HWQ.out, World.drewN_drewN]; exact below_drewN hb0.out _⟩
      · have HF := Lib.hid (HEQ.out k (by omega) hsm.out)
        go_wp2
        go_ret
        exact ⟨ret_bool HF.out.symm, below_drewN hb0.out _⟩
  · have hdn : ((L.length : Int) != (M.length : Int)) = true := by simp; omega
    have HF : Hid ((L == M) = false) := by
      show _ = _
      rw [beq_eq_false_iff_ne]
      rintro rfl
      exact hne rfl
    clear hne
    generalize (L == M) = R at *
    go_enter Try.func16, Try.ntmps16
    go_wp2
    go_ret
    exact ⟨ret_bool HF.out.symm, hb0.out⟩

/-- A result that must not be too long: its text and its error. -/
def szL (l : List UInt8) : List UInt8 := if 4096 < l.length then [] else l
def szE (l : List UInt8) : Int := if 4096 < l.length then 3 else 0
def TxP (l : List UInt8) (v : Int) (w : World) (e : Ending) (w' : World) : Prop := e = .returned (.tuple #[.string (bs l), .int .i64 v]) ∧ Below w.heap.size w w'
def TxS (l : List UInt8) (v : Int) (w : World) (e : Ending) (w' : World) : Prop := e = .returned (.tuple #[.string (bs l), .int .i64 v]) ∧ w = w'

theorem limited_any (l : List UInt8) (w : World) (hl : l.length ≤ 140737488355328) : Calls Try.prog 50 #[.string (bs l)] w (TxS (szL l) (szE l) w) := by
  have HZ := bs_size l
  have HP : Hid (∀ m v, m = szL l → v = szE l → TxS (szL l) (szE l) w (.returned (.tuple #[.string (bs m), .int .i64 v])) w) := fun m v h1 h2 => by
    subst h1
    subst h2
    exact ⟨rfl, rfl⟩
  by_cases h : 4096 < l.length
  · have h2 : 4096 < (bs l).size := by omega
    have HF := Lib.hid (HP.out [] 3 (by rw [szL, if_pos h]) (by rw [szE, if_pos h]))
    clear HZ hl h
    generalize bs l = s at *
    go_enter Try.func50, Try.ntmps50
    go_wp2
    go_ret2
    exact HF.out
  · have h2 : (bs l).size ≤ 4096 := by omega
    have HF := Lib.hid (HP.out l 0 (by rw [szL, if_neg h]) (by rw [szE, if_neg h]))
    clear HZ hl h
    generalize bs l = s at *
    go_enter Try.func50, Try.ntmps50
    go_wp2
    go_ret2
    exact HF.out
theorem sized_any (l : List UInt8) (w : World) (hl : l.length ≤ 140737488355328) : Calls Try.prog 53 #[.string (bs l)] w (TxS (szL l) (szE l) w) := by
  have HZ := bs_size l
  have HP : Hid (∀ m v, m = szL l → v = szE l → TxS (szL l) (szE l) w (.returned (.tuple #[.string (bs m), .int .i64 v])) w) := fun m v h1 h2 => by
    subst h1
    subst h2
    exact ⟨rfl, rfl⟩
  by_cases h : 4096 < l.length
  · have h2 : 4096 < (bs l).size := by omega
    have HF := Lib.hid (HP.out [] 3 (by rw [szL, if_pos h]) (by rw [szE, if_pos h]))
    clear HZ hl h
    generalize bs l = s at *
    go_enter Try.func53, Try.ntmps53
    go_wp2
    go_ret2
    exact HF.out
  · have h2 : (bs l).size ≤ 4096 := by omega
    have HF := Lib.hid (HP.out l 0 (by rw [szL, if_neg h]) (by rw [szE, if_neg h]))
    clear HZ hl h
    generalize bs l = s at *
    go_enter Try.func53, Try.ntmps53
    go_wp2
    go_ret2
    exact HF.out

end Go.Proofs.Ytdjpjknbbedamaa
