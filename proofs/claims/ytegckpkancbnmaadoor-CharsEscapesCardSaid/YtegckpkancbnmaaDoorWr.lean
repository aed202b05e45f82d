/-
  The text of characters as the document writes it; two rows held against each other; the sizes of results. Conditions: characters; rows of at most 140737488355 elements.
-/
import Derived.Test.YtegckpkancbnmaaDoorRw
import Derived.Laws.IdiomStrings
namespace Go.Proofs.YtegckpkancbnmaaDoor
open Go.RowKit

theorem back_new (w : World) (ns : List Int) (l : List UInt8) (hl : ns = l.map (fun b => (b.toNat : Int))) :
    (convert 43 9 (.slice (some ⟨w.heap.size, 0, none⟩) ns.length ns.length)).run Tryd.prog (w.alloc (.cells (ns.map (Value.int .u8)).toArray 5)) = .ok (.string (bs l)) (w.alloc (.cells (ns.map (Value.int .u8)).toArray 5)) := by
  subst hl
  rw [List.length_map]
  refine run_convert_bytes_back _ _ _ 5 _ _ l Tryd.underlying43 Tryd.underlying5 Tryd.underlying9 ?_
  intro j hj
  rw [add_zero_addr, World.cell?_alloc_new]
  simp [hj]

/-- One string handed back. -/
def StrP (l : List UInt8) (w : World) (e : Ending) (w' : World) : Prop := e = .returned (.string (bs l)) ∧ Below w.heap.size w w'

set_option maxRecDepth 1000000 in
set_option maxHeartbeats 4000000 in
theorem one_any (c : Nat) (hc : isC c = true) (w : World) : Calls Tryd.prog 32 #[.int .i64 c] w (StrP (en c) w) := by
  have hci := isC_iff.1 hc
  have HP : Hid (∀ o, StrP (en c) w (.returned (.string (bs (en c)))) (w.alloc o)) := fun o => ⟨rfl, (Below.refl _ _).alloc (Nat.le_refl _) o⟩
  by_cases h1 : c < 128
  · have hcv : (convert 43 9 (.slice (some ⟨w.heap.size, 0, none⟩) 1 1)).run Tryd.prog (w.alloc (.cells #[.int .u8 (c : Int)] 5)) = .ok (.string (bs (en c))) (w.alloc (.cells #[.int .u8 (c : Int)] 5)) := by
      rw [en1 h1]
      exact back_new w [(c : Int)] _ (by simp only [List.map_cons, List.map_nil]; rw [ofNat_toNat (by omega)])
    clear hc hci
    generalize bs (en c) = R at *
    go_enter Tryd.func32, Tryd.ntmps32
    go_wp2
    go_ret
    exact HP.out _
  by_cases h2 : c < 2048
  · have hcv : (convert 43 9 (.slice (some ⟨w.heap.size, 0, none⟩) 2 2)).run Tryd.prog (w.alloc (.cells #[.int .u8 (192 + (c : Int) / 64), .int .u8 (128 + (c : Int) % 64)] 5)) = .ok (.string (bs (en c))) (w.alloc (.cells #[.int .u8 (192 + (c : Int) / 64), .int .u8 (128 + (c : Int) % 64)] 5)) := by
      rw [en2 (by omega) h2]
      exact back_new w [192 + (c : Int) / 64, 128 + (c : Int) % 64] _ (by simp only [List.map_cons, List.map_nil]; rw [ofNat_toNat (by omega), ofNat_toNat (by omega)]; rfl)
    clear hc hci
    generalize bs (en c) = R at *
    go_enter Tryd.func32, Tryd.ntmps32
    go_wp2
    go_ret
    exact HP.out _
  by_cases h3 : c < 65536
  · have hcv : (convert 43 9 (.slice (some ⟨w.heap.size, 0, none⟩) 3 3)).run Tryd.prog (w.alloc (.cells #[.int .u8 (224 + (c : Int) / 4096), .int .u8 (128 + (c : Int) / 64 % 64), .int .u8 (128 + (c : Int) % 64)] 5)) = .ok (.string (bs (en c))) (w.alloc (.cells #[.int .u8 (224 + (c : Int) / 4096), .int .u8 (128 + (c : Int) / 64 % 64), .int .u8 (128 + (c : Int) % 64)] 5)) := by
      rw [en3 (by omega) h3 hc]
      exact back_new w [224 + (c : Int) / 4096, 128 + (c : Int) / 64 % 64, 128 + (c : Int) % 64] _ (by simp only [List.map_cons, List.map_nil]; rw [ofNat_toNat (by omega), ofNat_toNat (by omega), ofNat_toNat (by omega)]; rfl)
    clear hc hci
    generalize bs (en c) = R at *
    go_enter Tryd.func32, Tryd.ntmps32
    go_wp2
    go_ret
    exact HP.out _
  · have hcv : (convert 43 9 (.slice (some ⟨w.heap.size, 0, none⟩) 4 4)).run Tryd.prog (w.alloc (.cells #[.int .u8 (240 + (c : Int) / 262144), .int .u8 (128 + (c : Int) / 4096 % 64), .int .u8 (128 + (c : Int) / 64 % 64), .int .u8 (128 + (c : Int) % 64)] 5)) = .ok (.string (bs (en c))) (w.alloc (.cells #[.int .u8 (240 + (c : Int) / 262144), .int .u8 (128 + (c : Int) / 4096 % 64), .int .u8 (128 + (c : Int) / 64 % 64), .int .u8 (128 + (c : Int) % 64)] 5)) := by
      rw [en4 (by omega) hc]
      exact back_new w [240 + (c : Int) / 262144, 128 + (c : Int) / 4096 % 64, 128 + (c : Int) / 64 % 64, 128 + (c : Int) % 64] _ (by simp only [List.map_cons, List.map_nil]; rw [ofNat_toNat (by omega), ofNat_toNat (by omega), ofNat_toNat (by omega), ofNat_toNat (by omega)]; rfl)
    have hb : c ≤ 1114111 := by omega
    clear hc hci
    generalize bs (en c) = R at *
    go_enter Tryd.func32, Tryd.ntmps32
    go_wp2
    go_ret
    exact HP.out _


/-- A result that must not be too long: its text and its error. -/
def szL (l : List UInt8) : List UInt8 := if 4096 < l.length then [] else l
def szE (l : List UInt8) : Int := if 4096 < l.length then 3 else 0
def TxP (l : List UInt8) (v : Int) (w : World) (e : Ending) (w' : World) : Prop := e = .returned (.tuple #[.string (bs l), .int .i64 v]) ∧ Below w.heap.size w w'
def TxS (l : List UInt8) (v : Int) (w : World) (e : Ending) (w' : World) : Prop := e = .returned (.tuple #[.string (bs l), .int .i64 v]) ∧ w = w'

theorem limited_any (l : List UInt8) (w : World) (hl : l.length ≤ 140737488355328) : Calls Tryd.prog 37 #[.string (bs l)] w (TxS (szL l) (szE l) w) := by
  have HZ := bs_size l
  have HP : Hid (∀ m v, m = szL l → v = szE l → TxS (szL l) (szE l) w (.returned (.tuple #[.string (bs m), .int .i64 v])) w) := fun m v h1 h2 => by
    subst h1
    subst h2
    exact ⟨rfl, rfl⟩
  by_cases h : 4096 < l.length
  · have h2 : 4096 < (bs l).size := by omega
    have HF := Lib.hid (HP.out [] 3 (by rw [szL, if_pos h]) (by rw [szE, if_pos h]))
    clear HZ hl h
    generalize bs l = s at *
    go_enter Tryd.func37, Tryd.ntmps37
    go_wp2
    go_ret2
    exact HF.out
  · have h2 : (bs l).size ≤ 4096 := by omega
    have HF := Lib.hid (HP.out l 0 (by rw [szL, if_neg h]) (by rw [szE, if_neg h]))
    clear HZ hl h
    generalize bs l = s at *
    go_enter Tryd.func37, Tryd.ntmps37
    go_wp2
    go_ret2
    exact HF.out
theorem sized_any (l : List UInt8) (w : World) (hl : l.length ≤ 140737488355328) : Calls Tryd.prog 33 #[.string (bs l)] w (TxS (szL l) (szE l) w) := by
  have HZ := bs_size l
  have HP : Hid (∀ m v, m = szL l → v = szE l → TxS (szL l) (szE l) w (.returned (.tuple #[.string (bs m), .int .i64 v])) w) := fun m v h1 h2 => by
    subst h1
    subst h2
    exact ⟨rfl, rfl⟩
  by_cases h : 4096 < l.length
  · have h2 : 4096 < (bs l).size := by omega
    have HF := Lib.hid (HP.out [] 3 (by rw [szL, if_pos h]) (by rw [szE, if_pos h]))
    clear HZ hl h
    generalize bs l = s at *
    go_enter Tryd.func33, Tryd.ntmps33
    go_wp2
    go_ret2
    exact HF.out
  · have h2 : (bs l).size ≤ 4096 := by omega
    have HF := Lib.hid (HP.out l 0 (by rw [szL, if_neg h]) (by rw [szE, if_neg h]))
    clear HZ hl h
    generalize bs l = s at *
    go_enter Tryd.func33, Tryd.ntmps33
    go_wp2
    go_ret2
    exact HF.out

end Go.Proofs.YtegckpkancbnmaaDoor
