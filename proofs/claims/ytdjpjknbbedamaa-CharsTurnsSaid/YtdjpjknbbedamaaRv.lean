/-
  chars.Reverse: slices.Reverse by the library's contract, laid at this program. No condition beside a text's own limit.
-/
import Derived.Shelf.SlicesE.Reverse
import Derived.Test.YtdjpjknbbedamaaSubs
namespace Go.Proofs
open Go.Shelf
def Try.reverse_ren : Go.Shelf.Ren := ⟨fun | 35 => 70 | n => n, fun | 22 => 79 | 23 => 21 | 3 => 3 | 4 => 4 | 0 => 0 | n => n, fun | n => n⟩
theorem Try.reverse_lay : Go.Proofs.SlLaysE.n35 Try.prog Try.reverse_ren := {
  mixed := by kernel_rfl
  f35 := ⟨Try.f70.name, by decide, Try.func70.trans (congrArg some (by kernel_rfl))⟩
  t0 := Try.underlying0
  a0 := Try.isAgg0
  z0 := Try.sizeOf0
  v0 := Try.zeroValue0
  t3 := Try.underlying3
  a3 := Try.isAgg3
  z3 := Try.sizeOf3
  v3 := Try.zeroValue3
  t4 := Try.underlying4
  a4 := Try.isAgg4
  z4 := Try.sizeOf4
  v4 := Try.zeroValue4
  t22 := Try.underlying79
  a22 := Try.isAgg79
  z22 := Try.sizeOf79
  v22 := Try.zeroValue79
  a23 := Try.isAgg21
  z23 := Try.sizeOf21 }
namespace Ytdjpjknbbedamaa
open Go.RowKit

/-- slices.Reverse on cells that hold L. -/
theorem turn_any (L : List Int) (g cap B : Nat) (w : World) (hB : B ≤ g) (hg : g < w.heap.size) (hc : ∀ j (h : j < L.length), w.cell? ⟨g, j, none⟩ = some (.int .i32 L[j])) (hf : ∀ j, w.frozen? ⟨g, j, none⟩ = false) (hle : L.length ≤ cap) (hl : L.length ≤ 4096) :
    Calls Try.prog 70 #[.slice (some ⟨g, 0, none⟩) L.length cap] w fun e w' => e = .returned (.tuple #[]) ∧ Below B w w' ∧ Rd .i32 w.heap.size (.slice (some ⟨g, 0, none⟩) L.length cap) L.reverse w' := by
  have hH : Go.Sort.Holds (Value.int .i32) w g 0 L.toArray := fun j hj => by
    have hj' : j < L.length := by simpa using hj
    refine ⟨?_, hf _⟩
    rw [Nat.zero_add, hc j hj', getElem!_pos L.toArray j hj]
    simp
  refine (AnyE.slices_Reverse Try.reverse_lay (Value.int .i32) (fun _ => rfl) g 0 cap L w hH (by omega)).mono ?_
  rintro e w' ⟨rfl, n, rfl⟩
  refine ⟨rfl, ⟨rfl, rfl, rfl, ?_, fun k hk => ?_⟩, ⟨_, cap, by rw [List.length_reverse], by rw [List.length_reverse]; exact hle, fun hp => ⟨g, 0, rfl, hg, fun j hj => ?_⟩⟩⟩
  · simp
  · simp only [Go.Sort.putRow, Go.Sort.mapBlock, Array.getElem?_modify]
    rw [if_neg (by omega)]
    rfl
  · have hj' : j < L.reverse.toArray.size := by simpa using hj
    rw [Go.Sort.cell?_putRow (Value.int .i32) (Go.Sort.ahead w n) g 0 L.toArray L.reverse.toArray hH (by simp) j hj', getElem!_pos L.reverse.toArray j hj']
    simp

theorem up_reverse (L : List Nat) : (up L).reverse = up L.reverse := by simp [up, List.map_reverse]
theorem allC_reverse {L : List Nat} (h : allC L) : allC L.reverse := fun c hc => h c (List.mem_reverse.1 hc)

theorem Reverse_bad (s : ByteArray) (hb : ckE s ≠ 0) (w : World) : Calls Try.prog 41 #[.string s] w (TxP [] (ckE s) w) := by
  have HK := Lib.hid (fun w => check1_any s w)
  have hn : (ckE s != 0) = true := by simpa using hb
  have HP : Hid (∀ w w', Below w.heap.size w w' → TxP [] (ckE s) w (.returned (.tuple #[.string ⟨#[]⟩, .int .i64 (ckE s)])) w') := fun w w' h => ⟨rfl, h⟩
  clear hb
  generalize ckE s = x at *
  go_enter Try.func41, Try.ntmps41
  go_wp2_with fail
  refine (HK.out _).mono ?_
  rintro e w' ⟨rfl, hb⟩
  have HB := Lib.hid hb
  clear hb
  go_wp2
  go_ret2
  exact HP.out _ _ HB.out

set_option maxRecDepth 100000 in
set_option maxHeartbeats 4000000 in
theorem Reverse_ok (s : ByteArray) (L : List Nat) (hC : allC L) (hl : s.data.toList = ens L) (hs : s.size ≤ 4096) (w : World) : Calls Try.prog 41 #[.string s] w (TxP (ens L.reverse) 0 w) := by
  have HK : Hid (∀ w, Calls Try.prog 45 #[.slice (some ⟨w.heap.size, 0, none⟩) 1 1] (w.alloc (.cells #[.string s] 9)) (ErrP 0 w)) := fun w => by
    have := check1_any s w
    rwa [ckE_ok hs hC hl] at this
  have HM := Lib.hid (fun w => runes_made s L hC hl hs w)
  have hLs := ens_len_of hl hs
  have HP : Hid (∀ w', Below w.heap.size w w' → TxP (ens L.reverse) 0 w (.returned (.tuple #[.string (bs (ens L.reverse)), .int .i64 0])) w') := fun w' h => ⟨rfl, h⟩
  have HBK : Hid (∀ (H : Nat) (v : Value) (w2 : World), Rd .i32 H v (up L).reverse w2 → (convert 79 9 v).run Try.prog w2 = .ok (.string (bs (ens L.reverse))) w2) := fun H v w2 h => by
    rw [up_reverse] at h
    exact runes_back L.reverse (allC_reverse hC) H v w2 h
  have HTR : Hid (∀ (g cap B : Nat) (w : World), B ≤ g → g < w.heap.size → L.length ≤ cap → (∀ j (h : j < L.length), w.cell? ⟨g, j, none⟩ = some (.int .i32 (L[j] : Nat))) → (∀ j, w.frozen? ⟨g, j, none⟩ = false) →
      Calls Try.prog 70 #[.slice (some ⟨g, 0, none⟩) L.length cap] w fun e w' => e = .returned (.tuple #[]) ∧ Below B w w' ∧ Rd .i32 w.heap.size (.slice (some ⟨g, 0, none⟩) L.length cap) (up L).reverse w') := fun g cap B w hB hg hle hc hf => by
    have := turn_any (up L) g cap B w hB hg (fun j hj => by rw [up_get]; exact hc j _) hf (by rw [up_length]; exact hle) (by rw [up_length]; exact hLs)
    rwa [up_length] at this
  clear hC hl
  go_enter Try.func41, Try.ntmps41
  go_wp2_with fail
  refine (HK.out _).mono ?_
  rintro e w1 ⟨rfl, hb1⟩
  have HB1 := Lib.hid hb1
  clear hb1
  obtain ⟨cap, w2, hcv, hle, hb2, hz2, hcell, hfz⟩ := HM.out w1
  have HB2 : Hid (Below w.heap.size w w2) := HB1.out.trans (hb2.mono HB1.out.size)
  have HT := Lib.hid (HTR.out w1.heap.size cap w.heap.size w2 HB1.out.size (by omega) hle hcell hfz)
  clear hb2 hcell hfz hz2 HTR
  generalize w1.heap.size = b at *
  go_wp2_with fail
  refine HT.out.mono ?_
  rintro e w3 ⟨rfl, hb3, hr3⟩
  have HB3 : Hid (Below w.heap.size w w3) := HB2.out.trans hb3
  have hbk := HBK.out _ _ _ hr3
  clear hb3 hr3 hcv
  go_wp2
  go_ret2
  exact HP.out _ HB3.out

end Ytdjpjknbbedamaa
end Go.Proofs
