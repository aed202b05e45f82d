/-
  One text further by its number, num's and the document's; and the document's Next. Conditions: strconv's table of powers of ten as it is laid.
-/
import Derived.Test.YtmlifgngdilplaaDoorNxr
namespace Go.Proofs.YtmlifgngdilplaaDoor
open Go.RowKit

theorem numOf_in (l : List UInt8) : inR (numOf l) := by
  have h : ∀ m, 0 ≤ dval ((cutL (skipL l)).take m) ∧ dval ((cutL (skipL l)).take m) ≤ 9007199254740992 ∨ ldig (cutL (skipL l)) < m := fun m => by
    by_cases hm : m ≤ ldig (cutL (skipL l))
    · exact .inl (dval_take_bd _ _ hm)
    · exact .inr (by omega)
  have := dval_take_bd (cutL (skipL l)) (ldig (cutL (skipL l))) (Nat.le_refl _)
  unfold numOf inR
  split <;> omega

def nxI (l : List UInt8) : Int := min (numOf l + 1) 9007199254740992
theorem nxI_in (l : List UInt8) : inR (nxI l) := by
  have := numOf_in l
  unfold inR at *
  unfold nxI
  omega
def nxT (l : List UInt8) : List UInt8 := if cntB l then furP l else Lib.itoa (nxI l)
theorem nxT_le (l : List UInt8) (h : l.length ≤ 4096) : (nxT l).length ≤ 4097 := by
  unfold nxT
  split
  · have := furP_le l; omega
  · have h1 := nxI_in l
    have := Lib.itoa_length_le (nxI l) (by have := h1.1; omega) (by have := h1.2; omega)
    omega

theorem further_any (s : ByteArray) (w : World) (hs : s.size ≤ 4096) : Calls Tryd.prog 68 #[.string s] w fun e w' => e = .returned (.string (bs (nxT s.data.toList))) ∧ w = w' := by
  cases hc : cntB s.data.toList
  · have HC := Lib.hid (fun w => counts_any s w (by omega))
    have HCB := Lib.hid hc
    have H1 := Lib.hid (fun w => OfText_any s w (by omega))
    have H2 := Lib.hid (fun w => Written_any (nxI s.data.toList) (nxI_in _) w)
    have HT : Hid (bs (Lib.itoa (nxI s.data.toList)) = bs (nxT s.data.toList)) := by
      show _ = _
      unfold nxT
      rw [hc]
      rfl
    have hin := numOf_in s.data.toList
    obtain ⟨i1, i2⟩ := hin
    have HM : Hid (nxI s.data.toList = min (numOf s.data.toList + 1) 9007199254740992) := rfl
    clear hc
    generalize bs (nxT s.data.toList) = T at *
    generalize nxI s.data.toList = M at *
    generalize numOf s.data.toList = N at *
    go_enter Tryd.func68, Tryd.ntmps68
    go_wp2_with fail
    refine (HC.out _).mono ?_
    rintro e w' ⟨rfl, rfl⟩
    rw [HCB.out]
    go_wp2_with fail
    refine (H1.out _).mono ?_
    rintro e w' ⟨rfl, rfl⟩
    go_wp2_with fail
    rw [← HM.out]
    refine (H2.out _).mono ?_
    rintro e w' ⟨rfl, rfl⟩
    go_wp2
    go_ret
    exact ⟨by rw [HT.out]; rfl, rfl⟩
  · refine (further_ser _ s w (Nat.le_refl _) hs hc).mono ?_
    rintro e w' ⟨rfl, rfl⟩
    refine ⟨?_, rfl⟩
    unfold nxT
    rw [hc]
    rfl

def NxP (v : ByteArray) (k : Int) (w : World) (e : Ending) (w' : World) : Prop := e = .returned (.tuple #[.string v, .int .i64 k]) ∧ Below w.heap.size w w'
def nxV (s : ByteArray) : ByteArray := if 4096 < s.size then bs [] else if 4096 < (nxT s.data.toList).length then bs [] else bs (nxT s.data.toList)
def nxE (s : ByteArray) : Int := if 4096 < s.size then 3 else if 4096 < (nxT s.data.toList).length then 3 else 0

theorem rNext_any (s : ByteArray) (w : World) : Calls Tryd.prog 35 #[.string s] w fun e w' => e = .returned (.tuple #[.string (nxV s), .int .i64 (nxE s)]) ∧ w = w' := by
  by_cases hz : 4096 < s.size
  · have HV : Hid (nxV s = ⟨#[]⟩) := by show _ = _; unfold nxV; rw [if_pos hz]; rfl
    have HE : Hid (nxE s = 3) := by show _ = _; unfold nxE; rw [if_pos hz]
    generalize nxV s = V at *
    generalize nxE s = E at *
    go_enter Tryd.func35, Tryd.ntmps35
    go_wp2
    go_ret2
    exact ⟨by rw [HV.out, HE.out]; rfl, rfl⟩
  · have H1 := Lib.hid (fun w => further_any s w (by omega))
    by_cases hb : 4096 < (nxT s.data.toList).length
    · have HV : Hid (nxV s = ⟨#[]⟩) := by show _ = _; unfold nxV; rw [if_neg hz, if_pos hb]; rfl
      have HE : Hid (nxE s = 3) := by show _ = _; unfold nxE; rw [if_neg hz, if_pos hb]
      rw [← bs_size] at hb
      generalize nxV s = V at *
      generalize nxE s = E at *
      generalize bs (nxT s.data.toList) = T at *
      go_enter Tryd.func35, Tryd.ntmps35
      go_wp2_with fail
      refine (H1.out _).mono ?_
      rintro e w' ⟨rfl, rfl⟩
      go_wp2
      go_ret2
      exact ⟨by rw [HV.out, HE.out]; rfl, rfl⟩
    · have HV : Hid (nxV s = bs (nxT s.data.toList)) := by show _ = _; unfold nxV; rw [if_neg hz, if_neg hb]
      have HE : Hid (nxE s = 0) := by show _ = _; unfold nxE; rw [if_neg hz, if_neg hb]
      rw [← bs_size] at hb
      generalize nxV s = V at *
      generalize nxE s = E at *
      generalize bs (nxT s.data.toList) = T at *
      go_enter Tryd.func35, Tryd.ntmps35
      go_wp2_with fail
      refine (H1.out _).mono ?_
      rintro e w' ⟨rfl, rfl⟩
      go_wp2
      go_ret2
      exact ⟨by rw [HV.out, HE.out]; rfl, rfl⟩

theorem nextNumber_any (s : ByteArray) (w : World) (hs : s.size ≤ 4096) (ht : Tab w) : Calls Tryd.prog 65 #[.string s] w fun e w' => e = .returned (.string (bs (Lib.itoa (nxI s.data.toList)))) ∧ Below w.heap.size w w' := by
  have HTAB := Lib.hid (fun (w' : World) (h : Below w.heap.size w w') => ht.later h)
  have H1 := Lib.hid (fun w => numberOf_any s w (by omega))
  have H2 := Lib.hid (fun w ht => Itoa_any (nxI s.data.toList) (nxI_in _) w ht)
  have hin := numOf_in s.data.toList
  obtain ⟨i1, i2⟩ := hin
  have HM : Hid (nxI s.data.toList = min (numOf s.data.toList + 1) 9007199254740992) := rfl
  generalize bs (Lib.itoa (nxI s.data.toList)) = T at *
  unfold NumPost at H1
  generalize nxI s.data.toList = M at *
  generalize numOf s.data.toList = N at *
  clear ht
  go_enter Tryd.func65, Tryd.ntmps65
  go_wp2_with fail
  refine (H1.out _).mono ?_
  rintro e w1 ⟨rfl, hb1⟩
  have HB1 := Lib.hid hb1
  clear hb1
  go_wp2_with fail
  rw [← HM.out]
  refine (H2.out _ (HTAB.out _ HB1.out)).mono ?_
  rintro e w2 ⟨rfl, hb2⟩
  have HB2 : Hid (Below w.heap.size w w2) := HB1.out.trans (hb2.mono HB1.out.size)
  clear hb2
  go_wp2
  go_ret
  exact ⟨rfl, HB2.out⟩

end Go.Proofs.YtmlifgngdilplaaDoor
