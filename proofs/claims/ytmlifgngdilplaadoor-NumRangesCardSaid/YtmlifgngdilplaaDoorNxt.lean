/-
  The walk of NumNexts: num.Next and the document's Next agree. Conditions: strconv's table of powers of ten as it is laid.
-/
import Derived.Test.YtmlifgngdilplaaDoorNxw
import Derived.Test.YtmlifgngdilplaaDoorLaid
namespace Go.Proofs.YtmlifgngdilplaaDoor
open Go.RowKit

theorem nNext_any (s : ByteArray) (w : World) (ht : Tab w) : Calls Tryd.prog 34 #[.string s] w (NxP (nxV s) (nxE s) w) := by
  by_cases hz : 4096 < s.size
  · have HV : Hid (nxV s = ⟨#[]⟩) := by show _ = _; unfold nxV; rw [if_pos hz]; rfl
    have HE : Hid (nxE s = 3) := by show _ = _; unfold nxE; rw [if_pos hz]
    generalize nxV s = V at *
    generalize nxE s = E at *
    clear ht
    go_enter Tryd.func34, Tryd.ntmps34
    go_wp2
    go_ret2
    exact ⟨by rw [HV.out, HE.out]; rfl, Below.refl _ _⟩
  · have HS := Lib.hid (fun w => isSerial_any s w (by omega))
    have HV : Hid (nxV s = if 4096 < (bs (nxT s.data.toList)).size then ⟨#[]⟩ else bs (nxT s.data.toList)) := by show _ = _; unfold nxV; rw [if_neg hz, bs_size]; rfl
    have HE : Hid (nxE s = if 4096 < (bs (nxT s.data.toList)).size then 3 else 0) := by show _ = _; unfold nxE; rw [if_neg hz, bs_size]
    cases hc : cntB s.data.toList
    · have HCB := Lib.hid hc
      have H1 : Hid (Calls Tryd.prog 65 #[.string s] w fun e w' => e = .returned (.string (bs (nxT s.data.toList))) ∧ Below w.heap.size w w') := by
        refine (nextNumber_any s w (by omega) ht).mono ?_
        rintro e w' ⟨rfl, hb⟩
        refine ⟨?_, hb⟩
        unfold nxT
        rw [hc]
        rfl
      clear hc ht
      generalize nxV s = V at *
      generalize nxE s = E at *
      generalize bs (nxT s.data.toList) = T at *
      by_cases hb : 4096 < T.size
      · go_enter Tryd.func34, Tryd.ntmps34
        go_wp2_with fail
        refine (HS.out _).mono ?_
        rintro e w' ⟨rfl, rfl⟩
        rw [HCB.out]
        go_wp2_with fail
        refine (H1.out).mono ?_
        rintro e w1 ⟨rfl, hb1⟩
        have HB1 := Lib.hid hb1
        clear hb1
        go_wp2
        go_ret2
        exact ⟨by rw [HV.out, HE.out, if_pos hb, if_pos hb]; rfl, HB1.out⟩
      · go_enter Tryd.func34, Tryd.ntmps34
        go_wp2_with fail
        refine (HS.out _).mono ?_
        rintro e w' ⟨rfl, rfl⟩
        rw [HCB.out]
        go_wp2_with fail
        refine (H1.out).mono ?_
        rintro e w1 ⟨rfl, hb1⟩
        have HB1 := Lib.hid hb1
        clear hb1
        go_wp2
        go_ret2
        exact ⟨by rw [HV.out, HE.out, if_neg (by omega), if_neg (by omega)]; rfl, HB1.out⟩
    · have HCB := Lib.hid hc
      have H1 : Hid (Calls Tryd.prog 67 #[.string s] w fun e w' => e = .returned (.string (bs (nxT s.data.toList))) ∧ Below w.heap.size w w') := by
        refine (nextSerial_any s w (by omega) hc).mono ?_
        rintro e w' ⟨rfl, hb⟩
        refine ⟨?_, hb⟩
        unfold nxT
        rw [hc]
        rfl
      clear hc ht
      generalize nxV s = V at *
      generalize nxE s = E at *
      generalize bs (nxT s.data.toList) = T at *
      by_cases hb : 4096 < T.size
      · go_enter Tryd.func34, Tryd.ntmps34
        go_wp2_with fail
        refine (HS.out _).mono ?_
        rintro e w' ⟨rfl, rfl⟩
        rw [HCB.out]
        go_wp2_with fail
        refine (H1.out).mono ?_
        rintro e w1 ⟨rfl, hb1⟩
        have HB1 := Lib.hid hb1
        clear hb1
        go_wp2
        go_ret2
        exact ⟨by rw [HV.out, HE.out, if_pos hb, if_pos hb]; rfl, HB1.out⟩
      · go_enter Tryd.func34, Tryd.ntmps34
        go_wp2_with fail
        refine (HS.out _).mono ?_
        rintro e w' ⟨rfl, rfl⟩
        rw [HCB.out]
        go_wp2_with fail
        refine (H1.out).mono ?_
        rintro e w1 ⟨rfl, hb1⟩
        have HB1 := Lib.hid hb1
        clear hb1
        go_wp2
        go_ret2
        exact ⟨by rw [HV.out, HE.out, if_neg (by omega), if_neg (by omega)]; rfl, HB1.out⟩

set_option maxHeartbeats 400000 in
theorem numNexts_walk (s : ByteArray) (_w0 : s.size ≤ maxLen) (w : World) (hL : laidMetH Tryd.prog Rows.numNextsRow.laid w) : Calls Tryd.prog 9 #[.string s] w (KnownPost w) := by
  have ht : Tab w := tab_of_laid hL
  clear hL _w0
  by_cases hl : 16384 < s.size
  · have hd : decide (16384 < (s.size : Int)) = true := by simp; omega
    have HD := Lib.hid hd
    clear hd ht
    go_enter Tryd.func9, Tryd.ntmps9
    go_wp2_with fail
    refine (long_any s _).mono ?_
    rintro e w' ⟨rfl, rfl⟩
    rw [HD.out]
    go_wp2_with fail
    refine (known_any _).mono ?_
    rintro e w3 ⟨rfl, hb3⟩
    have HB3 := Lib.hid hb3
    clear hb3
    go_wp2
    go_ret
    exact ⟨rfl, HB3.out⟩
  · have hd : decide (16384 < (s.size : Int)) = false := by simp; omega
    have HD := Lib.hid hd
    clear hd
    have H1 : Hid (Calls Tryd.prog 34 #[.string s] w (NxP (nxV s) (nxE s) w)) := nNext_any s w ht
    have H2 := Lib.hid (fun w => rNext_any s w)
    clear ht
    generalize nxV s = T at *
    generalize nxE s = E at *
    go_enter Tryd.func9, Tryd.ntmps9
    go_wp2_with fail
    refine (long_any s _).mono ?_
    rintro e w' ⟨rfl, rfl⟩
    rw [HD.out]
    go_wp2_with fail
    refine (H1.out).mono ?_
    rintro e w1 ⟨rfl, hb1⟩
    have HB1 := Lib.hid hb1
    clear hb1
    go_wp2_with fail
    refine (H2.out _).mono ?_
    rintro e w' ⟨rfl, rfl⟩
    go_wp2_with fail
    refine (known_any _).mono ?_
    rintro e w3 ⟨rfl, hb3⟩
    have HB3 : Hid (Below w.heap.size w w3) := HB1.out.trans (hb3.mono HB1.out.size)
    clear hb3
    go_wp2
    go_ret
    exact ⟨rfl, HB3.out⟩

end Go.Proofs.YtmlifgngdilplaaDoor
