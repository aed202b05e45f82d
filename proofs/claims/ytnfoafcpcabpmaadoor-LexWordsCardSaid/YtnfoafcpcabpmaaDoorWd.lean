/-
  LexWords: the law's walk. Conditions: the row of signs holds what the program's text lays.
-/
import Derived.Test.YtnfoafcpcabpmaaDoorKo
namespace Go.Proofs.YtnfoafcpcabpmaaDoor
open Go.RowKit

/-- Whether a text is much longer than the limits. -/
def ovB (s : ByteArray) : Bool := decide (16000 < s.size)
theorem over_any (s : ByteArray) (w : World) (_hs : s.size ≤ maxLen) : Calls Tryd.prog 7 #[.string s] w (BoS (ovB s) w) := by
  have HP : Hid (∀ b w, b = ovB s → BoS (ovB s) w (.returned (.bool b)) w) := fun b w h => BoS.mk h w
  by_cases h : 16000 < s.size
  · have hi : (16000 : Int) < (s.size : Int) := by omega
    have HX : Hid (true = ovB s) := (decide_eq_true h).symm
    clear h
    go_enter Tryd.func7, Tryd.ntmps7
    go_wp2
    go_ret
    exact HP.out _ _ (by first | exact HX.out | (rw [← HX.out]; done) | (rw [← HX.out]; simp; done) | (rw [← HX.out]; simp; omega))
  · have hi : (s.size : Int) ≤ 16000 := by omega
    have HX : Hid (false = ovB s) := (decide_eq_false h).symm
    clear h
    go_enter Tryd.func7, Tryd.ntmps7
    go_wp2
    go_ret
    exact HP.out _ _ (by first | exact HX.out | (rw [← HX.out]; done) | (rw [← HX.out]; simp; done) | (rw [← HX.out]; simp; omega))

set_option maxRecDepth 100000 in
set_option maxHeartbeats 4000000 in
theorem lexWords_walk (s : ByteArray) (hs : s.size ≤ maxLen) (w : World) (hg : SigAt w) : Calls Tryd.prog 6 #[.string s] w (TrP w) := by
  have HO := Lib.hid (over_any s w hs)
  have HK := Lib.hid (known_any w hg)
  have HP : Hid (∀ w', Below w.heap.size w w' → TrP w (.returned (.bool true)) w') := fun w' h => ⟨rfl, h⟩
  clear hg
  cases ho : ovB s with
  | true =>
    rw [ho] at HO
    go_enter Tryd.func6, Tryd.ntmps6
    go_wp2_with fail
    refine HO.out.mono ?_
    rintro e1 w1 ⟨rfl, rfl⟩
    go_wp2_with fail
    refine HK.out.mono ?_
    rintro e1 w2 ⟨rfl, hb⟩
    have HB := Lib.hid hb
    clear hb
    go_wp2
    go_ret
    exact HP.out _ HB.out
  | false =>
    rw [ho] at HO
    have h16 : ¬ 16000 < s.size := of_decide_eq_false ho
    have HI := Lib.hid (fun w => IsWord_any s w (by omega))
    have HR := Lib.hid (fun w => rIsWord_any s w (by omega))
    clear h16
    generalize isW s.data.toList = b at *
    go_enter Tryd.func6, Tryd.ntmps6
    go_wp2_with fail
    refine HO.out.mono ?_
    rintro e1 w1 ⟨rfl, rfl⟩
    go_wp2_with fail
    refine (HI.out _).mono ?_
    rintro e1 w1 ⟨rfl, rfl⟩
    go_wp2_with fail
    refine (HR.out _).mono ?_
    rintro e1 w1 ⟨rfl, rfl⟩
    have hbb : (b == b) = true := by simp
    go_wp2_with fail
    refine HK.out.mono ?_
    rintro e1 w2 ⟨rfl, hb⟩
    have HB := Lib.hid hb
    clear hb
    go_wp2
    go_ret
    exact HP.out _ HB.out

end Go.Proofs.YtnfoafcpcabpmaaDoor
