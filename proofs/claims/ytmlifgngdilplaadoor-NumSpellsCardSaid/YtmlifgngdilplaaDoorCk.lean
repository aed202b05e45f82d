/-
  The closure of num.checked: what it hands back, from the contracts of the two functions that it holds. Conditions: those two contracts.
-/
import Derived.Test.YtmlifgngdilplaaDoorOps
namespace Go.Proofs.YtmlifgngdilplaaDoor
open Go.RowKit Go.MapKept

def pair (a b : Int) : Ending := .returned (.tuple #[.int .i64 a, .int .i64 b])

def ckN (R : Bool) (V : Int) : Int := if R then 0 else if isNumB V then V else 0
def ckW (R : Bool) (why V : Int) : Int := if R then why else if isNumB V then 0 else 1

theorem ck_any (a b : Int) (r f c : Nat) (why : Int) (w : World) (hc0 : w.cell? ⟨c, 0, none⟩ = some (.func (.func r) #[] #[])) (hc1 : w.cell? ⟨c + 1, 0, none⟩ = some (.int .i64 why)) (hc2 : w.cell? ⟨c + 2, 0, none⟩ = some (.func (.func f) #[] #[]))
    (er : ∀ args w, (callFunc r args).run Tryd.prog w = .ok (.enter r args) w) (ef : ∀ args w, (callFunc f args).run Tryd.prog w = .ok (.enter f args) w)
    (R : Bool) (V : Int) (hr : ∀ w, Calls Tryd.prog r #[.int .i64 a, .int .i64 b] w fun e w' => e = .returned (.bool R) ∧ w = w')
    (hf : R = false → ∀ w, Calls Tryd.prog f #[.int .i64 a, .int .i64 b] w fun e w' => e = .returned (.int .i64 V) ∧ w = w') :
    Calls Tryd.prog 113 #[.int .i64 a, .int .i64 b, .pointer (some ⟨c, 0, none⟩), .pointer (some ⟨c + 1, 0, none⟩), .pointer (some ⟨c + 2, 0, none⟩)] w
      fun e w' => e = pair (ckN R V) (ckW R why V) ∧ Below w.heap.size w w' := by
  have Hr := Lib.hid hr
  have Hf := Lib.hid hf
  clear hr hf
  cases R with
  | true =>
    go_enter Tryd.func113, Tryd.ntmps113
    go_wp2_with ((with_reducible refine (Hr.out _).mono ?_); rintro e w' ⟨rfl, rfl⟩)
    go_quiet (fail)
    go_wp2
    go_ret2
    exact ⟨by simp [pair, ckN, ckW], below_drewN (Below.refl _ _) _⟩
  | false =>
    cases hv : isNumB V
    all_goals
      have HV := Lib.hid hv
      clear hv
      go_enter Tryd.func113, Tryd.ntmps113
      have Hf2 := Lib.hid (Hf.out rfl)
      clear Hf
      go_wp2_with ((with_reducible refine (Hr.out _).mono ?_); rintro e w' ⟨rfl, rfl⟩)
      refine (Hf2.out _).mono ?_
      rintro e w' ⟨rfl, rfl⟩
      go_wp2_with fail
      refine (isNumber_any V _).mono ?_
      rintro e w' ⟨rfl, rfl⟩
      rw [HV.out]
      go_wp2
      go_ret2
      exact ⟨by simp [pair, ckN, ckW, HV.out], Below.refl _ _⟩

end Go.Proofs.YtmlifgngdilplaaDoor
