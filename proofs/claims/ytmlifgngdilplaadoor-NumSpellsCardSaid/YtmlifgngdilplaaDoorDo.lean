/-
  num.Do: the operation's result and 0, or 0 and why there is none. Conditions: three numbers that fit an int.
-/
import Derived.Test.YtmlifgngdilplaaDoorCk
import Derived.Test.YtmlifgngdilplaaDoorPow
namespace Go.Proofs.YtmlifgngdilplaaDoor
open Go.RowKit Go.MapKept

def natOp (op : Nat) (a b : Nat) : Nat := if op = 6 then a &&& b else if op = 7 then a ||| b else a ^^^ b
def opRef (op : Nat) (a b : Int) : Bool := if op ≤ 2 then false else if op ≤ 4 then decide (b = 0) else if op = 5 then decide (b < 0) else (decide (a < 0) || decide (b < 0))
def opWhy (op : Nat) : Int := if op = 3 ∨ op = 4 then 2 else 1
def opVal (op : Nat) (a b : Int) : Int :=
  if op = 0 then a + b else if op = 1 then a - b else if op = 2 then prodI a b else if op = 3 then quoI a b else if op = 4 then remI a b else if op = 5 then pw a b.toNat else (natOp op a.toNat b.toNat : Int)

theorem bit_bd (a b : Int) (h : inR a ∧ inR b) (h2 : ¬ (a < 0) ∧ ¬ (b < 0)) : 0 ≤ a ∧ a ≤ 9007199254740992 ∧ 0 ≤ b ∧ b ≤ 9007199254740992 := by
  obtain ⟨⟨_, h3⟩, ⟨_, h4⟩⟩ := h
  omega
theorem bits_i64 (a b : Int) (ha : 0 ≤ a) (ha2 : a ≤ 9007199254740992) (hb : 0 ≤ b) (hb2 : b ≤ 9007199254740992) :
    bits .and .i64 a b = ((a.toNat &&& b.toNat : Nat) : Int) ∧ bits .or .i64 a b = ((a.toNat ||| b.toNat : Nat) : Int) ∧ bits .xor .i64 a b = ((a.toNat ^^^ b.toNat : Nat) : Int) := by
  obtain ⟨m, rfl⟩ := Int.eq_ofNat_of_zero_le ha
  obtain ⟨n, rfl⟩ := Int.eq_ofNat_of_zero_le hb
  have h := bits_nat .i64 62 (by decide) (fun n h0 h1 => IntWalk.i64_in n (by omega)) m n (by omega) (by omega)
  refine ⟨h.1, h.2, ?_⟩
  have ha' : m % 2 ^ IntKind.i64.bits = m := Nat.mod_eq_of_lt (by show m < 18446744073709551616; omega)
  have hb' : n % 2 ^ IntKind.i64.bits = n := Nat.mod_eq_of_lt (by show n < 18446744073709551616; omega)
  have hx : m ^^^ n < 2 ^ 62 := Nat.xor_lt_two_pow (by omega) (by omega)
  show bits .xor .i64 (m : Int) (n : Int) = ((m ^^^ n : Nat) : Int)
  simp only [bits, BitVec.ofInt_natCast, BitVec.toNat_xor, BitVec.toNat_ofNat, ha', hb']
  exact IntWalk.i64_in _ (by omega)

theorem f92 (a b : Int) (w : World) (ha : inR a ∧ inR b) (hn : ¬ (a < 0) ∧ ¬ (b < 0)) : Calls Tryd.prog 92 #[.int .i64 a, .int .i64 b] w fun e w' => e = .returned (.int .i64 ((natOp 6 a.toNat b.toNat : Nat) : Int)) ∧ w = w' := by
  obtain ⟨h1, h2, h3, h4⟩ := bit_bd a b ha hn
  have hb := Lib.hid (bits_i64 a b h1 h2 h3 h4)
  clear ha hn
  go_enter Tryd.func92, Tryd.ntmps92
  go_wp2
  go_ret
  exact ⟨ret_int hb.out.1, rfl⟩
theorem f93 (a b : Int) (w : World) (ha : inR a ∧ inR b) (hn : ¬ (a < 0) ∧ ¬ (b < 0)) : Calls Tryd.prog 93 #[.int .i64 a, .int .i64 b] w fun e w' => e = .returned (.int .i64 ((natOp 7 a.toNat b.toNat : Nat) : Int)) ∧ w = w' := by
  obtain ⟨h1, h2, h3, h4⟩ := bit_bd a b ha hn
  have hb := Lib.hid (bits_i64 a b h1 h2 h3 h4)
  clear ha hn
  go_enter Tryd.func93, Tryd.ntmps93
  go_wp2
  go_ret
  exact ⟨ret_int hb.out.2.1, rfl⟩
theorem f94 (a b : Int) (w : World) (ha : inR a ∧ inR b) (hn : ¬ (a < 0) ∧ ¬ (b < 0)) : Calls Tryd.prog 94 #[.int .i64 a, .int .i64 b] w fun e w' => e = .returned (.int .i64 ((natOp 8 a.toNat b.toNat : Nat) : Int)) ∧ w = w' := by
  obtain ⟨h1, h2, h3, h4⟩ := bit_bd a b ha hn
  have hb := Lib.hid (bits_i64 a b h1 h2 h3 h4)
  clear ha hn
  go_enter Tryd.func94, Tryd.ntmps94
  go_wp2
  go_ret
  exact ⟨ret_int hb.out.2.2, rfl⟩

def three (n why e : Int) : Ending := .returned (.tuple #[.int .i64 n, .int .i64 why, .int .i64 e])

theorem e81 (args : Array Value) (w : World) : (callFunc 81 args).run Tryd.prog w = .ok (.enter 81 args) w := by kernel_rfl
theorem e82 (args : Array Value) (w : World) : (callFunc 82 args).run Tryd.prog w = .ok (.enter 82 args) w := by kernel_rfl
theorem e83 (args : Array Value) (w : World) : (callFunc 83 args).run Tryd.prog w = .ok (.enter 83 args) w := by kernel_rfl
theorem e84 (args : Array Value) (w : World) : (callFunc 84 args).run Tryd.prog w = .ok (.enter 84 args) w := by kernel_rfl
theorem e86 (args : Array Value) (w : World) : (callFunc 86 args).run Tryd.prog w = .ok (.enter 86 args) w := by kernel_rfl
theorem e87 (args : Array Value) (w : World) : (callFunc 87 args).run Tryd.prog w = .ok (.enter 87 args) w := by kernel_rfl
theorem e88 (args : Array Value) (w : World) : (callFunc 88 args).run Tryd.prog w = .ok (.enter 88 args) w := by kernel_rfl
theorem e89 (args : Array Value) (w : World) : (callFunc 89 args).run Tryd.prog w = .ok (.enter 89 args) w := by kernel_rfl
theorem e90 (args : Array Value) (w : World) : (callFunc 90 args).run Tryd.prog w = .ok (.enter 90 args) w := by kernel_rfl
theorem e91 (args : Array Value) (w : World) : (callFunc 91 args).run Tryd.prog w = .ok (.enter 91 args) w := by kernel_rfl
theorem e92 (args : Array Value) (w : World) : (callFunc 92 args).run Tryd.prog w = .ok (.enter 92 args) w := by kernel_rfl
theorem e93 (args : Array Value) (w : World) : (callFunc 93 args).run Tryd.prog w = .ok (.enter 93 args) w := by kernel_rfl
theorem e94 (args : Array Value) (w : World) : (callFunc 94 args).run Tryd.prog w = .ok (.enter 94 args) w := by kernel_rfl

def DoPost (n why err : Int) (w : World) (e : Ending) (w' : World) : Prop := e = three n why err ∧ Below w.heap.size w w'

theorem zero66 (w : World) : (zeroValue 66).run Tryd.prog w = .ok .nilFunc w := by kernel_rfl

theorem isNumB_of {n : Int} (h : inR n) : isNumB n = true := inR_iff.2 h

set_option maxHeartbeats 400000 in
theorem Do_hit (n : Nat) (y : Nat × Int × Nat) (hy : opsL[n]? = some y) (a b : Int) (w : World) (ha : inR a) (hb : inR b)
    (er : ∀ args w, (callFunc y.1 args).run Tryd.prog w = .ok (.enter y.1 args) w) (ef : ∀ args w, (callFunc y.2.2 args).run Tryd.prog w = .ok (.enter y.2.2 args) w)
    (R : Bool) (V : Int) (hr : ∀ w, Calls Tryd.prog y.1 #[.int .i64 a, .int .i64 b] w fun e w' => e = .returned (.bool R) ∧ w = w')
    (hf : R = false → ∀ w, Calls Tryd.prog y.2.2 #[.int .i64 a, .int .i64 b] w fun e w' => e = .returned (.int .i64 V) ∧ w = w') :
    Calls Tryd.prog 27 #[.int .i64 (n : Int), .int .i64 a, .int .i64 b] w (DoPost (ckN R V) (ckW R y.2.1 V) 0 w) := by
  have HR := Lib.hid hr
  have HV := Lib.hid hf
  have HA := Lib.hid (isNumB_of ha)
  have HB := Lib.hid (isNumB_of hb)
  have HE := Lib.hid er
  have HG := Lib.hid ef
  have HY := Lib.hid hy
  clear hr hf ha hb er ef hy
  go_enter Tryd.func27, Tryd.ntmps27
  go_wp2_with fail
  refine (operations_any _).mono ?_
  rintro e w1 ⟨rfl, hb1, ho, hs⟩
  obtain ⟨v, hrun, c, hc1, hc2, hv, hcell0, hcell1, hcell2⟩ := ho.look (P := Tryd.prog) Tryd.underlying68 Tryd.underlying3 HY.out
  have HB1 := Lib.hid hb1
  have HC := Lib.hid (And.intro hcell0 (And.intro hcell1 hcell2))
  clear hb1 ho hs hcell0 hcell1 hcell2 hc1 hc2
  rw [hv] at hrun
  clear hv
  simp only [clo] at hrun
  generalize hZ : w.heap.size = B at *
  have HZ := Lib.hid hZ
  clear hZ
  go_wp2_with fail
  refine (isNumber_any a _).mono ?_
  rintro e w' ⟨rfl, rfl⟩
  rw [HA.out]
  go_wp2_with fail
  refine (isNumber_any b _).mono ?_
  rintro e w' ⟨rfl, rfl⟩
  rw [HB.out]
  go_wp2_with fail
  refine (ck_any a b y.1 y.2.2 c y.2.1 _ HC.out.1 HC.out.2.1 HC.out.2.2 HE.out HG.out R V HR.out HV.out).mono ?_
  rintro e w2 ⟨he, hb2⟩
  unfold pair at he
  subst he
  have HB2 : Hid (Below B w w2) := HB1.out.trans (hb2.mono (by rw [← HZ.out]; exact HB1.out.size))
  clear hb2
  have HF : Hid (DoPost (ckN R V) (ckW R y.2.1 V) 0 w (three (ckN R V) (ckW R y.2.1 V) 0) w2) := ⟨rfl, by rw [HZ.out]; exact HB2.out⟩
  unfold three at HF
  generalize ckN R V = N at *
  generalize ckW R y.2.1 V = Y at *
  go_wp2
  go_ret3
  exact HF.out

theorem Do_out (op a b : Int) (w : World) (h : op < 0 ∨ 9 ≤ op) : Calls Tryd.prog 27 #[.int .i64 op, .int .i64 a, .int .i64 b] w (DoPost 0 0 1 w) := by
  go_enter Tryd.func27, Tryd.ntmps27
  go_wp2_with fail
  refine (operations_any _).mono ?_
  rintro e w1 ⟨rfl, hb1, ho, hs⟩
  have hrun := ho.miss (P := Tryd.prog) Tryd.underlying68 Tryd.underlying3 (zero66 w1) (n := op) (by simpa [opsL] using h)
  have HB1 := Lib.hid hb1
  have HF : Hid (DoPost 0 0 1 w (three 0 0 1) w1) := ⟨rfl, hb1⟩
  unfold three at HF
  clear hb1 ho hs h
  generalize w.heap.size = B at *
  go_wp2
  go_ret3
  exact HF.out

set_option maxHeartbeats 400000 in
theorem Do_range (n : Nat) (y : Nat × Int × Nat) (hy : opsL[n]? = some y) (a b : Int) (w : World) (h : isNumB a = false ∨ isNumB b = false) :
    Calls Tryd.prog 27 #[.int .i64 (n : Int), .int .i64 a, .int .i64 b] w (DoPost 0 0 1 w) := by
  have HY := Lib.hid hy
  have HH := Lib.hid h
  clear hy h
  go_enter Tryd.func27, Tryd.ntmps27
  go_wp2_with fail
  refine (operations_any _).mono ?_
  rintro e w1 ⟨rfl, hb1, ho, hs⟩
  obtain ⟨v, hrun, c, hc1, hc2, hv, hcell0, hcell1, hcell2⟩ := ho.look (P := Tryd.prog) Tryd.underlying68 Tryd.underlying3 HY.out
  have HF : Hid (DoPost 0 0 1 w (three 0 0 1) w1) := ⟨rfl, hb1⟩
  unfold three at HF
  clear hb1 ho hs hcell0 hcell1 hcell2 hc1 hc2
  rw [hv] at hrun
  clear hv
  simp only [clo] at hrun
  generalize w.heap.size = B at *
  go_wp2_with fail
  refine (isNumber_any a _).mono ?_
  rintro e w' ⟨rfl, rfl⟩
  cases ha : isNumB a
  · clear ha
    go_wp2
    go_ret3
    exact HF.out
  · have hb : isNumB b = false := by
      rcases HH.out with h | h
      · rw [ha] at h; cases h
      · exact h
    have HB := Lib.hid hb
    clear ha hb
    go_wp2_with fail
    refine (isNumber_any b _).mono ?_
    rintro e w' ⟨rfl, rfl⟩
    rw [HB.out]
    go_wp2
    go_ret3
    exact HF.out

theorem not_or_of {p q : Bool} (h : (p || q) = false) : p = false ∧ q = false := by cases p <;> cases q <;> simp_all

theorem Do_nat (n : Nat) (hn : n ≤ 8) (a b : Int) (w : World) (ha : inR a) (hb : inR b) :
    Calls Tryd.prog 27 #[.int .i64 (n : Int), .int .i64 a, .int .i64 b] w (DoPost (ckN (opRef n a b) (opVal n a b)) (ckW (opRef n a b) (opWhy n) (opVal n a b)) 0 w) := by
  have hc : n = 0 ∨ n = 1 ∨ n = 2 ∨ n = 3 ∨ n = 4 ∨ n = 5 ∨ n = 6 ∨ n = 7 ∨ n = 8 := by omega
  have hneg : (decide (a < 0) || decide (b < 0)) = false → ¬ (a < 0) ∧ ¬ (b < 0) := fun h => by simpa using not_or_of h
  have hz : decide (b = 0) = false → b ≠ 0 := fun h => by simpa using h
  rcases hc with rfl | rfl | rfl | rfl | rfl | rfl | rfl | rfl | rfl
  · exact Do_hit 0 (81, 1, 86) rfl a b w ha hb e81 e86 false (a + b) (f81 a b) (fun _ w => f86 a b w ha hb)
  · exact Do_hit 1 (81, 1, 87) rfl a b w ha hb e81 e87 false (a - b) (f81 a b) (fun _ w => f87 a b w ha hb)
  · exact Do_hit 2 (81, 1, 88) rfl a b w ha hb e81 e88 false (prodI a b) (f81 a b) (fun _ w => product_any a b w ha hb)
  · exact Do_hit 3 (82, 2, 89) rfl a b w ha hb e82 e89 (decide (b = 0)) (quoI a b) (f82 a b) (fun h w => quotient_any a b w ha hb (hz h))
  · exact Do_hit 4 (82, 2, 90) rfl a b w ha hb e82 e90 (decide (b = 0)) (remI a b) (f82 a b) (fun h w => remainder_any a b w ha hb (hz h))
  · refine Do_hit 5 (83, 1, 91) rfl a b w ha hb e83 e91 (decide (b < 0)) (pw a b.toNat) (f83 a b) (fun h w => ?_)
    have hb0 : 0 ≤ b := by simpa using h
    obtain ⟨m, rfl⟩ := Int.eq_ofNat_of_zero_le hb0
    exact power_any a m w ha hb.2
  · exact Do_hit 6 (84, 1, 92) rfl a b w ha hb e84 e92 (decide (a < 0) || decide (b < 0)) _ (f84 a b) (fun h w => f92 a b w ⟨ha, hb⟩ (hneg h))
  · exact Do_hit 7 (84, 1, 93) rfl a b w ha hb e84 e93 (decide (a < 0) || decide (b < 0)) _ (f84 a b) (fun h w => f93 a b w ⟨ha, hb⟩ (hneg h))
  · exact Do_hit 8 (84, 1, 94) rfl a b w ha hb e84 e94 (decide (a < 0) || decide (b < 0)) _ (f84 a b) (fun h w => f94 a b w ⟨ha, hb⟩ (hneg h))

/-- What num.Do and the document's Do hand back. -/
def doN (op a b : Int) : Int := if 0 ≤ op ∧ op ≤ 8 ∧ isNumB a = true ∧ isNumB b = true then ckN (opRef op.toNat a b) (opVal op.toNat a b) else 0
def doW (op a b : Int) : Int := if 0 ≤ op ∧ op ≤ 8 ∧ isNumB a = true ∧ isNumB b = true then ckW (opRef op.toNat a b) (opWhy op.toNat) (opVal op.toNat a b) else 0
def doE (op a b : Int) : Int := if 0 ≤ op ∧ op ≤ 8 ∧ isNumB a = true ∧ isNumB b = true then 0 else 1

theorem ops_some (n : Nat) (hn : n ≤ 8) : ∃ y, opsL[n]? = some y := by
  have : n < opsL.length := by simp [opsL]; omega
  exact ⟨opsL[n], by simp⟩

theorem Do_any (op a b : Int) (w : World) : Calls Tryd.prog 27 #[.int .i64 op, .int .i64 a, .int .i64 b] w (DoPost (doN op a b) (doW op a b) (doE op a b) w) := by
  by_cases ho : 0 ≤ op ∧ op ≤ 8
  · obtain ⟨n, rfl⟩ := Int.eq_ofNat_of_zero_le ho.1
    by_cases hr : isNumB a = true ∧ isNumB b = true
    · have hall : 0 ≤ (n : Int) ∧ (n : Int) ≤ 8 ∧ isNumB a = true ∧ isNumB b = true := ⟨ho.1, ho.2, hr.1, hr.2⟩
      unfold doN doW doE
      rw [if_pos hall, if_pos hall, if_pos hall]
      exact Do_nat n (by omega) a b w (inR_iff.1 hr.1) (inR_iff.1 hr.2)
    · have hall : ¬ (0 ≤ (n : Int) ∧ (n : Int) ≤ 8 ∧ isNumB a = true ∧ isNumB b = true) := fun h => hr h.2.2
      unfold doN doW doE
      rw [if_neg hall, if_neg hall, if_neg hall]
      obtain ⟨y, hy⟩ := ops_some n (by omega)
      refine Do_range n y hy a b w ?_
      cases h1 : isNumB a
      · exact .inl rfl
      · right
        cases h2 : isNumB b
        · rfl
        · exact absurd ⟨h1, h2⟩ hr
  · have hall : ¬ (0 ≤ op ∧ op ≤ 8 ∧ isNumB a = true ∧ isNumB b = true) := fun h => ho ⟨h.1, h.2.1⟩
    unfold doN doW doE
    rw [if_neg hall, if_neg hall, if_neg hall]
    exact Do_out op a b w (by omega)

end Go.Proofs.YtmlifgngdilplaaDoor
