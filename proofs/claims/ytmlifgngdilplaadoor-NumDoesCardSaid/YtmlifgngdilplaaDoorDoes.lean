/-
  The walk of NumDoes: num.Do and the document's Do agree. No condition.
-/
import Derived.Test.YtmlifgngdilplaaDoorRdo
namespace Go.Proofs.YtmlifgngdilplaaDoor
open Go.RowKit

theorem rdo_ck {op a b : Int} {w : World} {R : Bool} {V why : Int} (h1 : R = true → Calls Tryd.prog 28 #[.int .i64 op, .int .i64 a, .int .i64 b] w (RdoPost 0 why 0 w))
    (h2 : R = false → isNumB V = true → Calls Tryd.prog 28 #[.int .i64 op, .int .i64 a, .int .i64 b] w (RdoPost V 0 0 w)) (h3 : R = false → isNumB V = false → Calls Tryd.prog 28 #[.int .i64 op, .int .i64 a, .int .i64 b] w (RdoPost 0 1 0 w)) :
    Calls Tryd.prog 28 #[.int .i64 op, .int .i64 a, .int .i64 b] w (RdoPost (ckN R V) (ckW R why V) 0 w) := by
  unfold ckN ckW
  cases hR : R
  · cases hV : isNumB V
    · simpa using h3 hR hV
    · simpa using h2 hR hV
  · simpa using h1 hR

theorem rDo_nat (n : Nat) (hn : n ≤ 8) (a b : Int) (w : World) (ha : inR a) (hb : inR b) :
    Calls Tryd.prog 28 #[.int .i64 (n : Int), .int .i64 a, .int .i64 b] w (RdoPost (ckN (opRef n a b) (opVal n a b)) (ckW (opRef n a b) (opWhy n) (opVal n a b)) 0 w) := by
  have hc : n = 0 ∨ n = 1 ∨ n = 2 ∨ n = 3 ∨ n = 4 ∨ n = 5 ∨ n = 6 ∨ n = 7 ∨ n = 8 := by omega
  have no : ∀ {p : Prop}, (false = true) → p := fun h => by cases h
  have hneg : ∀ {r : Bool}, (decide (a < 0) || decide (b < 0)) = false → ¬ a < 0 ∧ ¬ b < 0 := fun h => by simpa using not_or_of h
  have hlow : (decide (a < 0) || decide (b < 0)) = true → a < 0 ∨ b < 0 := fun h => by simpa using h
  rcases hc with rfl | rfl | rfl | rfl | rfl | rfl | rfl | rfl | rfl
  · exact rdo_ck (R := false) (V := a + b) no (fun _ h => rDo0_in a b w ha hb h) (fun _ h => rDo0_no a b w ha hb h)
  · exact rdo_ck (R := false) (V := a - b) no (fun _ h => rDo1_in a b w ha hb h) (fun _ h => rDo1_no a b w ha hb h)
  · exact rdo_ck (R := false) (V := prodI a b) no (fun _ h => rDo2_in a b w ha hb h) (fun _ h => rDo2_no a b w ha hb h)
  · refine rdo_ck (R := decide (b = 0)) (V := quoI a b) (why := 2) (fun h => rDo3_zero a b w ha hb (by simpa using h)) (fun h _ => rDo3_in a b w ha hb (by simpa using h)) (fun h h2 => ?_)
    have := isNumB_of (quo_bd ha (show b ≠ 0 by simpa using h))
    rw [this] at h2; cases h2
  · refine rdo_ck (R := decide (b = 0)) (V := remI a b) (why := 2) (fun h => rDo4_zero a b w ha hb (by simpa using h)) (fun h _ => rDo4_in a b w ha hb (by simpa using h)) (fun h h2 => ?_)
    have := isNumB_of (rem_bd (a := a) hb (show b ≠ 0 by simpa using h))
    rw [this] at h2; cases h2
  · exact rdo_ck (R := decide (b < 0)) (V := pw a b.toNat) (why := 1) (fun h => rDo5_low a b w ha hb (by simpa using h)) (fun h h2 => rDo5_in a b w ha hb (by simpa using h) h2) (fun h h2 => rDo5_no a b w ha hb (by simpa using h) h2)
  · exact rdo_ck (R := decide (a < 0) || decide (b < 0)) (V := (natOp 6 a.toNat b.toNat : Nat)) (why := 1) (fun h => rDo6_low a b w ha hb (hlow h)) (fun h h2 => rDo6_in a b w ha hb (hneg (r := true) h) h2) (fun h h2 => rDo6_no a b w ha hb (hneg (r := true) h) h2)
  · exact rdo_ck (R := decide (a < 0) || decide (b < 0)) (V := (natOp 7 a.toNat b.toNat : Nat)) (why := 1) (fun h => rDo7_low a b w ha hb (hlow h)) (fun h h2 => rDo7_in a b w ha hb (hneg (r := true) h) h2) (fun h h2 => rDo7_no a b w ha hb (hneg (r := true) h) h2)
  · exact rdo_ck (R := decide (a < 0) || decide (b < 0)) (V := (natOp 8 a.toNat b.toNat : Nat)) (why := 1) (fun h => rDo8_low a b w ha hb (hlow h)) (fun h h2 => rDo8_in a b w ha hb (hneg (r := true) h) h2) (fun h h2 => rDo8_no a b w ha hb (hneg (r := true) h) h2)

theorem rDo_any (op a b : Int) (w : World) : Calls Tryd.prog 28 #[.int .i64 op, .int .i64 a, .int .i64 b] w (RdoPost (doN op a b) (doW op a b) (doE op a b) w) := by
  by_cases ho : 0 ≤ op ∧ op ≤ 8
  · obtain ⟨n, rfl⟩ := Int.eq_ofNat_of_zero_le ho.1
    by_cases hr : isNumB a = true ∧ isNumB b = true
    · have hall : 0 ≤ (n : Int) ∧ (n : Int) ≤ 8 ∧ isNumB a = true ∧ isNumB b = true := ⟨ho.1, ho.2, hr.1, hr.2⟩
      unfold doN doW doE
      rw [if_pos hall, if_pos hall, if_pos hall]
      exact rDo_nat n (by omega) a b w (inR_iff.1 hr.1) (inR_iff.1 hr.2)
    · have hall : ¬ (0 ≤ (n : Int) ∧ (n : Int) ≤ 8 ∧ isNumB a = true ∧ isNumB b = true) := fun h => hr h.2.2
      unfold doN doW doE
      rw [if_neg hall, if_neg hall, if_neg hall]
      refine rDo_range n (by omega) a b w ?_
      cases h1 : isNumB a
      · exact .inl rfl
      · right
        cases h2 : isNumB b
        · rfl
        · exact absurd ⟨h1, h2⟩ hr
  · have hall : ¬ (0 ≤ op ∧ op ≤ 8 ∧ isNumB a = true ∧ isNumB b = true) := fun h => ho ⟨h.1, h.2.1⟩
    unfold doN doW doE
    rw [if_neg hall, if_neg hall, if_neg hall]
    exact rDo_out op a b w (by omega)

set_option maxHeartbeats 400000 in
theorem numDoes_walk (op : Int) (_w0 : (Lit.int .i64 op).wf = true) (a : Int) (_w1 : (Lit.int .i64 a).wf = true) (b : Int) (_w2 : (Lit.int .i64 b).wf = true) (w : World) :
    Calls Tryd.prog 5 #[.int .i64 op, .int .i64 a, .int .i64 b] w (KnownPost w) := by
  have H1 := Lib.hid (fun w => Do_any op a b w)
  have H2 := Lib.hid (fun w => rDo_any op a b w)
  clear _w0 _w1 _w2
  generalize doN op a b = N at *
  generalize doW op a b = Y at *
  generalize doE op a b = E at *
  go_enter Tryd.func5, Tryd.ntmps5
  go_wp2_with fail
  refine (H1.out _).mono ?_
  rintro e w1 ⟨he, hb1⟩
  unfold three at he
  subst he
  have HB1 := Lib.hid hb1
  clear hb1
  go_wp2_with fail
  refine (H2.out _).mono ?_
  rintro e w2 ⟨rfl, hb2⟩
  have HB2 : Hid (Below w.heap.size w w2) := HB1.out.trans (hb2.mono HB1.out.size)
  clear hb2
  go_wp2_with fail
  refine (known_any _).mono ?_
  rintro e w3 ⟨rfl, hb3⟩
  have HB3 : Hid (Below w.heap.size w w3) := HB2.out.trans (hb3.mono HB2.out.size)
  clear hb3
  go_wp2
  go_ret
  exact ⟨rfl, HB3.out⟩

end Go.Proofs.YtmlifgngdilplaaDoor
