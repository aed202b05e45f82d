/-
  chars.Is. No condition.
-/
import Derived.Test.YtdjpjknbbedamaaSp
namespace Go.Proofs.Ytdjpjknbbedamaa
open Go.RowKit

set_option maxRecDepth 100000 in
set_option maxHeartbeats 4000000 in
theorem spans_miss (s : ByteArray) (hf : findS s tab = none) (w : World) :
    Calls Try.prog 21 #[.string s] w fun e w' => e = .returned (.tuple #[.slice none 0 0, .int .i64 4]) ∧ Below w.heap.size w w' := by
  have HC := Lib.hid classes_any
  have hz : ∀ w, (zeroValue 68).run Try.prog w = .ok (rowV []) w := Try.zeroValue68
  have HL := Lib.hid (fun (w : World) (B : Nat) (h : SMap w B tab) => h.miss (t := 70) Try.underlying70 Try.underlying9 (hz w) hf)
  have HR : Hid (rowV [] = .agg (rowC []).toArray) := rfl
  have HR1 : Hid ((rowC []).toArray.all (·.oneCell') = true) := rowC_one []
  have HRL : Hid ((rowC []).toArray.size = 44) := rowC_size [] (by decide)
  clear hf hz
  generalize rowV [] = V at *
  generalize (rowC []).toArray = R at *
  obtain rfl := HR.out
  clear HR
  go_enter Try.func21, Try.ntmps21
  go_wp2_with fail
  refine (HC.out _).mono ?_
  rintro e w1 ⟨rfl, hm, hb1⟩
  have hlk := HL.out _ _ hm
  clear hm
  have hb := Lib.hid hb1
  clear hb1
  go_wp2_with fail
  rw [run_storeCells_new w1 68 _ R (by rw [HRL.out]; rfl) (by rw [HRL.out]; rfl) HR1.out, Result.andThen, Oper.upon_skip]
  have HB2 : Hid (Below w.heap.size w (w1.alloc (.cells R 68))) := hb.out.alloc hb.out.size _
  generalize w1.alloc (.cells R 68) = w2 at *
  go_wp2
  go_ret2
  exact ⟨rfl, HB2.out⟩

/-- The cells of a row of spans. -/
theorem SpRow.read {B : Nat} {v : Value} {l : List (Nat × Nat)} {w : World} (h : SpRow B v l w) : ∃ ao cv, v = .slice ao l.length cv ∧ ∀ w', Below w.heap.size w w' → ∀ k (hk : k < l.length), ∃ b, ao = some ⟨b, 0, none⟩ ∧ w'.cell? ⟨b, k * 2, none⟩ = some (.int .i64 (l[k].1 : Nat)) ∧ w'.cell? ⟨b, k * 2 + 1, none⟩ = some (.int .i64 (l[k].2 : Nat)) := by
  obtain ⟨hown, ao, cv, rfl⟩ := h
  refine ⟨ao, cv, rfl, fun w' hb k hk => ?_⟩
  cases ao with
  | none =>
    rcases hown.2 with ⟨h1, h0⟩ | ⟨g, cap, cur, h1, _⟩
    · omega
    · cases h1
  | some a =>
    rcases hown.2 with ⟨h1, h0⟩ | ⟨g, cap, cur, h1, _, hg, _⟩
    · cases h1
    · injection h1 with h1 _ _
      injection h1 with h1
      subst h1
      have hlt : g < w.heap.size := (Array.getElem?_eq_some_iff.1 hg).1
      have hd := drop_row l 0 k (by omega)
      rw [List.getD_eq_getElem?_getD, List.getElem?_eq_getElem hk] at hd
      simp only [List.replicate_zero, List.append_nil, Option.getD_some] at hd
      have e0 : (flatS l)[2 * k]? = some (.int .i64 (l[k].1 : Nat)) := by
        have := congrArg (fun x : List Value => x[0]?) hd
        simpa using this
      have e1 : (flatS l)[2 * k + 1]? = some (.int .i64 (l[k].2 : Nat)) := by
        have := congrArg (fun x : List Value => x[1]?) hd
        simpa using this
      have c0 := hown.cells (g := g) rfl _ _ e0
      have c1 := hown.cells (g := g) rfl _ _ e1
      have hadd : ∀ j, (⟨g, 0, none⟩ : Addr).add j = ⟨g, j, none⟩ := fun j => by unfold Addr.add; split <;> simp_all
      rw [hadd] at c0 c1
      refine ⟨g, rfl, ?_, ?_⟩
      · rw [hb.cell (p := ⟨g, k * 2, none⟩) hlt, Nat.mul_comm]
        exact c0
      · rw [hb.cell (p := ⟨g, k * 2 + 1, none⟩) hlt, Nat.mul_comm]
        exact c1

def inS (l : List (Nat × Nat)) (c : Int) : Bool := l.any fun p => decide ((p.1 : Int) ≤ c ∧ c ≤ p.2)

set_option maxRecDepth 100000 in
set_option maxHeartbeats 4000000 in
theorem Is_there (c : Int) (s : ByteArray) (l : List (Nat × Nat)) (hl : l.length ≤ 22) (hne : ∀ p ∈ l, p.2 ≠ 0) (hf : findS s tab = some (rowV l)) (hc : isCI c = true) (w : World) :
    Calls Try.prog 19 #[.int .i64 c, .string s] w fun e w' => e = .returned (.tuple #[.bool (inS l c), .int .i64 0]) ∧ Below w.heap.size w w' := by
  have HS := Lib.hid (fun w => spans_ok s l hl hne hf w)
  have HI : Hid (∀ w, Calls Try.prog 48 #[.int .i64 c] w fun e w' => e = .returned (.bool true) ∧ w = w') := fun w => by
    have := isCharacter_any c w
    rwa [hc] at this
  have HYES : Hid (∀ k (h : k < l.length), ((l[k].1 : Nat) : Int) ≤ c → c ≤ ((l[k].2 : Nat) : Int) → inS l c = true) := fun k h h1 h2 => by
    show l.any _ = true
    rw [List.any_eq_true]
    exact ⟨l[k], List.getElem_mem h, by simpa using ⟨h1, h2⟩⟩
  have HNO : Hid ((∀ k (h : k < l.length), ¬ (((l[k].1 : Nat) : Int) ≤ c ∧ c ≤ ((l[k].2 : Nat) : Int))) → inS l c = false) := fun h => by
    show l.any _ = false
    rw [List.any_eq_false]
    intro p hp
    obtain ⟨k, hk, rfl⟩ := List.getElem_of_mem hp
    simpa using h k hk
  have HP : Hid (∀ (b : Bool) w', b = inS l c → Below w.heap.size w w' → Ending.returned (.tuple #[.bool b, .int .i64 0]) = .returned (.tuple #[.bool (inS l c), .int .i64 0]) ∧ Below w.heap.size w w') := fun b w' h1 h2 => ⟨by rw [h1], h2⟩
  clear hne hf hc
  generalize inS l c = Z at *
  go_enter Try.func19, Try.ntmps19
  go_wp2_with fail
  refine (HS.out _).mono ?_
  rintro e w1 ⟨v, rfl, hsp, hb1⟩
  have HB1 := Lib.hid hb1
  obtain ⟨ao, cv, rfl, hcl⟩ := hsp.read
  have HCL := Lib.hid hcl
  clear hb1 hsp hcl
  go_wp2_with fail
  refine (HI.out _).mono ?_
  rintro e w' ⟨rfl, rfl⟩
  have HBR := Lib.hid (Below.refl w1.heap.size w1)
  go_wp2_with fail
  go_loopw [23] (fun i wr => ∃ (k : Nat), k ≤ l.length ∧ i = .int .i64 k ∧ Hid (Below w1.heap.size w1 wr) ∧ Hid (∀ j (h : j < l.length), j < k → ¬ (((l[j].1 : Nat) : Int) ≤ c ∧ c ≤ ((l[j].2 : Nat) : Int)))) (fun i _ => l.length - (intOf i).toNat)
  case atStart => exact ⟨0, Nat.zero_le _, rfl, HBR, fun j _ h => absurd h (Nat.not_lt_zero j)⟩
  case round =>
    obtain ⟨k, hk, rfl, hbl, hall⟩ := hrel
    by_cases hlt : k < l.length
    · obtain ⟨b, rfl, c0, c1⟩ := HCL.out wr hbl.out k hlt
      have HY := Lib.hid (HYES.out k hlt)
      have HN : Hid (¬ (((l[k].1 : Nat) : Int) ≤ c ∧ c ≤ ((l[k].2 : Nat) : Int)) → ∀ j (h : j < l.length), j < k + 1 → ¬ (((l[j].1 : Nat) : Int) ≤ c ∧ c ≤ ((l[j].2 : Nat) : Int))) := fun hn j h hj => by
        by_cases e : j = k
        · subst e; exact hn
        · exact hall.out j h (by omega)
      generalize l[k].1 = x at *
      generalize l[k].2 = y at *
      have hsz := hbl.out.size
      have HB3 : Hid (Below w1.heap.size w1 (wr.alloc (.cells #[.int .i64 (x : Int), .int .i64 (y : Int)] 40))) := hbl.out.alloc hsz _
      have hz0 : (wr.alloc (.cells #[.int .i64 (x : Int), .int .i64 (y : Int)] 40)).cell? ⟨wr.heap.size, 0, none⟩ = some (.int .i64 (x : Int)) := by rw [World.cell?_alloc_new]; rfl
      have hz1 : (wr.alloc (.cells #[.int .i64 (x : Int), .int .i64 (y : Int)] 40)).cell? ⟨wr.heap.size, 1, none⟩ = some (.int .i64 (y : Int)) := by rw [World.cell?_alloc_new]; rfl
      by_cases h1 : (x : Int) ≤ c
      · by_cases h2 : c ≤ (y : Int)
        · have HX := Lib.hid (HY.out h1 h2)
          clear HN HY
          go_wp2
          go_ret2
          exact HP.out _ _ HX.out.symm (HB1.out.trans (by first | exact (HB3.out.mono HB1.out.size) | exact (HB3.out.drew.mono HB1.out.size)))
        · have HX := Lib.hid (HN.out fun h => h2 h.2)
          clear HN HY
          go_wp2
          go_round
          case rel => exact ⟨k + 1, by omega, by go_num, by first | exact HB3 | exact HB3.out.drew, HX⟩
          case measure => simp [intOf]; omega
      · have HX := Lib.hid (HN.out fun h => h1 h.1)
        clear HN HY
        go_wp2
        go_round
        case rel => exact ⟨k + 1, by omega, by go_num, by first | exact HB3 | exact HB3.out.drew, HX⟩
        case measure => simp [intOf]; omega
    · obtain rfl : k = l.length := by omega
      have HX := Lib.hid (HNO.out fun j h => hall.out j h h)
      go_wp2
      go_ret2
      exact HP.out _ _ HX.out.symm (HB1.out.trans (hbl.out.mono HB1.out.size))

end Go.Proofs.Ytdjpjknbbedamaa
