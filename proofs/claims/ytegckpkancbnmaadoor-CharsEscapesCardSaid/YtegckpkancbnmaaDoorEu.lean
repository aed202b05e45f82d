/-
  chars.Unescape and what it calls: strconv.ParseUint, escaped. Conditions: the variable strconv.ErrSyntax holds an error.
-/
import Derived.Test.YtegckpkancbnmaaDoorPu
import Derived.Test.YtegckpkancbnmaaDoorCu
namespace Go.Proofs.YtegckpkancbnmaaDoor
open Go.RowKit

/-- The variable of the error of syntax holds something. -/
def ErrAt (w : World) : Prop := ∃ ev, w.cell? ⟨3, 0, none⟩ = some ev ∧ (ev = .nilIface ∨ ∃ te pe, ev = .iface te pe)
theorem ErrAt.later {w w' : World} (h : ErrAt w) (hb : Below w.heap.size w w') : ErrAt w' := by
  obtain ⟨ev, h1, h2⟩ := h
  exact ⟨ev, (hb.cell (p := ⟨3, 0, none⟩) (Lib.lt_of_cell h1)).trans h1, h2⟩
theorem ErrAt.ev {w : World} (h : ErrAt w) : ∃ ev, w.cell? ⟨3, 0, none⟩ = some ev ∧ (ev = .nilIface ∨ ∃ te pe, ev = .iface te pe) := h

def PuP (u : Nat) (w : World) (e : Ending) (w' : World) : Prop := e = .returned (.tuple #[.int .u64 u, .nilIface]) ∧ Below w.heap.size w w'
def PuE (w : World) (e : Ending) (w' : World) : Prop := ∃ N, e = .returned (.tuple #[.int .u64 0, .iface 115 (.pointer (some ⟨N, 0, none⟩))]) ∧ Below w.heap.size w w'

set_option maxRecDepth 100000 in
theorem iParseUint_nil (w : World) : Calls Tryd.prog 87 #[.string ⟨#[]⟩, .int .i64 16, .int .i64 32] w fun e w' => e = .returned puNo ∧ Below w.heap.size w w' := by
  have HB := Lib.hid (Below.refl w.heap.size w)
  go_enter Tryd.func87, Tryd.ntmps87
  go_wp2
  go_ret2
  exact ⟨rfl, HB.out⟩
theorem iParseUint_any (t : ByteArray) (h6 : t.size ≤ 6) (w : World) :
    Calls Tryd.prog 87 #[.string t, .int .i64 16, .int .i64 32] w fun e w' => e = .returned (if t.data.toList = [] then puNo else puV t.data.toList) ∧ Below w.heap.size w w' := by
  by_cases h0 : t.size = 0
  · have h1 : t.data.toList = [] := List.eq_nil_of_length_eq_zero (by rw [← Lib.size_eq]; exact h0)
    have h2 : t = ⟨#[]⟩ := by
      rw [← bs_of t, h1]
      rfl
    rw [if_pos h1, h2]
    exact iParseUint_nil w
  · have h1 : t.data.toList ≠ [] := fun h => h0 (by rw [Lib.size_eq, h]; rfl)
    rw [if_neg h1]
    refine (iParseUint_16 t h0 h6 w).mono ?_
    rintro e w' ⟨rfl, rfl⟩
    exact ⟨rfl, Lib.bytesWorld_below _ _ _⟩

set_option maxRecDepth 100000 in
theorem sParseUint_ok (d : List UInt8) (hne : d ≠ []) (h6 : d.length ≤ 6) (hx : ∀ b ∈ d, isHx b = true) (w : World) :
    Calls Tryd.prog 64 #[.string (bs d), .int .i64 16, .int .i64 32] w (PuP (hvl 0 d) w) := by
  have HI : Hid (∀ w, Calls Tryd.prog 87 #[.string (bs d), .int .i64 16, .int .i64 32] w fun e w' => e = .returned (.tuple #[.int .u64 (hvl 0 d : Nat), .nilIface]) ∧ Below w.heap.size w w') := fun w => by
    have := iParseUint_any (bs d) (by rw [bs_size]; exact h6) w
    rw [bs_list, if_neg hne] at this
    unfold puV at this
    rwa [if_pos hx] at this
  have HP : Hid (∀ w', Below w.heap.size w w' → PuP (hvl 0 d) w (.returned (.tuple #[.int .u64 (hvl 0 d : Nat), .nilIface])) w') := fun w' h => ⟨rfl, h⟩
  clear hne h6 hx
  generalize ((hvl 0 d : Nat) : Int) = u at *
  generalize bs d = s at *
  go_enter Tryd.func64, Tryd.ntmps64
  go_wp2_with fail
  refine (HI.out _).mono ?_
  rintro e w' ⟨rfl, hb⟩
  have HB := Lib.hid hb
  clear hb
  go_wp2
  go_ret2
  exact HP.out _ HB.out
set_option maxRecDepth 100000 in
theorem sParseUint_no (d : List UInt8) (h6 : d.length ≤ 6) (hx : ¬ (d ≠ [] ∧ ∀ b ∈ d, isHx b = true)) (w : World) (hE : ErrAt w) :
    Calls Tryd.prog 64 #[.string (bs d), .int .i64 16, .int .i64 32] w (PuE w) := by
  have HI : Hid (∀ w, Calls Tryd.prog 87 #[.string (bs d), .int .i64 16, .int .i64 32] w fun e w' => e = .returned (.tuple #[.int .u64 0, .iface 113 (.int .i64 2)]) ∧ Below w.heap.size w w') := fun w => by
    have := iParseUint_any (bs d) (by rw [bs_size]; exact h6) w
    rw [bs_list] at this
    by_cases hd : d = []
    · rwa [if_pos hd] at this
    · rw [if_neg hd] at this
      unfold puV at this
      rwa [if_neg (fun h => hx ⟨hd, h⟩)] at this
  have HT : Hid (∀ w', Below w.heap.size w w' → Calls Tryd.prog 88 #[.string ⟨#[80, 97, 114, 115, 101, 85, 105, 110, 116]⟩, .string (bs d), .int .i64 16, .int .i64 32, .iface 113 (.int .i64 2)] w' fun e w2 => ∃ N, e = .returned (.iface 115 (.pointer (some ⟨N, 0, none⟩))) ∧ Below w'.heap.size w' w2) := fun w' hb => by
    obtain ⟨ev, h1, h2⟩ := (hE.later hb).ev
    refine (Tryd.strconv_toError_syntax ⟨#[80, 97, 114, 115, 101, 85, 105, 110, 116]⟩ (bs d) 16 32 ev w' (by rw [bs_size]; omega) h1 h2).mono ?_
    rintro e w2 ⟨N, rfl, _, _, h⟩
    exact ⟨N, rfl, h⟩
  have HP : Hid (∀ N w', Below w.heap.size w w' → PuE w (.returned (.tuple #[.int .u64 0, .iface 115 (.pointer (some ⟨N, 0, none⟩))])) w') := fun N w' h => ⟨N, rfl, h⟩
  clear h6 hx hE
  generalize bs d = s at *
  go_enter Tryd.func64, Tryd.ntmps64
  go_wp2_with fail
  refine (HI.out _).mono ?_
  rintro e w' ⟨rfl, hb⟩
  have HB := Lib.hid hb
  clear hb
  go_wp2_with fail
  refine (HT.out _ HB.out).mono ?_
  rintro e w2 ⟨N, rfl, hb2⟩
  have HB2 : Hid (Below w.heap.size w w2) := HB.out.trans (hb2.mono HB.out.size)
  clear hb2
  go_wp2
  go_ret2
  exact HP.out _ _ HB2.out

/-- What escaped gives. -/
def esV (l : List UInt8) : Value := match esb l with
  | some (c, r) => .tuple #[.int .i32 c, .string (bs r), .bool true]
  | none => .tuple #[.int .i32 0, .string ⟨#[]⟩, .bool false]
def EsP (l : List UInt8) (w : World) (e : Ending) (w' : World) : Prop := e = .returned (esV l) ∧ Below w.heap.size w w'

theorem esd_slash (r : List UInt8) (w : World) : Calls Tryd.prog 39 #[.string (bs (92 :: r))] w (EsP (92 :: r) w) := by
  have H1 : Hid (∀ w, Calls Tryd.prog 63 #[.string (bs (92 :: r)), .string ⟨#[92]⟩] w fun e w' => e = .returned (.tuple #[.string (bs r), .bool true]) ∧ w = w') := fun w => cpre_hit [92] r w
  have HP : Hid (∀ w', Below w.heap.size w w' → EsP (92 :: r) w (.returned (.tuple #[.int .i32 92, .string (bs r), .bool true])) w') := fun w' h => ⟨rfl, h⟩
  have HB := Lib.hid (Below.refl w.heap.size w)
  generalize bs (92 :: r) = s at *
  generalize bs r = t at *
  go_enter Tryd.func39, Tryd.ntmps39
  go_wp2_with fail
  refine (H1.out _).mono ?_
  rintro e w' ⟨rfl, rfl⟩
  go_wp2
  go_ret3
  exact HP.out _ HB.out
theorem esd_other (l : List UInt8) (h1 : ([92] : List UInt8).isPrefixOf l = false) (h2 : ([120, 123] : List UInt8).isPrefixOf l = false) (w : World) : Calls Tryd.prog 39 #[.string (bs l)] w (EsP l w) := by
  have H1 : Hid (∀ w, Calls Tryd.prog 63 #[.string (bs l), .string ⟨#[92]⟩] w fun e w' => e = .returned (.tuple #[.string (bs l), .bool false]) ∧ w = w') := fun w => cpre_miss l [92] h1 w
  have H2 : Hid (∀ w, Calls Tryd.prog 63 #[.string (bs l), .string ⟨#[120, 123]⟩] w fun e w' => e = .returned (.tuple #[.string (bs l), .bool false]) ∧ w = w') := fun w => cpre_miss l [120, 123] h2 w
  have HP : Hid (∀ w', Below w.heap.size w w' → EsP l w (.returned (.tuple #[.int .i32 0, .string ⟨#[]⟩, .bool false])) w') := fun w' h => ⟨by
    have : esb l = none := by
      unfold esb
      split
      · exact absurd h1 (by simp [List.isPrefixOf])
      · exact absurd h2 (by simp [List.isPrefixOf])
      · rfl
    unfold esV
    rw [this], h⟩
  have HB := Lib.hid (Below.refl w.heap.size w)
  clear h1 h2
  generalize bs l = s at *
  go_enter Tryd.func39, Tryd.ntmps39
  go_wp2_with fail
  refine (H1.out _).mono ?_
  rintro e w' ⟨rfl, rfl⟩
  go_wp2_with fail
  refine (H2.out _).mono ?_
  rintro e w' ⟨rfl, rfl⟩
  go_wp2
  go_ret3
  exact HP.out _ HB.out
theorem pre_x (u : List UInt8) : ([92] : List UInt8).isPrefixOf (120 :: 123 :: u) = false := by
  simp [List.isPrefixOf]
theorem first_of {c : UInt8} : ∀ {u : List UInt8}, c ∈ u → ∃ d r, u = d ++ c :: r ∧ c ∉ d
  | b :: u, h => by
    by_cases hb : b = c
    · subst hb
      exact ⟨[], u, rfl, by simp⟩
    · have hu : c ∈ u := by
        rcases List.mem_cons.1 h with h | h
        · exact absurd h.symm hb
        · exact h
      obtain ⟨d, r, rfl, hd⟩ := first_of hu
      refine ⟨b :: d, r, rfl, ?_⟩
      intro h2
      rcases List.mem_cons.1 h2 with h2 | h2
      · exact hb h2.symm
      · exact hd h2
set_option maxRecDepth 100000 in
set_option maxHeartbeats 1000000 in
theorem esd_x (u : List UInt8) (hz : u.length ≤ 100000) (w : World) (hE : ErrAt w) : Calls Tryd.prog 39 #[.string (bs (120 :: 123 :: u))] w (EsP (120 :: 123 :: u) w) := by
  have H1 : Hid (∀ w, Calls Tryd.prog 63 #[.string (bs (120 :: 123 :: u)), .string ⟨#[92]⟩] w fun e w' => e = .returned (.tuple #[.string (bs (120 :: 123 :: u)), .bool false]) ∧ w = w') := fun w => cpre_miss _ [92] (pre_x u) w
  have H2 : Hid (∀ w, Calls Tryd.prog 63 #[.string (bs (120 :: 123 :: u)), .string ⟨#[120, 123]⟩] w fun e w' => e = .returned (.tuple #[.string (bs u), .bool true]) ∧ w = w') := fun w => cpre_hit [120, 123] u w
  have HPN : Hid (brc u = none → ∀ w', Below w.heap.size w w' → EsP (120 :: 123 :: u) w (.returned (.tuple #[.int .i32 0, .string ⟨#[]⟩, .bool false])) w') := fun hn w' h => ⟨by
    have : esb (120 :: 123 :: u) = none := hn
    unfold esV
    rw [this], h⟩
  have HPY : Hid (∀ c r, brc u = some (c, r) → ∀ w', Below w.heap.size w w' → EsP (120 :: 123 :: u) w (.returned (.tuple #[.int .i32 c, .string (bs r), .bool true])) w') := fun c r hn w' h => ⟨by
    have : esb (120 :: 123 :: u) = some (c, r) := hn
    unfold esV
    rw [this], h⟩
  generalize bs (120 :: 123 :: u) = s at *
  by_cases hm : (125 : UInt8) ∈ u
  · obtain ⟨d, r, hu, hd⟩ := first_of hm
    subst hu
    have HC := Lib.hid (fun w => sCut_hit 125 d r hd (by simp at hz; omega) w)
    have hsz : (bs d).size = d.length := bs_size d
    by_cases h6 : d.length ≤ 6
    · by_cases hx : d ≠ [] ∧ ∀ b ∈ d, isHx b = true
      · have HPU := Lib.hid (fun w => sParseUint_ok d hx.1 h6 hx.2 w)
        have hb := hvl_bd d 0
        have hp : 16 ^ d.length ≤ 16 ^ 6 := Nat.pow_le_pow_right (by omega) h6
        have hv : hvl 0 d ≤ 16777215 := by simp at hb hp; omega
        have hI6 : ((bs d).size : Int) ≤ 6 := by omega
        cases hci : isC (hvl 0 d)
        · have HN := Lib.hid (HPN.out (brc_miss hd (by rw [hci]; simp)))
          have HIC : Hid (∀ w, Calls Tryd.prog 65 #[.int .i64 (hvl 0 d : Nat)] w fun e w' => e = .returned (.bool false) ∧ w = w') := fun w => by
            have := isCharacter_any (hvl 0 d : Nat) w
            rwa [isCI_nat, hci] at this
          clear HPN HPY hci hx hb hp hE hsz h6 hd hm hz
          generalize bs (d ++ 125 :: r) = t at *
          generalize bs d = td at *
          generalize bs r = tr at *
          generalize hvl 0 d = v at *
          go_enter Tryd.func39, Tryd.ntmps39
          go_wp2_with fail
          refine (H1.out _).mono ?_
          rintro e w' ⟨rfl, rfl⟩
          go_wp2_with fail
          refine (H2.out _).mono ?_
          rintro e w' ⟨rfl, rfl⟩
          go_wp2_with fail
          refine (HC.out _).mono ?_
          rintro e w1 ⟨rfl, hb1⟩
          have HB1 := Lib.hid hb1
          clear hb1
          go_wp2_with fail
          refine (HPU.out _).mono ?_
          rintro e w2 ⟨rfl, hb2⟩
          have HB2 : Hid (Below w.heap.size w w2) := HB1.out.trans (hb2.mono HB1.out.size)
          clear hb2
          go_wp2_with fail
          refine (HIC.out _).mono ?_
          rintro e w' ⟨rfl, rfl⟩
          go_wp2
          go_ret3
          exact HN.out _ HB2.out
        · have HY := Lib.hid (HPY.out _ _ (brc_hit (r := r) hx.1 h6 hx.2 hci))
          have hc4 := isC_iff.1 hci
          have hv4 : ((hvl 0 d : Nat) : Int) ≤ 1114111 := by omega
          have HIC : Hid (∀ w, Calls Tryd.prog 65 #[.int .i64 (hvl 0 d : Nat)] w fun e w' => e = .returned (.bool true) ∧ w = w') := fun w => by
            have := isCharacter_any (hvl 0 d : Nat) w
            rwa [isCI_nat, hci] at this
          clear HPN HPY hci hx hb hp hE hsz h6 hd hm hz hc4
          generalize bs (d ++ 125 :: r) = t at *
          generalize bs d = td at *
          generalize bs r = tr at *
          generalize hvl 0 d = v at *
          go_enter Tryd.func39, Tryd.ntmps39
          go_wp2_with fail
          refine (H1.out _).mono ?_
          rintro e w' ⟨rfl, rfl⟩
          go_wp2_with fail
          refine (H2.out _).mono ?_
          rintro e w' ⟨rfl, rfl⟩
          go_wp2_with fail
          refine (HC.out _).mono ?_
          rintro e w1 ⟨rfl, hb1⟩
          have HB1 := Lib.hid hb1
          clear hb1
          go_wp2_with fail
          refine (HPU.out _).mono ?_
          rintro e w2 ⟨rfl, hb2⟩
          have HB2 : Hid (Below w.heap.size w w2) := HB1.out.trans (hb2.mono HB1.out.size)
          clear hb2
          go_wp2_with fail
          refine (HIC.out _).mono ?_
          rintro e w' ⟨rfl, rfl⟩
          go_wp2
          go_ret3
          exact HY.out _ HB2.out
      · have HN := Lib.hid (HPN.out (brc_miss hd (fun h => hx ⟨h.1, h.2.2.1⟩)))
        have HPU := Lib.hid (fun w' (hb : Below w.heap.size w w') => sParseUint_no d h6 hx w' (hE.later hb))
        have hI6 : ((bs d).size : Int) ≤ 6 := by omega
        clear HPN HPY hx hE hsz h6 hd hm hz
        generalize bs (d ++ 125 :: r) = t at *
        generalize bs d = td at *
        generalize bs r = tr at *
        go_enter Tryd.func39, Tryd.ntmps39
        go_wp2_with fail
        refine (H1.out _).mono ?_
        rintro e w' ⟨rfl, rfl⟩
        go_wp2_with fail
        refine (H2.out _).mono ?_
        rintro e w' ⟨rfl, rfl⟩
        go_wp2_with fail
        refine (HC.out _).mono ?_
        rintro e w1 ⟨rfl, hb1⟩
        have HB1 := Lib.hid hb1
        clear hb1
        go_wp2_with fail
        refine (HPU.out _ HB1.out).mono ?_
        rintro e w2 ⟨N, rfl, hb2⟩
        have HB2 : Hid (Below w.heap.size w w2) := HB1.out.trans (hb2.mono HB1.out.size)
        clear hb2
        go_wp2
        go_ret3
        exact HN.out _ HB2.out
    · have HN := Lib.hid (HPN.out (brc_miss hd (fun h => h6 h.2.1)))
      have hI6 : (6 : Int) < ((bs d).size : Int) := by omega
      clear HPN HPY hE hsz h6 hd hm hz
      generalize bs (d ++ 125 :: r) = t at *
      generalize bs d = td at *
      generalize bs r = tr at *
      go_enter Tryd.func39, Tryd.ntmps39
      go_wp2_with fail
      refine (H1.out _).mono ?_
      rintro e w' ⟨rfl, rfl⟩
      go_wp2_with fail
      refine (H2.out _).mono ?_
      rintro e w' ⟨rfl, rfl⟩
      go_wp2_with fail
      refine (HC.out _).mono ?_
      rintro e w1 ⟨rfl, hb1⟩
      have HB1 := Lib.hid hb1
      clear hb1
      go_wp2
      go_ret3
      exact HN.out _ HB1.out
  · have HC := Lib.hid (fun w => sCut_miss 125 u hm w)
    have HN := Lib.hid (HPN.out (brc_none hm))
    clear HPN HPY hE hm hz
    generalize bs u = t at *
    go_enter Tryd.func39, Tryd.ntmps39
    go_wp2_with fail
    refine (H1.out _).mono ?_
    rintro e w' ⟨rfl, rfl⟩
    go_wp2_with fail
    refine (H2.out _).mono ?_
    rintro e w' ⟨rfl, rfl⟩
    go_wp2_with fail
    refine (HC.out _).mono ?_
    rintro e w1 ⟨rfl, hb1⟩
    have HB1 := Lib.hid hb1
    clear hb1
    go_wp2
    go_ret3
    exact HN.out _ HB1.out

theorem escaped_any (l : List UInt8) (hz : l.length ≤ 100000) (w : World) (hE : ErrAt w) : Calls Tryd.prog 39 #[.string (bs l)] w (EsP l w) := by
  by_cases h1 : ([92] : List UInt8).isPrefixOf l = true
  · obtain ⟨r, rfl⟩ := List.isPrefixOf_iff_prefix.1 h1
    exact esd_slash r w
  · by_cases h2 : ([120, 123] : List UInt8).isPrefixOf l = true
    · obtain ⟨r, rfl⟩ := List.isPrefixOf_iff_prefix.1 h2
      exact esd_x r (by simp at hz; omega) w hE
    · exact esd_other l (Bool.eq_false_iff.2 h1) (Bool.eq_false_iff.2 h2) w

end Go.Proofs.YtegckpkancbnmaaDoor
