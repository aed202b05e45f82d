/-
  Names and functions of the language, the program's and the document's. Conditions: texts of at most 2^47 bytes. TreeWords: names on both sides, and the law's walk. Conditions: the row of signs holds what the program's text lays.
-/
import Derived.Test.YtaocbhfehncdcaaGreatDoorXKn2
import Derived.Test.YtaocbhfehncdcaaGreatDoorXAr1
import Derived.Test.YtaocbhfehncdcaaGreatDoorXAr2
import Derived.Test.YtaocbhfehncdcaaGreatDoorXGr
namespace Go.Proofs.YtaocbhfehncdcaaGreatDoor
open Go.RowKit

theorem by_list {s : ByteArray} {l : List UInt8} (h : s.data.toList = l) : s = ⟨l.toArray⟩ := by
  subst h
  obtain ⟨d⟩ := s
  simp
theorem not_in {s : ByteArray} {L : List (List UInt8)} (h : s.data.toList ∉ L) : ∀ u, u ∈ L → (s.toList == u) = false := fun u hu => by
  rw [Lib.toList_data, beq_eq_false_iff_ne]
  intro e
  exact h (e ▸ hu)

set_option maxRecDepth 100000 in
set_option maxHeartbeats 8000000 in
theorem arity_both (s : ByteArray) : ∃ (a b : Int) (c : Bool), (∀ w, Calls Tryz.prog 7 #[.string s] w (LkP (.tuple #[.int .i64 a, .int .i64 b, .bool c]) w)) ∧ (∀ w, Calls Tryz.prog 8 #[.string s] w (LkP (.tuple #[.int .i64 a, .int .i64 b, .bool c]) w)) := by
  by_cases h : s.data.toList ∈ fnL1
  · simp only [fnL1, List.mem_cons, List.not_mem_nil, or_false] at h
    rcases h with h | h | h | h | h | h | h | h | h | h | h | h | h | h | h | h | h | h | h | h | h | h | h | h | h | h | h | h | h | h | h | h | h | h
    · obtain rfl : s = ⟨#[119, 97, 110, 116, 97, 114, 114, 97, 121]⟩ := by_list h
      exact ⟨_, _, _, art_wantarray, arr_wantarray⟩
    · obtain rfl : s = ⟨#[105, 110, 112, 117, 116]⟩ := by_list h
      exact ⟨_, _, _, art_input, arr_input⟩
    · obtain rfl : s = ⟨#[115, 104, 105, 102, 116]⟩ := by_list h
      exact ⟨_, _, _, art_shift, arr_shift⟩
    · obtain rfl : s = ⟨#[117, 110, 100, 101, 102]⟩ := by_list h
      exact ⟨_, _, _, art_undef, arr_undef⟩
    · obtain rfl : s = ⟨#[112, 111, 112]⟩ := by_list h
      exact ⟨_, _, _, art_pop, arr_pop⟩
    · obtain rfl : s = ⟨#[107, 101, 121, 115]⟩ := by_list h
      exact ⟨_, _, _, art_keys, arr_keys⟩
    · obtain rfl : s = ⟨#[118, 97, 108, 117, 101, 115]⟩ := by_list h
      exact ⟨_, _, _, art_values, arr_values⟩
    · obtain rfl : s = ⟨#[100, 101, 108, 101, 116, 101]⟩ := by_list h
      exact ⟨_, _, _, art_delete, arr_delete⟩
    · obtain rfl : s = ⟨#[101, 120, 105, 115, 116, 115]⟩ := by_list h
      exact ⟨_, _, _, art_exists, arr_exists⟩
    · obtain rfl : s = ⟨#[100, 101, 102, 105, 110, 101, 100]⟩ := by_list h
      exact ⟨_, _, _, art_defined, arr_defined⟩
    · obtain rfl : s = ⟨#[115, 99, 97, 108, 97, 114]⟩ := by_list h
      exact ⟨_, _, _, art_scalar, arr_scalar⟩
    · obtain rfl : s = ⟨#[108, 101, 110, 103, 116, 104]⟩ := by_list h
      exact ⟨_, _, _, art_length, arr_length⟩
    · obtain rfl : s = ⟨#[117, 99]⟩ := by_list h
      exact ⟨_, _, _, art_uc, arr_uc⟩
    · obtain rfl : s = ⟨#[108, 99]⟩ := by_list h
      exact ⟨_, _, _, art_lc, arr_lc⟩
    · obtain rfl : s = ⟨#[111, 114, 100]⟩ := by_list h
      exact ⟨_, _, _, art_ord, arr_ord⟩
    · obtain rfl : s = ⟨#[99, 104, 114]⟩ := by_list h
      exact ⟨_, _, _, art_chr, arr_chr⟩
    · obtain rfl : s = ⟨#[114, 101, 102]⟩ := by_list h
      exact ⟨_, _, _, art_ref, arr_ref⟩
    · obtain rfl : s = ⟨#[119, 101, 97, 107, 101, 110]⟩ := by_list h
      exact ⟨_, _, _, art_weaken, arr_weaken⟩
    · obtain rfl : s = ⟨#[117, 110, 116, 105, 101]⟩ := by_list h
      exact ⟨_, _, _, art_untie, arr_untie⟩
    · obtain rfl : s = ⟨#[103, 117, 97, 114, 100]⟩ := by_list h
      exact ⟨_, _, _, art_guard, arr_guard⟩
    · obtain rfl : s = ⟨#[116, 97, 105, 110, 116, 101, 100]⟩ := by_list h
      exact ⟨_, _, _, art_tainted, arr_tainted⟩
    · obtain rfl : s = ⟨#[97, 98, 115]⟩ := by_list h
      exact ⟨_, _, _, art_abs, arr_abs⟩
    · obtain rfl : s = ⟨#[101, 118, 97, 108, 117, 97, 116, 101]⟩ := by_list h
      exact ⟨_, _, _, art_evaluate, arr_evaluate⟩
    · obtain rfl : s = ⟨#[115, 112, 108, 105, 116]⟩ := by_list h
      exact ⟨_, _, _, art_split, arr_split⟩
    · obtain rfl : s = ⟨#[105, 110, 100, 101, 120]⟩ := by_list h
      exact ⟨_, _, _, art_index, arr_index⟩
    · obtain rfl : s = ⟨#[98, 108, 101, 115, 115]⟩ := by_list h
      exact ⟨_, _, _, art_bless, arr_bless⟩
    · obtain rfl : s = ⟨#[115, 117, 98, 115, 116, 114]⟩ := by_list h
      exact ⟨_, _, _, art_substr, arr_substr⟩
    · obtain rfl : s = ⟨#[112, 114, 105, 110, 116]⟩ := by_list h
      exact ⟨_, _, _, art_print, arr_print⟩
    · obtain rfl : s = ⟨#[114, 101, 118, 101, 114, 115, 101]⟩ := by_list h
      exact ⟨_, _, _, art_reverse, arr_reverse⟩
    · obtain rfl : s = ⟨#[100, 105, 101]⟩ := by_list h
      exact ⟨_, _, _, art_die, arr_die⟩
    · obtain rfl : s = ⟨#[112, 117, 115, 104]⟩ := by_list h
      exact ⟨_, _, _, art_push, arr_push⟩
    · obtain rfl : s = ⟨#[117, 110, 115, 104, 105, 102, 116]⟩ := by_list h
      exact ⟨_, _, _, art_unshift, arr_unshift⟩
    · obtain rfl : s = ⟨#[106, 111, 105, 110]⟩ := by_list h
      exact ⟨_, _, _, art_join, arr_join⟩
    · obtain rfl : s = ⟨#[116, 105, 101]⟩ := by_list h
      exact ⟨_, _, _, art_tie, arr_tie⟩
  · exact ⟨_, _, _, art_none s (not_in h), arr_none s (not_in (L := fnL2) h)⟩

set_option maxRecDepth 100000 in
set_option maxHeartbeats 8000000 in
theorem gram_both (s : ByteArray) : ∀ w, Calls Tryz.prog 22 #[.string s] w (LkP (.bool (grL.any (· == s.toList))) w) := by
  by_cases h : s.data.toList ∈ grL
  · simp only [grL, List.mem_cons, List.not_mem_nil, or_false] at h
    rcases h with h | h | h | h | h | h | h | h | h | h | h | h | h | h | h | h | h | h | h | h | h | h | h | h | h | h | h | h | h | h | h | h | h | h | h | h | h | h | h
    · obtain rfl : s = ⟨#[109, 121]⟩ := by_list h
      exact (show grL.any (· == (ByteArray.mk #[109, 121]).toList) = true by rw [Lib.toList_data]; rfl) ▸ gr_my
    · obtain rfl : s = ⟨#[111, 117, 114]⟩ := by_list h
      exact (show grL.any (· == (ByteArray.mk #[111, 117, 114]).toList) = true by rw [Lib.toList_data]; rfl) ▸ gr_our
    · obtain rfl : s = ⟨#[108, 111, 99, 97, 108]⟩ := by_list h
      exact (show grL.any (· == (ByteArray.mk #[108, 111, 99, 97, 108]).toList) = true by rw [Lib.toList_data]; rfl) ▸ gr_local
    · obtain rfl : s = ⟨#[115, 117, 98]⟩ := by_list h
      exact (show grL.any (· == (ByteArray.mk #[115, 117, 98]).toList) = true by rw [Lib.toList_data]; rfl) ▸ gr_sub
    · obtain rfl : s = ⟨#[114, 101, 116, 117, 114, 110]⟩ := by_list h
      exact (show grL.any (· == (ByteArray.mk #[114, 101, 116, 117, 114, 110]).toList) = true by rw [Lib.toList_data]; rfl) ▸ gr_return
    · obtain rfl : s = ⟨#[112, 97, 99, 107, 97, 103, 101]⟩ := by_list h
      exact (show grL.any (· == (ByteArray.mk #[112, 97, 99, 107, 97, 103, 101]).toList) = true by rw [Lib.toList_data]; rfl) ▸ gr_package
    · obtain rfl : s = ⟨#[108, 97, 115, 116]⟩ := by_list h
      exact (show grL.any (· == (ByteArray.mk #[108, 97, 115, 116]).toList) = true by rw [Lib.toList_data]; rfl) ▸ gr_last
    · obtain rfl : s = ⟨#[110, 101, 120, 116]⟩ := by_list h
      exact (show grL.any (· == (ByteArray.mk #[110, 101, 120, 116]).toList) = true by rw [Lib.toList_data]; rfl) ▸ gr_next
    · obtain rfl : s = ⟨#[105, 102]⟩ := by_list h
      exact (show grL.any (· == (ByteArray.mk #[105, 102]).toList) = true by rw [Lib.toList_data]; rfl) ▸ gr_if
    · obtain rfl : s = ⟨#[117, 110, 108, 101, 115, 115]⟩ := by_list h
      exact (show grL.any (· == (ByteArray.mk #[117, 110, 108, 101, 115, 115]).toList) = true by rw [Lib.toList_data]; rfl) ▸ gr_unless
    · obtain rfl : s = ⟨#[101, 108, 115, 105, 102]⟩ := by_list h
      exact (show grL.any (· == (ByteArray.mk #[101, 108, 115, 105, 102]).toList) = true by rw [Lib.toList_data]; rfl) ▸ gr_elsif
    · obtain rfl : s = ⟨#[101, 108, 115, 101]⟩ := by_list h
      exact (show grL.any (· == (ByteArray.mk #[101, 108, 115, 101]).toList) = true by rw [Lib.toList_data]; rfl) ▸ gr_else
    · obtain rfl : s = ⟨#[119, 104, 105, 108, 101]⟩ := by_list h
      exact (show grL.any (· == (ByteArray.mk #[119, 104, 105, 108, 101]).toList) = true by rw [Lib.toList_data]; rfl) ▸ gr_while
    · obtain rfl : s = ⟨#[117, 110, 116, 105, 108]⟩ := by_list h
      exact (show grL.any (· == (ByteArray.mk #[117, 110, 116, 105, 108]).toList) = true by rw [Lib.toList_data]; rfl) ▸ gr_until
    · obtain rfl : s = ⟨#[102, 111, 114]⟩ := by_list h
      exact (show grL.any (· == (ByteArray.mk #[102, 111, 114]).toList) = true by rw [Lib.toList_data]; rfl) ▸ gr_for
    · obtain rfl : s = ⟨#[100, 111]⟩ := by_list h
      exact (show grL.any (· == (ByteArray.mk #[100, 111]).toList) = true by rw [Lib.toList_data]; rfl) ▸ gr_do
    · obtain rfl : s = ⟨#[101, 118, 97, 108]⟩ := by_list h
      exact (show grL.any (· == (ByteArray.mk #[101, 118, 97, 108]).toList) = true by rw [Lib.toList_data]; rfl) ▸ gr_eval
    · obtain rfl : s = ⟨#[109, 97, 112]⟩ := by_list h
      exact (show grL.any (· == (ByteArray.mk #[109, 97, 112]).toList) = true by rw [Lib.toList_data]; rfl) ▸ gr_map
    · obtain rfl : s = ⟨#[103, 114, 101, 112]⟩ := by_list h
      exact (show grL.any (· == (ByteArray.mk #[103, 114, 101, 112]).toList) = true by rw [Lib.toList_data]; rfl) ▸ gr_grep
    · obtain rfl : s = ⟨#[115, 111, 114, 116]⟩ := by_list h
      exact (show grL.any (· == (ByteArray.mk #[115, 111, 114, 116]).toList) = true by rw [Lib.toList_data]; rfl) ▸ gr_sort
    · obtain rfl : s = ⟨#[97, 110, 100]⟩ := by_list h
      exact (show grL.any (· == (ByteArray.mk #[97, 110, 100]).toList) = true by rw [Lib.toList_data]; rfl) ▸ gr_and
    · obtain rfl : s = ⟨#[111, 114]⟩ := by_list h
      exact (show grL.any (· == (ByteArray.mk #[111, 114]).toList) = true by rw [Lib.toList_data]; rfl) ▸ gr_or
    · obtain rfl : s = ⟨#[110, 111, 116]⟩ := by_list h
      exact (show grL.any (· == (ByteArray.mk #[110, 111, 116]).toList) = true by rw [Lib.toList_data]; rfl) ▸ gr_not
    · obtain rfl : s = ⟨#[120]⟩ := by_list h
      exact (show grL.any (· == (ByteArray.mk #[120]).toList) = true by rw [Lib.toList_data]; rfl) ▸ gr_x
    · obtain rfl : s = ⟨#[108, 116]⟩ := by_list h
      exact (show grL.any (· == (ByteArray.mk #[108, 116]).toList) = true by rw [Lib.toList_data]; rfl) ▸ gr_lt
    · obtain rfl : s = ⟨#[103, 116]⟩ := by_list h
      exact (show grL.any (· == (ByteArray.mk #[103, 116]).toList) = true by rw [Lib.toList_data]; rfl) ▸ gr_gt
    · obtain rfl : s = ⟨#[108, 101]⟩ := by_list h
      exact (show grL.any (· == (ByteArray.mk #[108, 101]).toList) = true by rw [Lib.toList_data]; rfl) ▸ gr_le
    · obtain rfl : s = ⟨#[103, 101]⟩ := by_list h
      exact (show grL.any (· == (ByteArray.mk #[103, 101]).toList) = true by rw [Lib.toList_data]; rfl) ▸ gr_ge
    · obtain rfl : s = ⟨#[101, 113]⟩ := by_list h
      exact (show grL.any (· == (ByteArray.mk #[101, 113]).toList) = true by rw [Lib.toList_data]; rfl) ▸ gr_eq
    · obtain rfl : s = ⟨#[110, 101]⟩ := by_list h
      exact (show grL.any (· == (ByteArray.mk #[110, 101]).toList) = true by rw [Lib.toList_data]; rfl) ▸ gr_ne
    · obtain rfl : s = ⟨#[99, 109, 112]⟩ := by_list h
      exact (show grL.any (· == (ByteArray.mk #[99, 109, 112]).toList) = true by rw [Lib.toList_data]; rfl) ▸ gr_cmp
    · obtain rfl : s = ⟨#[66, 69, 71, 73, 78]⟩ := by_list h
      exact (show grL.any (· == (ByteArray.mk #[66, 69, 71, 73, 78]).toList) = true by rw [Lib.toList_data]; rfl) ▸ gr_BEGIN
    · obtain rfl : s = ⟨#[69, 78, 68]⟩ := by_list h
      exact (show grL.any (· == (ByteArray.mk #[69, 78, 68]).toList) = true by rw [Lib.toList_data]; rfl) ▸ gr_END
    · obtain rfl : s = ⟨#[113]⟩ := by_list h
      exact (show grL.any (· == (ByteArray.mk #[113]).toList) = true by rw [Lib.toList_data]; rfl) ▸ gr_q
    · obtain rfl : s = ⟨#[113, 113]⟩ := by_list h
      exact (show grL.any (· == (ByteArray.mk #[113, 113]).toList) = true by rw [Lib.toList_data]; rfl) ▸ gr_qq
    · obtain rfl : s = ⟨#[113, 119]⟩ := by_list h
      exact (show grL.any (· == (ByteArray.mk #[113, 119]).toList) = true by rw [Lib.toList_data]; rfl) ▸ gr_qw
    · obtain rfl : s = ⟨#[109]⟩ := by_list h
      exact (show grL.any (· == (ByteArray.mk #[109]).toList) = true by rw [Lib.toList_data]; rfl) ▸ gr_m
    · obtain rfl : s = ⟨#[115]⟩ := by_list h
      exact (show grL.any (· == (ByteArray.mk #[115]).toList) = true by rw [Lib.toList_data]; rfl) ▸ gr_s
    · obtain rfl : s = ⟨#[116, 114]⟩ := by_list h
      exact (show grL.any (· == (ByteArray.mk #[116, 114]).toList) = true by rw [Lib.toList_data]; rfl) ▸ gr_tr
  · have : grL.any (· == s.toList) = false := by
      rw [List.any_eq_false]
      intro x hx
      have := not_in h x hx
      rw [beq_eq_false_iff_ne] at this
      simp only [beq_iff_eq]
      exact fun e => this e.symm
    rw [this]
    exact gr_none s (not_in h)


end Go.Proofs.YtaocbhfehncdcaaGreatDoor

namespace Go.Proofs.YtaocbhfehncdcaaGreatDoor
open Go.RowKit

theorem cell_lt2 {w : World} {g i : Nat} {v : Value} (h : w.cell? ⟨g, i, none⟩ = some v) : g < w.heap.size := by
  by_cases hh : g < w.heap.size
  · exact hh
  · have : w.heap[g]? = none := Array.getElem?_eq_none (by omega)
    simp [World.cell?, this] at h
set_option maxRecDepth 100000 in
set_option maxHeartbeats 8000000 in
theorem isFunction_any (s : ByteArray) (a b : Int) (c : Bool) (hA : ∀ w, Calls Tryz.prog 8 #[.string s] w (LkP (.tuple #[.int .i64 a, .int .i64 b, .bool c]) w)) (w : World) : Calls Tryz.prog 26 #[.string s] w (LkP (.bool c) w) := by
  have HA := Lib.hid hA
  have HP : Hid (∀ w', Below w.heap.size w w' → LkP (.bool c) w (.returned (.bool c)) w') := fun w' h => ⟨rfl, h⟩
  clear hA
  go_enter Tryz.func26, Tryz.ntmps26
  go_wp2_with fail
  refine (HA.out _).mono ?_
  rintro e1 W1 ⟨rfl, hb⟩
  have HB := Lib.hid hb
  clear hb
  go_wp2
  go_ret
  exact HP.out _ HB.out
set_option maxRecDepth 100000 in
set_option maxHeartbeats 8000000 in
theorem isName_any (s : ByteArray) (hs : s.size ≤ 6000) (a b : Int) (c : Bool) (hA : ∀ w, Calls Tryz.prog 7 #[.string s] w (LkP (.tuple #[.int .i64 a, .int .i64 b, .bool c]) w)) (w : World) : Calls Tryz.prog 9 #[.string s] w (LkP (.bool (isW s.data.toList && (!c && !(grL.any (· == s.toList))))) w) := by
  have HA := Lib.hid hA
  have HW : Hid (∀ w, Calls Tryz.prog 21 #[.string s] w (BoS (isW s.data.toList) w)) := fun w => IsWord_any s w (by omega)
  have HG := Lib.hid (gram_both s)
  generalize isW s.data.toList = z at *
  generalize grL.any (· == s.toList) = g at *
  have HP : Hid (∀ r w', r = (z && (!c && !g)) → Below w.heap.size w w' → LkP (.bool (z && (!c && !g))) w (.returned (.bool r)) w') := fun r w' h1 h => ⟨by rw [h1], h⟩
  clear hA
  go_enter Tryz.func9, Tryz.ntmps9
  go_wp2_with fail
  refine (HA.out _).mono ?_
  rintro e1 W1 ⟨rfl, hb⟩
  have HB := Lib.hid hb
  clear hb
  go_wp2_with fail
  refine (HW.out _).mono ?_
  rintro e1 wx ⟨rfl, rfl⟩
  cases z with
  | false =>
    go_wp2
    go_ret
    exact HP.out _ _ (by simp) HB.out
  | true =>
    cases c with
    | true =>
      go_wp2
      go_ret
      exact HP.out _ _ (by simp) HB.out
    | false =>
      go_wp2_with fail
      refine (HG.out _).mono ?_
      rintro e1 W2 ⟨rfl, hb⟩
      have HB2 := Lib.hid (HB.out.trans (hb.mono HB.out.size))
      clear hb
      go_wp2
      go_ret
      exact HP.out _ _ (by simp) HB2.out
set_option maxRecDepth 100000 in
set_option maxHeartbeats 8000000 in
theorem rIsName_any (s : ByteArray) (hs : s.size ≤ 6000) (a b : Int) (c : Bool) (hA : ∀ w, Calls Tryz.prog 8 #[.string s] w (LkP (.tuple #[.int .i64 a, .int .i64 b, .bool c]) w)) (w : World) : Calls Tryz.prog 10 #[.string s] w (LkP (.bool (isW s.data.toList && (!c && !(grL.any (· == s.toList))))) w) := by
  have HA := Lib.hid (isFunction_any s a b c hA)
  have HW : Hid (∀ w, Calls Tryz.prog 23 #[.string s] w (BoS (isW s.data.toList) w)) := fun w => rIsWord_any s w (by omega)
  have HG : Hid (∀ (g : Nat) (w : World) (h1 : g < w.heap.size) (h2 : ∀ (i : Nat) (h : i < grL.length), w.cell? ⟨g, i, none⟩ = some (.string (bs grL[i]))), Calls Tryz.prog 24 #[.string s, .slice (some ⟨g, 0, none⟩) 39 39] w (LkP (.bool (grL.any (· == s.toList))) w)) := fun g w h1 h2 => in_any grL s g 39 w (by decide) h1 h2
  have HGR : Hid (Calls Tryz.prog 25 #[] w fun e w' => e = .returned (.slice (some ⟨w.heap.size, 0, none⟩) 39 39) ∧ Below w.heap.size w w' ∧ ∀ (i : Nat) (h : i < grL.length), w'.cell? ⟨w.heap.size, i, none⟩ = some (.string (bs grL[i]))) := grammar_any w
  generalize isW s.data.toList = z at *
  generalize hgg : grL.any (· == s.toList) = g at *
  clear hgg
  have HP : Hid (∀ r w', r = (z && (!c && !g)) → Below w.heap.size w w' → LkP (.bool (z && (!c && !g))) w (.returned (.bool r)) w') := fun r w' h1 h => ⟨by rw [h1], h⟩
  clear hA
  go_enter Tryz.func10, Tryz.ntmps10
  go_wp2_with fail
  refine (HW.out _).mono ?_
  rintro e1 wx ⟨rfl, rfl⟩
  cases z with
  | false =>
    go_wp2
    go_ret
    exact HP.out _ _ (by simp) (Below.refl _ _)
  | true =>
    go_wp2_with fail
    refine HGR.out.mono ?_
    rintro e1 W1 ⟨rfl, hb1, hr1⟩
    have HB1 := Lib.hid hb1
    have HIN := Lib.hid (HG.out _ W1 (cell_lt2 (hr1 0 (by decide))) hr1)
    clear hb1 hr1
    go_wp2_with fail
    refine HIN.out.mono ?_
    rintro e1 W2 ⟨rfl, hb⟩
    have HB2 := Lib.hid (HB1.out.trans (hb.mono HB1.out.size))
    clear hb HIN
    cases g with
    | true =>
      go_wp2
      go_ret
      exact HP.out _ _ (by simp) HB2.out
    | false =>
      go_wp2_with fail
      refine (HA.out _).mono ?_
      rintro e1 W3 ⟨rfl, hb⟩
      have HB3 := Lib.hid (HB2.out.trans (hb.mono HB2.out.size))
      clear hb
      go_wp2
      go_ret
      exact HP.out _ _ (by simp) HB3.out

set_option maxRecDepth 100000 in
set_option maxHeartbeats 8000000 in
theorem treeWords_walk (s : ByteArray) (hs : s.size ≤ maxLen) (w : World) (hg : SigAt w) : Calls Tryz.prog 3 #[.string s] w (TrT w) := by
  have HK : Hid (∀ W, Below w.heap.size w W → Calls Tryz.prog 6 #[] W (TrT W)) := fun W hb => known_any W (hg.block (hb.block _ hg.lt))
  have HP : Hid (∀ w', Below w.heap.size w w' → TrT w (.returned (.bool true)) w') := fun w' h => ⟨rfl, h⟩
  clear hg
  by_cases hlt : 6000 < s.size
  · have x1 : (6000 : Int) < (s.size : Int) := by omega
    go_enter Tryz.func3, Tryz.ntmps3
    go_wp2_with fail
    refine (HK.out _ (Below.refl _ _)).mono ?_
    rintro e1 W1 ⟨rfl, hb⟩
    have HB := Lib.hid hb
    clear hb
    go_wp2
    go_ret
    exact HP.out _ HB.out
  · have x1 : (s.size : Int) ≤ (6000 : Int) := by omega
    obtain ⟨a, b, c, hA, hR⟩ := arity_both s
    have HA := Lib.hid hA
    have HR := Lib.hid hR
    have HI := Lib.hid (isName_any s (by omega) a b c hA)
    have HJ := Lib.hid (rIsName_any s (by omega) a b c hR)
    generalize (isW s.data.toList && (!c && !(grL.any (· == s.toList)))) = z at *
    have x2 : (a == a) = true := by simp
    have x3 : (b == b) = true := by simp
    have x4 : (c == c) = true := by simp
    have x5 : (z == z) = true := by simp
    clear hA hR
    go_enter Tryz.func3, Tryz.ntmps3
    go_wp2_with fail
    refine (HA.out _).mono ?_
    rintro e1 W1 ⟨rfl, hb⟩
    have HB1 := Lib.hid hb
    clear hb
    go_wp2_with fail
    refine (HR.out _).mono ?_
    rintro e1 W2 ⟨rfl, hb⟩
    have HB2 := Lib.hid (HB1.out.trans (hb.mono HB1.out.size))
    clear hb
    go_wp2_with fail
    refine (HI.out _).mono ?_
    rintro e1 W3 ⟨rfl, hb⟩
    have HB3 := Lib.hid (HB2.out.trans (hb.mono HB2.out.size))
    clear hb
    go_wp2_with fail
    refine (HJ.out _).mono ?_
    rintro e1 W4 ⟨rfl, hb⟩
    have HB4 := Lib.hid (HB3.out.trans (hb.mono HB3.out.size))
    clear hb
    go_wp2_with fail
    refine (HK.out _ HB4.out).mono ?_
    rintro e1 W5 ⟨rfl, hb⟩
    have HB5 := Lib.hid (HB4.out.trans (hb.mono HB4.out.size))
    clear hb
    go_wp2
    go_ret
    exact HP.out _ HB5.out

end Go.Proofs.YtaocbhfehncdcaaGreatDoor
