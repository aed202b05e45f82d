/-
  Spans in all cases; the walk of CharsClasses. No condition.
-/
import Derived.Test.YtdjpjknbbedamaaRs
import Derived.RegionTactic
import Derived.ChangeAlike
namespace Go.Proofs.Ytdjpjknbbedamaa
open Go.RowKit

theorem rspans_no (s : ByteArray) (h : ∀ i, i < 8 → s ≠ clN i) (w : World) : Calls Try.prog 22 #[.string s] w fun e w' => e = .returned (.tuple #[.slice none 0 0, .int .i64 4]) ∧ Below w.heap.size w w' := by
  have H1 := Lib.hid (fun w => IsClass_no s h w)
  have hb : Hid (Below w.heap.size w w) := Below.refl _ _
  clear h
  go_enter Try.func22, Try.ntmps22
  go_wp2_with fail
  refine (H1.out _).mono ?_
  rintro e w' ⟨rfl, rfl⟩
  go_wp2
  go_ret2
  exact ⟨rfl, hb.out⟩

set_option maxRecDepth 100000 in
theorem rspans_any (w : World) : Calls Try.prog 22 #[.string (clN 7)] w fun e w' => ∃ v, e = .returned (.tuple #[v, .int .i64 0]) ∧ SpRow w.heap.size v (clS 7) w' ∧ Below w.heap.size w w' := by
  have H1 := Lib.hid (fun w => IsClass_at 7 (by decide) w)
  have hb : Hid (∀ o, Below w.heap.size w (w.alloc o)) := fun o => (Below.refl _ _).alloc (Nat.le_refl _) _
  have hs : (clN 7).toList = [97, 110, 121] := by rw [Lib.toList_data]; rfl
  have HOW : Hid ((w.alloc (.cells #[.int .i64 0, .int .i64 55295, .int .i64 57344, .int .i64 1114111] 40)).ownsRow w.heap.size 40 2 (.slice (some ⟨w.heap.size, 0, none⟩) 2 2) 2 (flatS (clS 7))) := by
    refine ⟨rfl, .inr ⟨w.heap.size, 2, #[.int .i64 0, .int .i64 55295, .int .i64 57344, .int .i64 1114111], rfl, Nat.le_refl _, heap_alloc_new w _, Nat.le_refl _, by decide, rfl, rfl⟩⟩
  generalize clN 7 = s at *
  go_enter Try.func22, Try.ntmps22
  go_wp2_with fail
  refine (H1.out _).mono ?_
  rintro e w' ⟨rfl, rfl⟩
  go_wp2
  go_ret2
  exact ⟨_, rfl, ⟨HOW.out, _, _, rfl⟩, hb.out _⟩

theorem rspans_at (i : Nat) (hi : i < 8) (w : World) : Calls Try.prog 22 #[.string (clN i)] w fun e w' => ∃ v, e = .returned (.tuple #[v, .int .i64 0]) ∧ SpRow w.heap.size v (clS i) w' ∧ Below w.heap.size w w' := by
  by_cases h : i < 7
  · exact rspans_ok i h w
  · obtain rfl : i = 7 := by omega
    exact rspans_any w

set_option maxRecDepth 100000 in
set_option maxHeartbeats 4000000 in
theorem classes_go (c : Int) (s : ByteArray) (b : Bool) (x d : Int) (l : List (Nat × Nat)) (hl : l.length ≤ 22) (w : World)
    (H1 : Hid (∀ w, Calls Try.prog 19 #[.int .i64 c, .string s] w (IsP b x w))) (H2 : Hid (∀ w, Calls Try.prog 20 #[.int .i64 c, .string s] w (IsP b x w)))
    (H3 : Hid (∀ w, Calls Try.prog 21 #[.string s] w fun e w' => ∃ v, e = .returned (.tuple #[v, .int .i64 d]) ∧ SpRow w.heap.size v l w' ∧ Below w.heap.size w w'))
    (H4 : Hid (∀ w, Calls Try.prog 22 #[.string s] w fun e w' => ∃ v, e = .returned (.tuple #[v, .int .i64 d]) ∧ SpRow w.heap.size v l w' ∧ Below w.heap.size w w')) :
    Calls Try.prog 5 #[.int .i64 c, .string s] w (KnownPost w) := by
  have HKN := Lib.hid known_any
  have hst : Try.prog.stoodInHeld 40 = false := by kernel_rfl
  go_enter Try.func5, Try.ntmps5
  go_wp2_with fail
  refine (H1.out _).mono ?_
  rintro e w1 ⟨rfl, hb1⟩
  have HB1 := Lib.hid hb1
  clear hb1
  go_wp2_with fail
  refine (H2.out _).mono ?_
  rintro e w2 ⟨rfl, hb2⟩
  have HB2 : Hid (Below w.heap.size w w2) := HB1.out.trans (hb2.mono HB1.out.size)
  clear hb2
  go_wp2_with fail
  refine (H3.out _).mono ?_
  rintro e w3 ⟨v1, rfl, hs1, hb3⟩
  have HB3 : Hid (Below w.heap.size w w3) := HB2.out.trans (hb3.mono HB2.out.size)
  obtain ⟨ao1, cv1, rfl, hc1⟩ := hs1.read
  go_wp2_with fail
  refine (H4.out _).mono ?_
  rintro e w4 ⟨v2, rfl, hs2, hb4⟩
  have HB4 : Hid (Below w.heap.size w w4) := HB3.out.trans (hb4.mono HB3.out.size)
  obtain ⟨ao2, cv2, rfl, hc2⟩ := hs2.read
  have hb34 : Below w3.heap.size w3 w4 := hb4
  have HC1 : Hid (∀ q k (hk : k < l.length), ∃ b, ao1 = some ⟨b, 0, none⟩ ∧ (w4.drewN q).cell? ⟨b, k * 2, none⟩ = some (.int .i64 (l[k].1 : Nat)) ∧ (w4.drewN q).cell? ⟨b, k * 2 + 1, none⟩ = some (.int .i64 (l[k].2 : Nat))) := fun q k hk => hc1 w4 hb34 k hk
  have HC2 : Hid (∀ q k (hk : k < l.length), ∃ b, ao2 = some ⟨b, 0, none⟩ ∧ (w4.drewN q).cell? ⟨b, k * 2, none⟩ = some (.int .i64 (l[k].1 : Nat)) ∧ (w4.drewN q).cell? ⟨b, k * 2 + 1, none⟩ = some (.int .i64 (l[k].2 : Nat))) := fun q k hk => hc2 w4 (Below.refl _ _) k hk
  clear hs1 hs2 hb3 hb4 hc1 hc2 hb34
  go_wp2_with fail
  go_loopw [13] (fun i wr => ∃ k q : Nat, k ≤ l.length ∧ i = .int .i64 k ∧ wr = w4.drewN q) (fun i _ => l.length - (intOf i).toNat)
  case atStart => exact ⟨0, 0, Nat.zero_le _, rfl, rfl⟩
  case round =>
    obtain ⟨k, q, hk, rfl, rfl⟩ := hrel
    by_cases hlt : k < l.length
    · obtain ⟨b1, rfl, x1, y1⟩ := HC1.out q k hlt
      obtain ⟨b2, rfl, x2, y2⟩ := HC2.out q k hlt
      generalize l[k].1 = x at *
      generalize l[k].2 = y at *
      have hk0 : (0 : Int) ≤ (k : Int) := by omega
      have hk1 : (k : Int) < (l.length : Int) := by omega
      generalize hwq : w4.drewN q = wq at *
      have HWQ := Lib.hid hwq
      clear hwq HC1 HC2
      go_wp2_with fail
      go_region
      all_goals
        go_wp2
        go_roundw
        case rel => exact ⟨k + 1, q + 1, by omega, by go_num, by rw [← HWQ.out]; rfl⟩
        case measure => simp [intOf]; omega
    · obtain rfl : k = l.length := by omega
      have HB5 : Hid (Below w.heap.size w (w4.drewN q)) := ⟨HB4.out.os, HB4.out.tape, HB4.out.output, HB4.out.size, HB4.out.block⟩
      generalize w4.drewN q = w5 at *
      go_wp2_with fail
      refine (HKN.out _).mono ?_
      rintro e w6 ⟨rfl, hb6⟩
      have HB6 : Hid (Below w.heap.size w w6) := HB5.out.trans (hb6.mono HB5.out.size)
      clear hb6
      go_wp2
      go_ret
      exact ⟨rfl, HB6.out⟩

theorem charsClasses_walk (c : Int) (_hw : (Lit.int .i64 c).wf = true) (s : ByteArray) (_hs0 : s.size ≤ maxLen) (w : World) : Calls Try.prog 5 #[.int .i64 c, .string s] w (KnownPost w) := by
  clear _hw _hs0
  rcases cl_cases s with ⟨hf, hn⟩ | ⟨i, hi, rfl⟩
  · exact classes_go c s false 4 4 [] (by decide) w (fun w => Is_no c s hf w) (fun w => rIs_no c s hn w)
      (fun w => (spans_miss s hf w).mono fun e w' h => ⟨_, h.1, ⟨World.ownsRow_nil _ _ _ _, none, 0, rfl⟩, h.2⟩) (fun w => (rspans_no s hn w).mono fun e w' h => ⟨_, h.1, ⟨World.ownsRow_nil _ _ _ _, none, 0, rfl⟩, h.2⟩)
  · have h3 := fun w => spans_ok (clN i) (clS i) (clS_len i hi) (clS_ne i hi) (find_at i hi) w
    have h4 := fun w => rspans_at i hi w
    cases hc : isCI c with
    | false => exact classes_go c (clN i) false 1 0 (clS i) (clS_len i hi) w (fun w => Is_arg c i hi hc w) (fun w => rIs_arg c i hi hc w) h3 h4
    | true => exact classes_go c (clN i) (inS (clS i) c) 0 0 (clS i) (clS_len i hi) w (fun w => Is_yes c i hi hc w) (fun w => rIs_yes c i hi hc w) h3 h4

end Go.Proofs.Ytdjpjknbbedamaa
