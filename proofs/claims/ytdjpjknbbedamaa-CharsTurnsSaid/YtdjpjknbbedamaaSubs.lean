/-
  The walk of CharsSubs: chars.Sub and Width, and the document's. No condition.
-/
import Derived.Test.YtdjpjknbbedamaaSr
namespace Go.Proofs.Ytdjpjknbbedamaa
open Go.RowKit

theorem count_eq (s : ByteArray) (L : List Nat) (hC : allC L) (hl : s.data.toList = ens L) : ∀ (n k : Nat), k + n = L.length → ∀ bound, n ≤ bound → Lib.runeCountFrom s bound (ens (L.take k)).length = n := by
  have hP : Parts s.data.toList L [] := ⟨hC, by rw [hl, List.append_nil], .inl rfl⟩
  intro n
  induction n with
  | zero =>
    intro k hk bound _
    refine Lib.runeCountFrom_end s bound _ ?_
    rw [ens_take_all L k (by omega), size_list, hl]
    omega
  | succ n ih =>
    intro k hk bound hb
    obtain ⟨b, rfl⟩ : ∃ b, bound = b + 1 := ⟨bound - 1, by omega⟩
    have hlt : k < L.length := by omega
    rw [Lib.runeCountFrom, if_pos (take_size hP k hlt), dec_at hP k hlt]
    dsimp only
    rw [← ens_step L k hlt, ih (k + 1) (by omega) b (by omega)]
    omega
theorem count_all (s : ByteArray) (L : List Nat) (hC : allC L) (hl : s.data.toList = ens L) : Lib.runeCount s = L.length := by
  have h1 := (ens_length_le L).1
  exact count_eq s L hC hl L.length 0 (by omega) s.size (by rw [size_list, hl]; exact h1)

/-- A number and an error. -/
def NumE (n x : Int) (w : World) (e : Ending) (w' : World) : Prop := e = .returned (.tuple #[.int .i64 n, .int .i64 x]) ∧ Below w.heap.size w w'

theorem Width_bad (s : ByteArray) (hb : ckE s ≠ 0) (w : World) : Calls Try.prog 35 #[.string s] w (NumE 0 (ckE s) w) := by
  have HK := Lib.hid (fun w => check1_any s w)
  have hn : (ckE s != 0) = true := by simpa using hb
  have HP : Hid (∀ w w', Below w.heap.size w w' → NumE 0 (ckE s) w (.returned (.tuple #[.int .i64 0, .int .i64 (ckE s)])) w') := fun w w' h => ⟨rfl, h⟩
  clear hb
  generalize ckE s = x at *
  go_enter Try.func35, Try.ntmps35
  go_wp2_with fail
  refine (HK.out _).mono ?_
  rintro e w' ⟨rfl, hb⟩
  have HB := Lib.hid hb
  clear hb
  go_wp2
  go_ret2
  exact HP.out _ _ HB.out
theorem Width_ok (s : ByteArray) (L : List Nat) (hC : allC L) (hl : s.data.toList = ens L) (hs : s.size ≤ 4096) (w : World) : Calls Try.prog 35 #[.string s] w (NumE L.length 0 w) := by
  have HK : Hid (∀ w, Calls Try.prog 45 #[.slice (some ⟨w.heap.size, 0, none⟩) 1 1] (w.alloc (.cells #[.string s] 9)) (ErrP 0 w)) := fun w => by
    have := check1_any s w
    rwa [ckE_ok hs hC hl] at this
  have HR : Hid (∀ w, Calls Try.prog 67 #[.string s] w fun e w' => e = .returned (.int .i64 L.length) ∧ Below w.heap.size w w') := fun w => by
    refine (Try.utf8_RuneCountInString s w (by omega)).mono ?_
    rintro e w' ⟨rfl, pos, rfl⟩
    rw [count_all s L hC hl]
    exact ⟨rfl, (Below.refl _ _).alloc (Nat.le_refl _) _⟩
  have HP : Hid (∀ w w', Below w.heap.size w w' → NumE L.length 0 w (.returned (.tuple #[.int .i64 L.length, .int .i64 0])) w') := fun w w' h => ⟨rfl, h⟩
  clear hC hl
  generalize L.length = n at *
  go_enter Try.func35, Try.ntmps35
  go_wp2_with fail
  refine (HK.out _).mono ?_
  rintro e w1 ⟨rfl, hb1⟩
  have HB1 := Lib.hid hb1
  clear hb1
  go_wp2_with fail
  refine (HR.out _).mono ?_
  rintro e w2 ⟨rfl, hb2⟩
  have HB2 : Hid (Below w.heap.size w w2) := HB1.out.trans (hb2.mono HB1.out.size)
  clear hb2
  go_wp2
  go_ret2
  exact HP.out _ _ HB2.out
theorem rWidth_bad (s : ByteArray) (hb : ckE s ≠ 0) (w : World) : Calls Try.prog 36 #[.string s] w (NumE 0 (ckE s) w) := by
  have HK := Lib.hid (fun w => Checked_any s w)
  have hn : (ckE s != 0) = true := by simpa using hb
  have HP : Hid (∀ w, NumE 0 (ckE s) w (.returned (.tuple #[.int .i64 0, .int .i64 (ckE s)])) w) := fun w => ⟨rfl, Below.refl _ _⟩
  clear hb
  generalize ckE s = x at *
  go_enter Try.func36, Try.ntmps36
  go_wp2_with fail
  refine (HK.out _).mono ?_
  rintro e w' ⟨rfl, rfl⟩
  go_wp2
  go_ret2
  exact HP.out _
theorem rWidth_ok (s : ByteArray) (L : List Nat) (hC : allC L) (hl : s.data.toList = ens L) (hs : s.size ≤ 4096) (w : World) : Calls Try.prog 36 #[.string s] w (NumE L.length 0 w) := by
  have HK : Hid (∀ w, Calls Try.prog 46 #[.string s] w (ErrS 0 w)) := fun w => by
    have := Checked_any s w
    rwa [ckE_ok hs hC hl] at this
  have HR := Lib.hid (fun w => Runes_any s L hC hl w hs)
  have HP : Hid (∀ w w', Below w.heap.size w w' → NumE L.length 0 w (.returned (.tuple #[.int .i64 L.length, .int .i64 0])) w') := fun w w' h => ⟨rfl, h⟩
  have HUL : Hid ((up L).length = L.length) := up_length L
  clear hC hl
  go_enter Try.func36, Try.ntmps36
  go_wp2_with fail
  refine (HK.out _).mono ?_
  rintro e w' ⟨rfl, rfl⟩
  go_wp2_with fail
  refine (HR.out _).mono ?_
  rintro e w2 ⟨v, rfl, hb2, hr2⟩
  have HB2 := Lib.hid hb2
  obtain ⟨_, ao, cv, rfl⟩ := hr2
  rw [HUL.out]
  clear hb2
  go_wp2
  go_ret2
  exact HP.out _ _ HB2.out

set_option maxHeartbeats 2000000 in
theorem subs_go (s : ByteArray) (fr n : Int) (X : List UInt8) (a b d : Int) (w : World) (hz : ¬ 20000 < s.size)
    (H1 : Hid (∀ w, Calls Try.prog 33 #[.string s, .int .i64 fr, .int .i64 n] w (TxP X a w))) (H2 : Hid (∀ w, Calls Try.prog 34 #[.string s, .int .i64 fr, .int .i64 n] w (TxP X a w)))
    (H3 : Hid (∀ w, Calls Try.prog 35 #[.string s] w (NumE b d w))) (H4 : Hid (∀ w, Calls Try.prog 36 #[.string s] w (NumE b d w))) :
    Calls Try.prog 8 #[.string s, .int .i64 fr, .int .i64 n] w (KnownPost w) := by
  have HKN := Lib.hid known_any
  go_enter Try.func8, Try.ntmps8
  go_wp2_with fail
  refine (H1.out _).mono ?_
  rintro e w1 ⟨rfl, hb1⟩
  have HB1 := Lib.hid hb1
  clear hb1
  go_wp2_with fail
  refine (H2.out _).mono ?_
  rintro e w2 ⟨rfl, hb2⟩
  have HB2 : Hid (Below w.heap.size w w2) := HB1.out.trans (hb2.mono HB1.out.size)
  clear hb2
  go_wp2_with fail
  refine (H3.out _).mono ?_
  rintro e w3 ⟨rfl, hb3⟩
  have HB3 : Hid (Below w.heap.size w w3) := HB2.out.trans (hb3.mono HB2.out.size)
  clear hb3
  go_wp2_with fail
  refine (H4.out _).mono ?_
  rintro e w4 ⟨rfl, hb4⟩
  have HB4 : Hid (Below w.heap.size w w4) := HB3.out.trans (hb4.mono HB3.out.size)
  clear hb4
  generalize bs X = x at *
  go_wp2_with fail
  refine (HKN.out _).mono ?_
  rintro e w6 ⟨rfl, hb6⟩
  have HB6 : Hid (Below w.heap.size w w6) := HB4.out.trans (hb6.mono HB4.out.size)
  clear hb6
  go_wp2
  go_ret
  exact ⟨rfl, HB6.out⟩

theorem wf_bd {n : Int} (h : (Lit.int .i64 n).wf = true) : -9223372036854775808 ≤ n ∧ n ≤ 9223372036854775807 := by
  simp only [Lit.wf, Bool.and_eq_true, decide_eq_true_eq] at h
  have h1 : IntKind.i64.min = -9223372036854775808 := by decide
  have h2 : IntKind.i64.max = 9223372036854775807 := by decide
  omega

theorem charsSubs_walk (s : ByteArray) (_hs0 : s.size ≤ maxLen) (fr : Int) (hf : (Lit.int .i64 fr).wf = true) (n : Int) (hn : (Lit.int .i64 n).wf = true) (w : World) : Calls Try.prog 8 #[.string s, .int .i64 fr, .int .i64 n] w (KnownPost w) := by
  clear _hs0
  by_cases hz : 20000 < s.size
  · have HKN := Lib.hid known_any
    clear hf hn
    go_enter Try.func8, Try.ntmps8
    go_wp2_with fail
    refine (HKN.out _).mono ?_
    rintro e w3 ⟨rfl, hb3⟩
    have HB3 := Lib.hid hb3
    clear hb3
    go_wp2
    go_ret
    exact ⟨rfl, HB3.out⟩
  · obtain ⟨f0, f1⟩ : -9223372036854775808 ≤ fr ∧ fr ≤ 9223372036854775807 := by
      exact wf_bd hf
    obtain ⟨n0, n1⟩ : -9223372036854775808 ≤ n ∧ n ≤ 9223372036854775807 := by
      exact wf_bd hn
    rcases ckE_cases s with ⟨hck, hs4, L, hC, hl⟩ | ⟨hck, hx⟩
    · rcases sub_cases L.length fr n with ho | ⟨f, m, hI⟩
      · exact subs_go s fr n [] 1 L.length 0 w hz (fun w => Sub_out s L hC hl hs4 fr n f0 f1 ho w) (fun w => rSub_out s L hC hl hs4 fr n ho w) (fun w => Width_ok s L hC hl hs4 w) (fun w => rWidth_ok s L hC hl hs4 w)
      · exact subs_go s fr n (ens ((L.drop f).take m)) 0 L.length 0 w hz (fun w => Sub_in s L hC hl hs4 fr n f0 f1 n0 n1 f m hI w) (fun w => rSub_in s L hC hl hs4 fr n n0 n1 f m hI w) (fun w => Width_ok s L hC hl hs4 w) (fun w => rWidth_ok s L hC hl hs4 w)
    · exact subs_go s fr n [] (ckE s) 0 (ckE s) w hz (fun w => Sub_bad s hck fr n w) (fun w => rSub_bad s hck fr n w) (fun w => Width_bad s hck w) (fun w => rWidth_bad s hck w)

end Go.Proofs.Ytdjpjknbbedamaa
