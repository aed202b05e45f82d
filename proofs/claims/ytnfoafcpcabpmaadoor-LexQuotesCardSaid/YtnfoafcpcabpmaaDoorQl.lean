/-
  LexQuotes: a quoted text is read as what it was; the law's walk. Conditions: the row of signs holds what the program's text lays.
-/
import Derived.Test.YtnfoafcpcabpmaaDoorQt
import Derived.Test.YtnfoafcpcabpmaaDoorQv
import Derived.Test.YtnfoafcpcabpmaaDoorWd
namespace Go.Proofs.YtnfoafcpcabpmaaDoor
open Go.RowKit

/-- Where neither a blank nor a comment begins no gap is. -/
theorem gap_at (s : ByteArray) (a : Nat) (h : ∀ hlt : a < s.size, blB s[a] = false ∧ s[a] ≠ 35) : gap s [] a = a := by
  have h1 : blkP s a = false := by
    unfold blkP
    by_cases hlt : a < s.size
    · rw [by0_at s a hlt, (h hlt).1]
      simp
    · simp [hlt]
  have h2 : gapP s a = false := by
    unfold gapP
    by_cases hlt : a < s.size
    · rw [by0_at s a hlt]
      simp
      exact fun _ => (h hlt).2
    · simp [hlt]
  have e1 : blk s [] a = a := it_off h1
  show it (gapP s) (gapF s []) s.size (blk s [] a) = a
  rw [e1]
  exact it_off h2
theorem fgN_all : ∀ l : List UInt8, (∀ b ∈ l, fgB b = false) → fgN l = l.length
  | [], _ => rfl
  | b :: t, h => by
    rw [fgN_no (h b (by simp)), fgN_all t (fun x hx => h x (by simp [hx]))]
    rfl
theorem fgN_each : ∀ l : List UInt8, ¬ fgN l < l.length → ∀ b ∈ l, fgB b = false
  | [], _, b, hb => by cases hb
  | x :: t, h, b, hb => by
    cases hx : fgB x with
    | true =>
      rw [fgN_yes hx] at h
      simp at h
    | false =>
      rw [fgN_no hx] at h
      rcases List.mem_cons.1 hb with rfl | hb
      · exact hx
      · exact fgN_each t (by simp only [List.length_cons] at h; omega) b hb
theorem esc_own (l : List UInt8) (h : ∀ b ∈ l, fgB b = false) : ∀ b ∈ escL qB l, fgB b = false := by
  induction l with
  | nil => intro b hb; cases hb
  | cons x t ih =>
    intro b hb
    rw [escL_one] at hb
    rcases List.mem_append.1 hb with hb | hb
    · by_cases hq : qB x = true
      · rw [if_pos hq] at hb
        simp only [List.mem_cons, List.not_mem_nil, or_false] at hb
        rcases hb with rfl | rfl
        · decide
        · exact h b (by simp)
      · rw [if_neg hq] at hb
        simp only [List.mem_cons, List.not_mem_nil, or_false] at hb
        subst hb
        exact h b (by simp)
    · exact ih (fun y hy => h y (by simp [hy])) b hb
/-- A quoted text. -/
def qtT (l : List UInt8) : ByteArray := bs (39 :: (escL qB l ++ [39]))
theorem qtT_list (l : List UInt8) : (qtT l).data.toList = 39 :: (escL qB l ++ [39]) := bs_list _
theorem qtT_size (l : List UInt8) : (qtT l).size = (escL qB l).length + 2 := by
  show (bs _).size = _
  rw [bs_size]
  simp
theorem qtT_first (l : List UInt8) (h : 0 < (qtT l).size) : (qtT l)[0] = 39 := (at_drop (qtT l) 0 39 (escL qB l ++ [39]) (by rw [qtT_list]; rfl)).2.1
theorem qtT_own (l : List UInt8) (h : ∀ b ∈ l, fgB b = false) : fgN (qtT l).data.toList = (qtT l).size := by
  rw [qtT_list, fgN_all _ (fun b hb => by
    rcases List.mem_cons.1 hb with rfl | hb
    · decide
    · rcases List.mem_append.1 hb with hb | hb
      · exact esc_own l h b hb
      · simp only [List.mem_cons, List.not_mem_nil, or_false] at hb
        subst hb
        decide), qtT_size]
  simp
def planQ (l : List UInt8) : Plan where
  s := qtT l
  k := 1
  A := fun | 0 => 0 | _ => (qtT l).size
  Z := fun _ => (qtT l).size
  T := fun | 0 => true | _ => false
  R := fun
    | 0 => ⟨[], 0, [], [], []⟩
    | _ => ⟨[] ++ tokC 4 0 l, 0 + 1, [] ++ [true], [], []⟩
  tok := fun _ => tokA 4 l
theorem lt1 {P : Nat → Prop} (h0 : P 0) : ∀ i, i < 1 → P i
  | 0, _ => h0
  | i + 1, h => absurd h (by omega)
theorem qkd_quote (t : List UInt8) : qkd (39 :: t) = (4, 0) := rfl
theorem planQ_ok (l : List UInt8) (hs : l.length ≤ 4096) : (planQ l).Ok where
  small := by
    show (qtT l).size ≤ 100000
    have := esc_len qB l
    rw [qtT_size]
    omega
  gap0 := gap_at (qtT l) 0 fun h => by
    rw [qtT_first l h]
    decide
  gaps := lt1 (gap_at (qtT l) (qtT l).size fun h => absurd h (Nat.lt_irrefl _))
  lt := lt1 ⟨by show 0 < (qtT l).size; rw [qtT_size]; omega, Nat.le_refl _, Nat.le_refl _, by show 0 < (qtT l).size; rw [qtT_size]; omega⟩
  fin := rfl
  ml := fun | 0 => rfl | _ + 1 => rfl
  read := lt1 (fun W0 B e tk tm op M w h _ _ => by
    have hsz : (qtT l).size ≤ 100000 := by
      have := esc_len qB l
      rw [qtT_size]
      omega
    have hpos : 0 < (qtT l).size := by rw [qtT_size]; omega
    have hpt : pt (qtT l) [] 39 1 1 [] = some ((qtT l).size, escL qB l) := by
      have := pt_esc (qtT l) l 1 [] (by rw [qtT_list]; rfl)
      rwa [List.nil_append] at this
    have hol : (escL qB l).length ≤ 100000 := by
      have := esc_len qB l
      omega
    have key := read_quote W0 B ⟨qtT l, 0, 0, e, true, tk, tm, op, M⟩ ⟨qtT l, (qtT l).size, 0, e, true, tk, tm, op, M⟩ _ w h rfl 4 (bs (rwL (plG 39) (escL qB l))) ⟨#[]⟩ ⟨#[]⟩ (h.ltSize.withA (qtT l).size)
      (fun w' h' => quote_str W0 B _ _ w' h' hsz hpos (gd_nil _) 0 1 (qtT l).size 39 (escL qB l) (by show qkd ((qtT l).data.toList.drop 0) = _; rw [qtT_list]; exact qkd_quote _) hpos (qtT_first l hpos) rfl hpt (Nat.le_refl _) hol)
    rw [rw_esc] at key
    exact key)
  add := lt1 (fun W0 B e tk tm op M w h => add_tok W0 B _ _ w h 4 l (by decide) (by show (0 : Nat) ≤ 100000; omega) rfl)
theorem lex_quoted (l : List UInt8) (hs : l.length ≤ 4096) (h4 : (qtT l).size ≤ 4000) (hf : ∀ b ∈ l, fgB b = false) (w : World) (hg : SigAt w) :
    Calls Tryd.prog 9 #[.string (qtT l)] w (KnP 1 0 4 (bs l) w) :=
  (lex_plan (planQ l) (planQ_ok l hs) h4 (by show (1 : Nat) ≤ 1000; omega) rfl rfl (qtT_own l hf) w hg).mono fun e w' h => knp (planQ l) 1 0 4 _ w rfl (by decide) rfl rfl e w' h

set_option maxRecDepth 100000 in
set_option maxHeartbeats 4000000 in
theorem lexQuotes_walk (s : ByteArray) (hs : s.size ≤ maxLen) (w : World) (hg : SigAt w) : Calls Tryd.prog 5 #[.string s] w (TrP w) := by
  have HO := Lib.hid (over_any s w hs)
  have HP : Hid (∀ w', Below w.heap.size w w' → TrP w (.returned (.bool true)) w') := fun w' h => ⟨rfl, h⟩
  have HK : Hid (∀ w', Below w.heap.size w w' → Calls Tryd.prog 8 #[] w' (TrP w')) := fun w' hb => known_any w' (hg.block (hb.block _ hg.lt))
  cases ho : ovB s with
  | true =>
    rw [ho] at HO
    have HK0 := Lib.hid (HK.out w (Below.refl _ _))
    go_enter Tryd.func5, Tryd.ntmps5
    go_wp2_with fail
    refine HO.out.mono ?_
    rintro e1 w1 ⟨rfl, rfl⟩
    go_wp2_with fail
    refine HK0.out.mono ?_
    rintro e1 w2 ⟨rfl, hb⟩
    have HB := Lib.hid hb
    clear hb
    go_wp2
    go_ret
    exact HP.out _ HB.out
  | false =>
    rw [ho] at HO
    have h16 : ¬ 16000 < s.size := of_decide_eq_false ho
    have HQ := Lib.hid (Quote_any s (by omega) w)
    have HR := Lib.hid (fun w' => rQuote_any s (by omega) w')
    have HL : Hid (s.data.toList.length ≤ 4096 → (qtT s.data.toList).size ≤ 4000 → (∀ b ∈ s.data.toList, fgB b = false) → ∀ w', Below w.heap.size w w' → Calls Tryd.prog 9 #[.string (qtT s.data.toList)] w' (KnP 1 0 4 (bs s.data.toList) w')) := fun h1 h2 h3 w' hb => lex_quoted _ h1 h2 h3 w' (hg.block (hb.block _ hg.lt))
    rw [bs_of] at HL
    clear h16 hg hs
    unfold QuP at HQ HR
    have hc : (quR s.data.toList).2 ≠ 0 ∨ (s.data.toList.length ≤ 4096 ∧ (∀ b ∈ s.data.toList, fgB b = false) ∧ quR s.data.toList = (39 :: (escL qB s.data.toList ++ [39]), 0)) := by
      unfold quR
      by_cases h1 : 4096 < s.data.toList.length
      · rw [if_pos h1]
        exact .inl (by decide)
      · rw [if_neg h1]
        by_cases h2 : fgN s.data.toList < s.data.toList.length
        · rw [if_pos h2]
          exact .inl (by decide)
        · rw [if_neg h2]
          exact .inr ⟨by omega, fgN_each _ h2, rfl⟩
    rcases hc with hne | ⟨h1, h3, hq⟩
    · generalize (quR s.data.toList).2 = er at *
      generalize bs (quR s.data.toList).1 = qt at *
      have f0 : (qt.toList != qt.toList) = false := by simp
      have f1 : (er != er) = false := by simp
      have f2 : (er != 0) = true := by rw [bne_iff_ne]; exact hne
      clear hne HL
      go_enter Tryd.func5, Tryd.ntmps5
      go_wp2_with fail
      refine HO.out.mono ?_
      rintro e1 w1 ⟨rfl, rfl⟩
      go_wp2_with fail
      refine HQ.out.mono ?_
      rintro e1 w2 ⟨rfl, hb⟩
      have HB := Lib.hid hb
      clear hb
      go_wp2_with fail
      refine (HR.out _).mono ?_
      rintro e1 w3 ⟨rfl, hb⟩
      have HB3 : Hid (Below w.heap.size w w3) := HB.out.trans (hb.mono HB.out.size)
      clear hb
      go_wp2_with fail
      refine (HK.out _ HB3.out).mono ?_
      rintro e1 w4 ⟨rfl, hb⟩
      have HB4 : Hid (Below w.heap.size w w4) := HB3.out.trans (hb.mono HB3.out.size)
      clear hb
      go_wp2
      go_ret
      exact HP.out _ HB4.out
    · rw [hq] at HQ HR
      dsimp only at HQ HR
      change Hid (Calls _ _ _ _ fun e w' => e = .returned (.tuple #[.string (qtT s.data.toList), .int .i64 0]) ∧ Below w.heap.size w w') at HQ
      change Hid (∀ w', Calls _ _ _ _ fun e w'' => e = .returned (.tuple #[.string (qtT s.data.toList), .int .i64 0]) ∧ Below w'.heap.size w' w'') at HR
      by_cases h4 : (qtT s.data.toList).size ≤ 4000
      · have HL2 := Lib.hid (HL.out h1 h4 h3)
        have h4i : ((qtT s.data.toList).size : Int) ≤ 4000 := by omega
        clear HL hq h1 h3 h4
        generalize qtT s.data.toList = qt at *
        have f0 : (qt.toList != qt.toList) = false := by simp
        have g0 : (s.toList == s.toList) = true := by simp
        go_enter Tryd.func5, Tryd.ntmps5
        go_wp2_with fail
        refine HO.out.mono ?_
        rintro e1 w1 ⟨rfl, rfl⟩
        go_wp2_with fail
        refine HQ.out.mono ?_
        rintro e1 w2 ⟨rfl, hb⟩
        have HB := Lib.hid hb
        clear hb
        go_wp2_with fail
        refine (HR.out _).mono ?_
        rintro e1 w3 ⟨rfl, hb⟩
        have HB3 : Hid (Below w.heap.size w w3) := HB.out.trans (hb.mono HB.out.size)
        clear hb
        go_wp2_with fail
        refine (HL2.out _ HB3.out).mono ?_
        rintro e1 w4 ⟨g, c, rfl, hb, x1, y1, _, _⟩
        have HB4 : Hid (Below w.heap.size w w4) := HB3.out.trans (hb.mono HB3.out.size)
        clear hb
        go_wp2_with fail
        refine (HK.out _ HB4.out).mono ?_
        rintro e1 w5 ⟨rfl, hb⟩
        have HB5 : Hid (Below w.heap.size w w5) := HB4.out.trans (hb.mono HB4.out.size)
        clear hb
        go_wp2
        go_ret
        exact HP.out _ HB5.out
      · have h4i : (4000 : Int) < ((qtT s.data.toList).size : Int) := by omega
        clear HL hq h1 h3 h4
        generalize qtT s.data.toList = qt at *
        have f0 : (qt.toList != qt.toList) = false := by simp
        go_enter Tryd.func5, Tryd.ntmps5
        go_wp2_with fail
        refine HO.out.mono ?_
        rintro e1 w1 ⟨rfl, rfl⟩
        go_wp2_with fail
        refine HQ.out.mono ?_
        rintro e1 w2 ⟨rfl, hb⟩
        have HB := Lib.hid hb
        clear hb
        go_wp2_with fail
        refine (HR.out _).mono ?_
        rintro e1 w3 ⟨rfl, hb⟩
        have HB3 : Hid (Below w.heap.size w w3) := HB.out.trans (hb.mono HB.out.size)
        clear hb
        go_wp2_with fail
        refine (HK.out _ HB3.out).mono ?_
        rintro e1 w4 ⟨rfl, hb⟩
        have HB4 : Hid (Below w.heap.size w w4) := HB3.out.trans (hb.mono HB3.out.size)
        clear hb
        go_wp2
        go_ret
        exact HP.out _ HB4.out

end Go.Proofs.YtnfoafcpcabpmaaDoor
