/-
  A row of parts that a text is put behind; a builder that is emptied. Conditions: rows of at most 1000000 parts. A text with interpolation, as plain mathematics: how far the reading of it has come; what the document's own way gives. No model's run in this text.
-/
import Derived.Test.YtaocbhfehncdcaaGreatDoorXM25
namespace Go.Proofs.YtaocbhfehncdcaaGreatDoor
open Go.RowKit

set_option maxRecDepth 100000 in
set_option maxHeartbeats 4000000 in
theorem reset_any (B b : Nat) (l : List UInt8) (w : World) (h : Bld B b l w) :
    Calls Tryz.prog 44 #[.pointer (some ⟨b, 0, none⟩)] w fun e w' => e = .returned (.tuple #[]) ∧ BldKept B b [] w w' := by
  obtain ⟨hB, p, v, hb⟩ := h.parts
  have hb1 : (w.setCell ⟨b, 0, none⟩ (.pointer none)).heap[b]? = some (.cells #[.pointer none, v] 54 (0, 0)) := heap_setCell_same w b 0 _ _ _ hb
  have hb2 : ((w.setCell ⟨b, 0, none⟩ (.pointer none)).setCell ⟨b, 1, none⟩ (.slice none 0 0)).heap[b]? = some (.cells #[.pointer none, .slice none 0 0] 54 (0, 0)) := heap_setCell_same (w.setCell ⟨b, 0, none⟩ (.pointer none)) b 1 _ _ _ hb1
  have c0 : w.cell? ⟨b, 0, none⟩ = some p := by rw [Lib.cell_of_heap hb]; rfl
  have c1 : (w.setCell ⟨b, 0, none⟩ (.pointer none)).cell? ⟨b, 1, none⟩ = some v := by rw [Lib.cell_of_heap hb1]; rfl
  have f0 : w.frozen? ⟨b, 0, none⟩ = false := Lib.frozen_of_heap hb 0
  have f1 : (w.setCell ⟨b, 0, none⟩ (.pointer none)).frozen? ⟨b, 1, none⟩ = false := Lib.frozen_of_heap hb1 1
  have HP : Hid (BldKept B b [] w ((w.setCell ⟨b, 0, none⟩ (.pointer none)).setCell ⟨b, 1, none⟩ (.slice none 0 0))) :=
    ⟨.inl ⟨hB, .slice none 0 0, hb2, World.ownsRowF_of (World.ownsRow_nil _ _ _ _), by simp [Value.ownBlock]⟩, ((Below.refl _ _).setCell (p := ⟨b, 0, none⟩) hB _).setCell (p := ⟨b, 1, none⟩) hB _, ((Lib.OthersKept.refl _ _ w).setCell ⟨b, 0, none⟩ rfl _).setCell ⟨b, 1, none⟩ rfl _⟩
  clear h hb hb1 hb2
  go_enter Tryz.func44, Tryz.ntmps44
  go_wp2
  go_end0
  exact ⟨rfl, HP.out⟩

/-- What withText leaves: the row, and the text behind it if it is not empty. -/
def WtP (B : Nat) (v : Value) (l : List Nd) (tx : List UInt8) (w : World) (e : Ending) (w' : World) : Prop :=
  ∃ v', e = .returned v' ∧ Rws B v' (flN l tx) w' ∧ Below B w w' ∧ (∀ g, g < w.heap.size → some g ≠ v.ownBlock → w'.heap[g]? = w.heap[g]?) ∧ (v'.ownBlock = v.ownBlock ∨ ∃ g, v'.ownBlock = some g ∧ w.heap.size ≤ g)
theorem bs_some {l : List UInt8} (h : l ≠ []) : (bs l).toList.isEmpty = false := by
  rw [Lib.toList_data, List.isEmpty_eq_false_iff, bs_list]
  exact h
theorem flN_nil (l : List Nd) : flN l [] = l := if_pos rfl
theorem flN_some (l : List Nd) {tx : List UInt8} (h : tx ≠ []) : flN l tx = l ++ [leafN 2 tx] := if_neg h

set_option maxRecDepth 100000 in
set_option maxHeartbeats 4000000 in
theorem withText_any (B : Nat) (v : Value) (l : List Nd) (tx : List UInt8) (w : World) (h : Rws B v l w) (hB : B ≤ w.heap.size) (hl : l.length ≤ 1000000) :
    Calls Tryz.prog 42 #[v, .string (bs tx)] w (WtP B v l tx w) := by
  obtain ⟨i0, hi, hz0, hz1, hz2⟩ := info_parts infoR
  obtain ⟨va, vc, rfl, _⟩ := h.form
  by_cases htx : tx = []
  · subst htx
    have HP : Hid (WtP B (.slice va l.length vc) l [] w (.returned (.slice va l.length vc)) w) := ⟨_, rfl, by rw [flN_nil]; exact h, Below.refl _ _, fun _ _ _ => rfl, .inl rfl⟩
    have he : (bs ([] : List UInt8)) = ⟨#[]⟩ := rfl
    rw [he]
    clear h
    go_enter Tryz.func42, Tryz.ntmps42
    go_wp2
    go_ret
    exact HP.out
  · have he := bs_some htx
    obtain ⟨xs, hown, hnc⟩ := h.ex
    have HP : Hid (∀ v' w4, w4.ownsRow B 28 5 v' (l.length + 1) (xs ++ [.int .i64 2, .string (bs tx), .string ⟨#[]⟩, .int .i64 0, .slice none 0 0]) → (w.alloc (.cells #[.int .i64 2, .string (bs tx), .string ⟨#[]⟩, .int .i64 0, .slice none 0 0] 28)).grownBy w4 (Value.slice va l.length vc).ownBlock → (v'.ownBlock = (Value.slice va l.length vc).ownBlock ∨ v'.ownBlock = some (w.alloc (.cells #[.int .i64 2, .string (bs tx), .string ⟨#[]⟩, .int .i64 0, .slice none 0 0] 28)).heap.size) → WtP B (.slice va l.length vc) l tx w (.returned v') w4) := fun v' w4 h1 h2 h3 => by
      have hg : ∀ g, g < w.heap.size → some g ≠ (Value.slice va l.length vc).ownBlock → w4.heap[g]? = w.heap[g]? := fun g h5 h6 => (h2.block g (by simp; omega) h6).trans (Lib.alloc_old w _ g h5)
      refine ⟨v', rfl, ?_, ?_, hg, ?_⟩
      · rw [flN_some l htx]
        exact rws_put hown.1 hnc .none hg h3 (by simp) h1
      · exact ((Below.refl _ _).alloc hB _).grown h2 (by simp; omega) fun g hgg => (hown.lt g hgg).1
      · exact h3.imp id fun h => ⟨_, h, by simp⟩
    clear htx h
    have HOWN := Lib.hid hown
    clear hnc
    generalize bs tx = s at *
    go_enter Tryz.func42, Tryz.ntmps42
    go_wp2_with (at_builtin; refine wpList_append_own_at _ rfl _ _ 26 rfl B 28 i0 (.agg #[.int .i64 0, .string ⟨#[]⟩, .string ⟨#[]⟩, .int .i64 0, .slice none 0 0]) 5 72 Tryz.underlying26 hi hz0 hz1 hz2 rfl (by decide) _ _ _ rfl (hown.alloc _) ⟨w.heap.size, 0, none⟩ 1 1 [.int .i64 2, .string s, .string ⟨#[]⟩, .int .i64 0, .slice none 0 0] rfl rfl (new5 _ _ _ _ _ _) (cell5 rfl rfl rfl rfl) (by unfold maxLen; omega) (by omega) (by simp; omega) ?_; intro v' w4 hown' hgrow' hnil' hat')
    have HQ := Lib.hid (HP.out _ _ hown' hgrow' hat')
    obtain ⟨a', c', rfl⟩ : ∃ a' c', v' = .slice a' (l.length + 1) c' := by
      rcases hown'.2 with ⟨_, h0⟩ | ⟨g, cap, cur, h0, _⟩
      · omega
      · exact ⟨_, _, h0⟩
    clear hown hown' hgrow' hnil' hat'
    go_wp2
    go_ret
    exact HQ.out

end Go.Proofs.YtaocbhfehncdcaaGreatDoor

namespace Go.Proofs.YtaocbhfehncdcaaGreatDoor
open Go.RowKit

theorem hxt_le : ∀ (n : Nat) (t : List UInt8), (hxt n t).length ≤ t.length
  | 0, t => Nat.zero_le _
  | n + 1, [] => Nat.zero_le _
  | n + 1, b :: t => by
    have := hxt_le n t
    show (if isHx b = true then b :: hxt n t else []).length ≤ _
    split
    · simp only [List.length_cons]
      omega
    · exact Nat.zero_le _
theorem brc_len {u r : List UInt8} {c : Nat} (h : brc u = some (c, r)) : u.length = (hxt 6 u).length + 1 + r.length ∧ isC c = true := by
  refine ⟨?_, (brc_shorter h).2⟩
  unfold brc at h
  split at h
  · cases h
  · split at h
    · rename_i b t hd
      split at h
      · injection h with h
        injection h with _ h
        have h1 := congrArg List.length hd
        rw [List.length_drop, List.length_cons, h] at h1
        have := hxt_le 6 u
        omega
      · cases h
    · cases h
theorem nbN_size {l : List UInt8} {x : Nat × Nat} (h : nbN l = some x) : x.2 ≤ l.length ∧ isC x.1 = true := by
  unfold nbN at h
  split at h
  · split at h
    · split at h
      · rename_i u _ y hy
        injection h with h
        rw [← h]
        have h1 := brc_len (c := y.1) (r := y.2) hy
        refine ⟨?_, h1.2⟩
        have h2 := h1.1
        show (hxt 6 _).length + 3 ≤ _
        simp only [List.length_cons]
        omega
      · cases h
    · cases h
  · cases h
theorem pcN_le {l : List UInt8} (h : l ≠ []) : (pcN l).2 ≤ l.length := by
  unfold pcN
  split
  · exact absurd rfl h
  · exact Nat.le_refl _
  · rename_i b c r
    split
    · split
      · simp
      · split
        · simp
        · split
          · rename_i x hx
            have := (nbN_size hx).1
            show 1 + x.2 ≤ _
            simp only [List.length_cons] at this ⊢
            omega
          · simp
    · simp
theorem pcN_len (l : List UInt8) : (pcN l).1.length ≤ 4 := by
  unfold pcN
  split
  · simp
  · simp
  · split
    · split
      · simp
      · split
        · simp
        · split
          · exact (en_length _).2
          · simp
    · simp
theorem brN_le {l : List UInt8} {x : List UInt8 × Nat} (h : brN l = some x) : x.2 ≤ l.length := by
  unfold brN at h
  split at h
  · rename_i b r
    split at h
    · rename_i hc
      injection h with h
      rw [← h]
      have h3 : wd r < r.length := (List.getElem?_eq_some_iff.1 hc.2.2).1
      show wd r + 2 ≤ r.length + 1
      omega
    · cases h
  · cases h
theorem plN_le {l : List UInt8} {x : Nd × Nat} (h : plN l = some x) : x.2 ≤ l.length := by
  unfold plN at h
  split at h
  · rename_i b r
    split at h
    · unfold plI at h
      split at h
      · split at h
        · rename_i hc
          injection h with h
          rw [← h]
          have h3 := (List.getElem?_eq_some_iff.1 hc.2).1
          rw [List.length_drop] at h3
          show wd (r.drop 1) + 3 ≤ r.length + 1
          omega
        · cases h
      · split at h
        · rename_i hc
          injection h with h
          rw [← h]
          have h3 := (List.getElem?_eq_some_iff.1 hc.1).1
          show (r.takeWhile dgB).length + 2 ≤ r.length + 1
          omega
        · cases h
    · cases h
  · cases h
theorem elN_le (d : List UInt8) (n : Nat) (l : List UInt8) : (elN d n l).2 ≤ n + l.length := by
  unfold elN
  split
  · rename_i k hk
    have := brN_le hk
    show n + k.2 ≤ _
    omega
  · split
    · rename_i p hp
      have := plN_le hp
      show n + p.2 ≤ _
      omega
    · exact Nat.le_add_right _ _
theorem vrN_le {l : List UInt8} {x : Nd × Nat} (h : vrN l = some x) : x.2 ≤ l.length := by
  unfold vrN at h
  split at h
  · cases h
  · rename_i b r
    split at h
    · split at h
      · rename_i y hy
        injection h with h
        rw [← h]
        have := (nmN_size hy).2
        show 1 + y.2 ≤ r.length + 1
        omega
      · cases h
    · split at h
      · split at h
        · rename_i y hy
          injection h with h
          rw [← h]
          have h1 := (nmN_size hy).2
          have h2 := elN_le y.1 (1 + y.2) (r.drop y.2)
          rw [List.length_drop] at h2
          show (elN _ _ _).2 ≤ r.length + 1
          omega
        · split at h
          · split at h
            · injection h with h
              rw [← h]
              simp
            · cases h
          · cases h
      · cases h
def opN : Nd → Int
  | .mk o _ _ _ _ => o
theorem elN_op (d : List UInt8) (n : Nat) (l : List UInt8) : opN (elN d n l).1 ≠ 2 := by
  unfold elN
  split
  · simp [opN, pairN]
  · split
    · simp [opN, pairN]
    · simp [opN, leafN]
theorem vrN_op {l : List UInt8} {x : Nd × Nat} (h : vrN l = some x) : opN x.1 ≠ 2 := by
  unfold vrN at h
  split at h
  · cases h
  · split at h
    · split at h
      · injection h with h
        rw [← h]
        simp [opN, leafN]
      · cases h
    · split at h
      · split at h
        · injection h with h
          rw [← h]
          exact elN_op _ _ _
        · split at h
          · split at h
            · injection h with h
              rw [← h]
              simp [opN, leafN]
            · cases h
          · cases h
      · cases h
theorem flN_len (ps : List Nd) (tx : List UInt8) : (flN ps tx).length ≤ ps.length + 1 := by
  unfold flN
  split <;> simp
/-- How far the reading has come: the parts, the text behind them, and what is left. -/
structure Gs (L : List UInt8) (ps : List Nd) (tx r : List UInt8) : Prop where
  eq : ∃ k, r.length ≤ k ∧ goN k ps tx r = goN L.length [] [] L
  btx : tx.length + 4 * r.length ≤ 4 * L.length
  bps : ps.length + 2 * r.length ≤ 2 * L.length
  last : ps = [] ∨ ∃ q p, ps = q ++ [p] ∧ opN p ≠ 2
theorem Gs.start (L : List UInt8) : Gs L [] [] L := ⟨⟨_, Nat.le_refl _, rfl⟩, by simp, by simp, .inl rfl⟩
theorem Gs.var {L : List UInt8} {ps : List Nd} {tx r : List UInt8} {x : Nd × Nat} (h : Gs L ps tx r) (hv : vrN r = some x) : Gs L (flN ps tx ++ [x.1]) [] (r.drop x.2) ∧ (r.drop x.2).length < r.length := by
  obtain ⟨k, hk, he⟩ := h.eq
  obtain ⟨j, h1, _, h3⟩ := goN_var (ps := ps) (tx := tx) hk hv
  have h4 := vrN_pos hv
  have h5 := vrN_le hv
  have h6 := h.btx
  have h7 := h.bps
  have h8 := flN_len ps tx
  refine ⟨⟨⟨j, h1, h3.symm.trans he⟩, ?_, ?_, .inr ⟨_, _, rfl, vrN_op hv⟩⟩, ?_⟩
  · rw [List.length_drop]
    simp only [List.length_nil]
    omega
  · rw [List.length_drop, List.length_append]
    simp only [List.length_cons, List.length_nil]
    omega
  · rw [List.length_drop]
    omega
theorem Gs.text {L : List UInt8} {ps : List Nd} {tx r : List UInt8} (h : Gs L ps tx r) (h0 : r ≠ []) (hv : vrN r = none) : Gs L ps (tx ++ (pcN r).1) (r.drop (pcN r).2) ∧ (r.drop (pcN r).2).length < r.length := by
  obtain ⟨k, hk, he⟩ := h.eq
  obtain ⟨j, h1, _, h3⟩ := goN_text (ps := ps) (tx := tx) h0 hk hv
  have h4 := pcN_pos r
  have h5 := pcN_le h0
  have h6 := h.btx
  have h7 := h.bps
  have h8 := pcN_len r
  refine ⟨⟨⟨j, h1, h3.symm.trans he⟩, ?_, ?_, h.last⟩, ?_⟩
  · rw [List.length_drop, List.length_append]
    omega
  · rw [List.length_drop]
    omega
  · rw [List.length_drop]
    omega
theorem Gs.done {L : List UInt8} {ps : List Nd} {tx : List UInt8} (h : Gs L ps tx []) : (ps = [] → itN L = leafN 2 tx) ∧ (ps ≠ [] → itN L = .mk 3 ⟨#[]⟩ ⟨#[]⟩ 0 (flN ps tx)) := by
  obtain ⟨k, _, he⟩ := h.eq
  rw [goN_end] at he
  unfold itN
  rw [← he]
  refine ⟨fun h => by rw [h], fun h => ?_⟩
  match ps, h with
  | p :: q, _ => rfl
/-- The document's way: all parts are in one row, and a lone text is itself. -/
theorem Gs.ended {L : List UInt8} {ps : List Nd} {tx : List UInt8} (h : Gs L ps tx []) :
    (flN ps tx = [] → itN L = leafN 2 []) ∧ (∀ p, flN ps tx = [p] → opN p = 2 → itN L = p) ∧ (∀ p q, flN ps tx = p :: q → (q = [] → opN p ≠ 2) → itN L = .mk 3 ⟨#[]⟩ ⟨#[]⟩ 0 (flN ps tx)) := by
  obtain ⟨d1, d2⟩ := h.done
  by_cases hps : ps = []
  · subst hps
    have d := d1 rfl
    by_cases htx : tx = []
    · subst htx
      refine ⟨fun _ => d, fun p h1 => ?_, fun p q h1 => ?_⟩ <;> simp [flN] at h1
    · have hf : flN [] tx = [leafN 2 tx] := by
        unfold flN
        rw [if_neg htx]
        rfl
      rw [hf]
      refine ⟨fun h1 => by simp at h1, fun p h1 _ => ?_, fun p q h1 h2 => ?_⟩
      · injection h1 with h1 _
        rw [← h1]
        exact d
      · injection h1 with h1 h3
        exact absurd (by rw [← h1]; rfl) (h2 h3.symm)
  · have d := d2 hps
    refine ⟨fun h1 => ?_, fun p h1 h2 => ?_, fun p q _ _ => d⟩
    · unfold flN at h1
      split at h1
      · exact absurd h1 hps
      · simp at h1
    · exfalso
      unfold flN at h1
      split at h1
      · rcases h.last with h3 | ⟨q, p', h3, h4⟩
        · exact hps h3
        · rw [h1] at h3
          match q, h3 with
          | [], h3 =>
            injection h3 with h3 _
            exact h4 (by rw [← h3]; exact h2)
          | a :: q, h3 =>
            injection h3 with _ h3
            simp at h3
      · match ps, hps, h1 with
        | a :: m, _, h1 =>
          injection h1 with _ h1
          simp at h1
/-! ### The document's place -/
theorem plN_brN {l : List UInt8} {x : Nd × Nat} (h : plN l = some x) : brN l = none := by
  match l, h with
  | b :: r, h =>
    have hb : b = 91 := by
      unfold plN at h
      dsimp only at h
      split at h
      · assumption
      · cases h
    exact if_neg fun h2 => absurd (hb.symm.trans h2.1) (by decide)
theorem plN_short {l : List UInt8} (h : l.length < 3) : plN l = none := by
  match l, h with
  | [], _ => rfl
  | [b], _ =>
    unfold plN
    dsimp only
    split
    · rfl
    · rfl
  | [b, c], _ =>
    unfold plN
    dsimp only
    split
    · unfold plI
      split
      · exact if_neg fun h => h.1 rfl
      · refine if_neg fun h => ?_
        cases hc : dgB c
        · simp [hc] at h
          exact absurd h.2 (by unfold isNu; simp)
        · simp [hc] at h
    · rfl
theorem plI_num {r : List UInt8} (h1 : r[(r.takeWhile dgB).length]? = some 93) (h2 : isNu (r.takeWhile dgB) = true) : plI r = some (numN (nuV 0 (r.takeWhile dgB)), (r.takeWhile dgB).length + 2) := by
  unfold plI
  rw [if_neg ?_, if_pos ⟨h1, h2⟩]
  intro h0
  match r, h0 with
  | b :: t, h0 =>
    obtain rfl : b = 36 := by simpa using h0
    simp [show dgB 36 = false from by decide, isNu] at h2
theorem plI_none {r : List UInt8} (h : ¬ (r[(r.takeWhile dgB).length]? = some 93 ∧ isNu (r.takeWhile dgB) = true)) (h0 : r[0]? ≠ some 36) : plI r = none := by
  unfold plI
  rw [if_neg h0, if_neg h]
theorem plI_var (u : List UInt8) : plI (36 :: u) = if wd u ≠ 0 ∧ u[wd u]? = some 93 then some (leafN 5 (u.take (wd u)), wd u + 3) else none := by
  unfold plI
  rw [if_pos (show (36 :: u)[0]? = some 36 from rfl)]
  rfl

end Go.Proofs.YtaocbhfehncdcaaGreatDoor
