/-
  settle of the program's heap. Conditions: at most 100 cells; a heap's size (phi) below 2^20.
-/
import Derived.Test.YtpedaompcjaahaaIa
namespace Go.Proofs.Ytpedaompcjaahaa
open Go.RowKit

theorem untold_congr {a b : Hp} (hl : a.cs.length = b.cs.length) (ht : ∀ j, (cl a.cs j).td = (cl b.cs j).td) : untold a = untold b := by
  have h : ∀ c : List Cl, c.countP (fun c => !c.td) = (c.map (fun c => c.td)).countP (fun t => !t) := fun c => by
    rw [List.countP_map]
    rfl
  unfold untold
  rw [h, h]
  congr 1
  apply List.ext_getElem
  · simp [hl]
  · intro i h1 h2
    simp at h1 h2
    have := ht i
    unfold cl at this
    rw [List.getElem?_eq_getElem h1, List.getElem?_eq_getElem h2] at this
    simpa using this
theorem drop_cs (h : Hp) (n : Nat) : (dropF h n).cs = setR h.cs n ((cl h.cs n).rt - 1) := by
  unfold dropF
  split <;> rfl
theorem untold_drop (h : Hp) (n : Nat) (hn : n < h.cs.length) : untold (dropF h n) = untold h := by
  refine untold_congr (by rw [drop_cs, setR_length]) fun j => ?_
  rw [drop_cs]
  unfold setR
  rw [cl_set _ _ _ _ hn]
  split
  · rename_i e
    rw [e]
  · rfl
theorem untold_end (h : Hp) (n : Nat) (hn : n < h.cs.length) : untold (endF h n) = untold h := untold_congr (end_all hn).2.2.1 fun j => ((end_all hn).2.2.2 j).2
theorem untold_tell (cs : List Cl) (ns ns' : List Nat) (n : Nat) (hn : n < cs.length) (ht : (cl cs n).td = false) : untold ⟨tellF cs n, ns⟩ + 1 = untold ⟨cs, ns'⟩ := by
  have := countP_set (fun c : Cl => !c.td) cs n { cl cs n with td := true, rt := (cl cs n).rt + 1 } ⟨[], false, false, false, 0⟩ hn
  have e : cs[n]?.getD ⟨[], false, false, false, 0⟩ = cl cs n := rfl
  rw [e, ht] at this
  simp at this
  exact this
structure NxOk (h : Hp) (r : Hp × Option Nat) : Prop where
  good : Good r.1
  phi : phi r.1 ≤ phi h
  len : r.1.cs.length = h.cs.length
  nothing : r.2 = none → untold r.1 = untold h
  cell : ∀ n, r.2 = some n → n < r.1.cs.length ∧ (cl r.1.cs n).en = false ∧ 0 < (cl r.1.cs n).rt ∧ untold r.1 + 1 = untold h
theorem nextF_ok : ∀ (f : Nat) (h : Hp), Good h → NxOk h (nextF f h)
  | 0, h, hG => ⟨hG, Nat.le_refl _, rfl, fun _ => rfl, fun n e => (by cases e)⟩
  | f + 1, ⟨cs, []⟩, hG => ⟨hG, Nat.le_refl _, rfl, fun _ => rfl, fun n e => (by cases e)⟩
  | f + 1, ⟨cs, n :: ns⟩, hG => by
    have hn : n < cs.length := hG.told n (by simp)
    have hph := phi_less cs n ns
    by_cases hA : 0 < cnt cs n ∨ (cl cs n).en = true
    · rw [nextF_skip f cs n ns hA]
      have := nextF_ok f ⟨cs, ns⟩ hG.less
      exact ⟨this.good, by have := this.phi; omega, this.len, this.nothing, this.cell⟩
    · have he : (cl cs n).en = false := by
        cases e : (cl cs n).en
        · rfl
        · exact absurd (Or.inr e) hA
      by_cases hB : (cl cs n).wt = true ∧ (cl cs n).td = false
      · rw [nextF_tell f cs n ns hA hB]
        refine ⟨hG.less.tell hn he, ?_, tellF_length cs n, fun e => (by cases e), fun m e => ?_⟩
        · have := phi_tell ⟨cs, ns⟩ n hn
          dsimp only at this ⊢
          omega
        · have e' : n = m := by simpa using e
          subst e'
          have hc : cl (tellF cs n) n = { cl cs n with td := true, rt := (cl cs n).rt + 1 } := by
            unfold tellF
            rw [cl_set _ _ _ _ hn, if_pos rfl]
          refine ⟨by dsimp only; rw [tellF_length]; exact hn, ?_, ?_, untold_tell cs ns (n :: ns) n hn hB.2⟩
          · dsimp only
            rw [hc]
            exact he
          · dsimp only
            rw [hc]
            exact Nat.succ_pos _
      · rw [nextF_end f cs n ns hA hB]
        have h0 : cnt cs n = 0 := by omega
        have he := end_all (h := ⟨cs, ns⟩) (n := n) hn
        have hu := untold_end ⟨cs, ns⟩ n hn
        have := nextF_ok f (endF ⟨cs, ns⟩ n) (he.1 h0 hG.less)
        have hl := he.2.2.1
        refine ⟨this.good, by have := this.phi; omega, this.len.trans hl, fun e => (this.nothing e).trans hu, fun m e => ?_⟩
        have hm := this.cell m e
        exact ⟨hm.1, hm.2.1, hm.2.2.1, hm.2.2.2.trans hu⟩
theorem settleF_none (f : Nat) (h h1 : Hp) (hn : nextH h = (h1, none)) : settleF (f + 1) h = (h1, []) := by
  show (match nextH h with | (h1, none) => (h1, []) | (h1, some n) => _) = _
  rw [hn]
theorem settleF_some (f : Nat) (h h1 : Hp) (n : Nat) (hn : nextH h = (h1, some n)) : settleF (f + 1) h = ((settleF f (dropF h1 n)).1, n :: (settleF f (dropF h1 n)).2) := by
  show (match nextH h with | (h1, none) => (h1, []) | (h1, some n) => ((settleF f (dropF h1 n)).1, n :: (settleF f (dropF h1 n)).2)) = _
  rw [hn]
theorem St.tight {S : Nat → Prop} {b : Nat} {s1 s2 : Int} {cs : List Cl} {ct : Nat → Int} {ns : List Nat} {w : World} (h : St S b s1 s2 cs ct ns w) : St (fun g => S g ∧ g < w.heap.size) b s1 s2 cs ct ns w := h.move fun _ a c => ⟨rfl, a, c⟩
theorem Rn.tight {S : Nat → Prop} {v : Value} {l : List Nat} {w : World} (h : Rn S v l w) : Rn (fun g => S g ∧ g < w.heap.size) v l w := h.move fun _ a c _ => ⟨rfl, a, c⟩

structure SeI (S : Nat → Prop) (b : Nat) (s1 s2 : Int) (w : World) (F T : Nat → Prop) (h1 : Hp) (v : Value) (l : List Nat) (wr : World) : Prop where
  heap : SH F b s1 s2 h1 wr
  row : Rn T v l wr
  apart : ∀ g, F g → ¬ T g
  foot : ∀ g, F g → New S w.heap.size g ∧ g < wr.heap.size
  new : ∀ g, T g → w.heap.size ≤ g ∧ g < wr.heap.size
  kept : Kp S w wr
def SeR (S : Nat → Prop) (b : Nat) (s1 s2 : Int) (h : Hp) (w : World) (v : Value) (wr : World) (m : Nat) : Prop :=
  ∃ (f : Nat) (h1 : Hp) (l : List Nat) (F T : Nat → Prop), m = f ∧ settleH h = ((settleF f h1).1, l ++ (settleF f h1).2) ∧ Good h1 ∧ untold h1 < f ∧ l.length + f ≤ 1000 ∧ phi h1 ≤ 1000000 ∧ SeI S b s1 s2 w F T h1 v l wr
def SeP (S : Nat → Prop) (b : Nat) (s1 s2 : Int) (r : Hp × List Nat) (w : World) (e : Ending) (w' : World) : Prop :=
  ∃ v F T, e = .returned v ∧ SeI S b s1 s2 w F T r.1 v r.2 w'

set_option maxRecDepth 100000 in
set_option maxHeartbeats 4000000 in
theorem settle_hp (S : Nat → Prop) (b : Nat) (s1 s2 : Int) (h : Hp) (w : World) (hs : SH S b s1 s2 h w) (H : Good h) (hp : phi h ≤ 1000000) :
    Calls Try.prog 57 #[.pointer (some ⟨b, 4, none⟩)] w (SeP S b s1 s2 (settleH h) w) := by
  have hu : untold h ≤ h.cs.length := List.countP_le_length
  have hStart : SeR S b s1 s2 h w (.slice none 0 0) w (untold h + 1) := by
    refine ⟨untold h + 1, h, [], fun g => S g ∧ g < w.heap.size, fun _ => False, rfl, rfl, H, Nat.lt_succ_self _, by have := H.few; simp; omega, hp, ?_⟩
    exact ⟨hs.tight, Rn.nil _ _, fun _ _ h => h, fun g a => ⟨Or.inl a.1, a.2⟩, fun _ h => h.elim, Kp.refl S w⟩
  clear hs H hp hu
  have hP : Hid (∀ h1 v F T l w', settleH h = (h1, l) → SeI S b s1 s2 w F T h1 v l w' → SeP S b s1 s2 (settleH h) w (.returned v) w') := by
    intro h1 v F T l w' e1 e2
    rw [e1]
    exact ⟨v, F, T, rfl, e2⟩
  go_enter Try.func57, Try.ntmps57
  go_wp2
  go_loopw [3] (fun tv wr => ∃ m, SeR S b s1 s2 h w tv wr m) (fun tv wr => leastN (SeR S b s1 s2 h w tv wr))
  case atStart => exact ⟨_, hStart⟩
  case round =>
    clear hStart
    obtain ⟨f, h1, l, F, T, hm, hS, hG, hu, hlf, hp, hI⟩ := (least_spec hrel).1
    have hMe : Hid (∀ v w', (∃ m, m < f ∧ SeR S b s1 s2 h w v w' m) → leastN (SeR S b s1 s2 h w v w') < leastN (SeR S b s1 s2 h w u3 wr)) := by
      rintro v w' ⟨m, h1, h2⟩
      have := (least_spec ⟨m, h2⟩).2 m h2
      omega
    clear hm hrel
    have hN := next_hp F b s1 s2 h1 wr hI.heap hG hp
    have hok : NxOk h1 (nextH h1) := nextF_ok (phi h1) h1 hG
    have hns := fun h2 => settleF_none (f - 1) h1 h2
    have hsm := fun h2 n => settleF_some (f - 1) h1 h2 n
    have hf1 : f - 1 + 1 = f := by omega
    rw [hf1] at hns hsm
    obtain ⟨ao, cap, rfl⟩ := hI.row.form
    generalize nextH h1 = r at *
    obtain ⟨h2, o⟩ := r
    cases o with
    | none =>
      have hQ : Hid (∀ w', SH (New F wr.heap.size) b s1 s2 h2 w' → Kp F wr w' → SeP S b s1 s2 (settleH h) w (.returned (.slice ao l.length cap)) w') := by
        intro w' q1 q2
        refine hP.out h2 _ (fun g => New F wr.heap.size g ∧ g < w'.heap.size) T l w' (by rw [hS, hns h2 rfl, List.append_nil]) ?_
        refine ⟨q1.tight, hI.row.move fun g a c _ => ⟨q2.block g c fun e => hI.apart g e a, a⟩, fun g a e => a.1.elim (fun a => hI.apart g a e) fun a => by have := (hI.new g e).2; omega, fun g a => ⟨a.1.elim (fun a => (hI.foot g a).1) fun a => Or.inr (Nat.le_trans hI.kept.size a), a.2⟩, fun g a => ⟨(hI.new g a).1, Nat.lt_of_lt_of_le (hI.new g a).2 q2.size⟩, hI.kept.trans q2 fun g a e => (hI.foot g e).1.resolve_right (by omega)⟩
      clear hI hns hsm hS hok hP
      go_wp2_with fail
      refine hN.mono ?_
      rintro e w' ⟨rfl, q1, q2⟩
      have hQ2 := Lib.hid (hQ.out w' q1 q2)
      clear q1 q2 hN hQ
      go_wp2
      go_ret
      exact hQ2.out
    | some n =>
      have hs2 := hsm h2 n rfl
      have hcell := hok.cell n rfl
      have hph2 : phi h2 ≤ 1000000 := Nat.le_trans hok.phi hp
      have hG2 := hok.good
      have hl1 : l.length ≤ 1000000 := by omega
      go_wp2_with fail
      refine hN.mono ?_
      rintro e w2 ⟨rfl, q1, q2⟩
      have hF2 := q1.tight
      have hT2 : Rn T (.slice ao l.length cap) l (w2.alloc (.cells #[.int .i64 (n : Nat)] 3)) := hI.row.move fun g a c _ => ⟨(Below.heap_alloc w2 _ g (Nat.lt_of_lt_of_le c q2.size)).trans (q2.block g c fun e => hI.apart g e a), a⟩
      obtain ⟨v', w3, hr, hn3, hg3⟩ := rn_append T _ l n _ hT2 ⟨w2.heap.size, 0, none⟩ 1 (by simp [World.cell?_alloc_new]) hl1
      obtain ⟨ao', cap', rfl⟩ := hn3.form
      have hsz3 := hg3.size
      have hsza : (w2.alloc (.cells #[.int .i64 (n : Nat)] 3)).heap.size = w2.heap.size + 1 := by simp
      have hF3 : SH (fun g => New F wr.heap.size g ∧ g < w2.heap.size) b s1 s2 h2 w3 := hF2.move fun g a c => by
        refine ⟨(hg3.block g (by omega) fun e => ?_).trans (Below.heap_alloc w2 _ g c), a⟩
        have hTg := (hT2.type e.symm).1
        exact a.1.elim (fun a => hI.apart g a hTg) fun a => by have := (hI.new g hTg).2; omega
      have hD := drop_hp (fun g => New F wr.heap.size g ∧ g < w2.heap.size) b s1 s2 h2 n w3 hF3 hcell.1 hph2 hcell.2.2.1
      have hX : Hid (∀ w4, SH (New (fun g => New F wr.heap.size g ∧ g < w2.heap.size) w3.heap.size) b s1 s2 (dropF h2 n) w4 → Kp (fun g => New F wr.heap.size g ∧ g < w2.heap.size) w3 w4 → SeR S b s1 s2 h w (.slice ao' (l ++ [n]).length cap') w4 (f - 1)) := by
        intro w4 p1 p2
        have hsz4 := p2.size
        have hsz2 := q2.size
        refine ⟨f - 1, dropF h2 n, l ++ [n], fun g => New (fun g => New F wr.heap.size g ∧ g < w2.heap.size) w3.heap.size g ∧ g < w4.heap.size, fun g => New T (w2.alloc (.cells #[.int .i64 (n : Nat)] 3)).heap.size g ∧ g < w3.heap.size, rfl, by rw [hS, hs2]; simp, hG2.drop hcell.1 hcell.2.1, by rw [untold_drop _ _ hcell.1]; have := hcell.2.2.2; omega, by simp; omega, Nat.le_trans (phi_drop _ _ hcell.1 hcell.2.2.1) hph2, ?_⟩
        refine ⟨p1.tight, hn3.tight.move fun g a c _ => ⟨p2.block g c fun e => ?_, a⟩, fun g a e => ?_, fun g a => ⟨?_, a.2⟩, fun g a => ⟨?_, Nat.lt_of_lt_of_le a.2 hsz4⟩, ?_⟩
        · rcases a.1 with a1 | a1
          · have := (hI.new g a1).2
            rcases e.1 with e1 | e1
            · exact hI.apart g e1 a1
            · omega
          · have := e.2
            omega
        · rcases e.1 with e1 | e1
          · have := (hI.new g e1).2
            rcases a.1 with a1 | a1
            · rcases a1.1 with a2 | a2
              · exact hI.apart g a2 e1
              · omega
            · omega
          · rcases a.1 with a1 | a1
            · have := a1.2
              omega
            · have := e.2
              omega
        · rcases a.1 with a1 | a1
          · rcases a1.1 with a2 | a2
            · exact (hI.foot g a2).1
            · exact Or.inr (Nat.le_trans hI.kept.size a2)
          · exact Or.inr (Nat.le_trans hI.kept.size (by omega))
        · rcases a.1 with a1 | a1
          · exact (hI.new g a1).1
          · exact Nat.le_trans hI.kept.size (by omega)
        · have k1 : Kp S w w2 := hI.kept.trans q2 fun g a e => (hI.foot g e).1.resolve_right (by omega)
          have k2 : Kp S w w3 := (k1.alloc _).grown hg3 fun k e hk => absurd (hI.new k (hT2.type e).1).1 (by omega)
          exact k2.trans p2 fun g a e => by
            rcases e.1 with e1 | e1
            · exact (hI.foot g e1).1.resolve_right (by omega)
            · exact absurd (Nat.le_trans hI.kept.size e1) (by omega)
      have hf0 : Hid (f - 1 < f) := by show _ < _; omega
      clear hI hns hsm hS hok hP hF2 hF3 hT2 hn3 hg3 hs2 hcell hG2 hN q1 q2 hsz3 hsza
      generalize (l ++ [n]).length = l2 at *
      go_wp2_with (at_builtin; refine wpList_append_is _ rfl _ _ 28 rfl _ _ (.slice ao' l2 cap') w3 rfl rfl hr ?_)
      refine hD.mono ?_
      rintro e w4 ⟨rfl, p1, p2⟩
      have hX2 := Lib.hid (hX.out w4 p1 p2)
      clear p1 p2 hD hX
      go_wp2
      go_roundw
      case rel => exact ⟨_, hX2.out⟩
      case measure => exact hMe.out _ _ ⟨_, hf0.out, hX2.out⟩

end Go.Proofs.Ytpedaompcjaahaa
