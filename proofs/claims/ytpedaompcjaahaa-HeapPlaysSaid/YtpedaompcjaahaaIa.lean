/-
  next of the program's heap. Conditions: at most 100 cells; a heap's size (phi) below 2^20.
-/
import Derived.Test.YtpedaompcjaahaaHz
namespace Go.Proofs.Ytpedaompcjaahaa
open Go.RowKit

noncomputable def leastN (P : Nat → Prop) : Nat := Classical.epsilon (fun k => P k ∧ ∀ j, P j → k ≤ j)
theorem least_ex {P : Nat → Prop} : ∀ n k, k ≤ n → P k → ∃ m, P m ∧ ∀ j, P j → m ≤ j
  | 0, k, h, hk => ⟨k, hk, fun j _ => by omega⟩
  | n + 1, k, h, hk => by
    by_cases h0 : ∃ j, j < k ∧ P j
    · obtain ⟨j, h1, h2⟩ := h0
      exact least_ex n j (by omega) h2
    · exact ⟨k, hk, fun j hj => by
        apply Decidable.byContradiction
        intro h1
        exact h0 ⟨j, by omega, hj⟩⟩
theorem least_spec {P : Nat → Prop} (h : ∃ k, P k) : P (leastN P) ∧ ∀ j, P j → leastN P ≤ j := by
  obtain ⟨k, hk⟩ := h
  exact Classical.epsilon_spec (least_ex k k (Nat.le_refl _) hk)
/-- A first number is taken off a row. -/
theorem Rn.tail {S : Nat → Prop} {v : Value} {n : Nat} {l : List Nat} {w : World} (h : Rn S v (n :: l) w) : ∃ g o cap, v = .slice (some ⟨g, o, none⟩) (l.length + 1) cap ∧ l.length + 1 ≤ cap ∧ w.cell? ⟨g, o, none⟩ = some (.int .i64 (n : Nat)) ∧ Rn S (.slice (some ⟨g, o + 1, none⟩) l.length (cap - 1)) l w ∧ (cap = 1 → Rn S (.slice (some ⟨g, o, none⟩) 0 0) l w) := by
  rcases h with ⟨_, h⟩ | ⟨g, o, cap, cur, h1, h2, h3, h4, h5, h6, h7⟩
  · cases h
  · have h4' : l.length + 1 ≤ cap := h4
    refine ⟨g, o, cap, h1, h4, ?_, .inr ⟨g, o + 1, cap - 1, cur, rfl, h2, h3, by omega, by omega, by omega, fun j hj => ?_⟩, fun h => .inr ⟨g, o, 0, cur, by rw [show l.length = 0 by omega], h2, h3, by omega, by omega, by omega, fun j hj => ?_⟩⟩
    · rw [cell_of_row _ _ _ _ _ _ h3]
      exact h7 0 (by simp)
    · have := h7 (j + 1) (by simpa using hj)
      rw [show o + 1 + j = o + (j + 1) by omega]
      simpa using this
    · omega
theorem tellF_eq (cs : List Cl) (n : Nat) (hn : n < cs.length) : setR (setT cs n) n ((cl (setT cs n) n).rt + 1) = tellF cs n := by
  have h1 : cl (setT cs n) n = { cl cs n with td := true } := by
    unfold setT
    rw [cl_set _ _ _ _ hn, if_pos rfl]
  unfold setR
  rw [h1]
  unfold setT tellF
  rw [List.set_set]
theorem cnt_setT (cs : List Cl) (n m : Nat) (hn : n < cs.length) : cnt (setT cs n) m = cnt cs m := by
  have := cnt_same cs n { cl cs n with td := true } hn rfl m
  exact Nat.add_right_cancel this
theorem phi_setT (cs : List Cl) (n : Nat) (ns : List Nat) (hn : n < cs.length) : phi ⟨setT cs n, ns⟩ = phi ⟨cs, ns⟩ := by
  have := phi_same cs n { cl cs n with td := true } hn rfl
  have h2 : ((setT cs n).map weigh).sum = (cs.map weigh).sum := Nat.add_right_cancel this
  unfold phi
  dsimp only
  rw [h2]
theorem nextF_skip (f : Nat) (cs : List Cl) (n : Nat) (ns : List Nat) (h : 0 < cnt cs n ∨ (cl cs n).en = true) : nextF (f + 1) ⟨cs, n :: ns⟩ = nextF f ⟨cs, ns⟩ := by
  show (if 0 < cnt cs n ∨ (cl cs n).en = true then nextF f ⟨cs, ns⟩ else _) = _
  rw [if_pos h]
theorem nextF_tell (f : Nat) (cs : List Cl) (n : Nat) (ns : List Nat) (h : ¬ (0 < cnt cs n ∨ (cl cs n).en = true)) (h2 : (cl cs n).wt = true ∧ (cl cs n).td = false) : nextF (f + 1) ⟨cs, n :: ns⟩ = (⟨tellF cs n, ns⟩, some n) := by
  show (if 0 < cnt cs n ∨ (cl cs n).en = true then nextF f ⟨cs, ns⟩ else if (cl cs n).wt = true ∧ (cl cs n).td = false then _ else _) = _
  rw [if_neg h, if_pos h2]
theorem nextF_end (f : Nat) (cs : List Cl) (n : Nat) (ns : List Nat) (h : ¬ (0 < cnt cs n ∨ (cl cs n).en = true)) (h2 : ¬ ((cl cs n).wt = true ∧ (cl cs n).td = false)) : nextF (f + 1) ⟨cs, n :: ns⟩ = nextF f (endF ⟨cs, ns⟩ n) := by
  show (if 0 < cnt cs n ∨ (cl cs n).en = true then nextF f ⟨cs, ns⟩ else if (cl cs n).wt = true ∧ (cl cs n).td = false then _ else _) = _
  rw [if_neg h, if_neg h2]
/-- The loop of next: what is left of the notes does what all of them do. -/
def NxR (S : Nat → Prop) (b : Nat) (s1 s2 : Int) (h : Hp) (w wr : World) (m : Nat) : Prop :=
  ∃ (f : Nat) (h1 : Hp), m = phi h1 ∧ nextF (phi h) h = nextF f h1 ∧ Good h1 ∧ phi h1 ≤ f ∧ phi h1 ≤ 1000000 ∧ SH (New S w.heap.size) b s1 s2 h1 wr ∧ Kp S w wr
def NxP (S : Nat → Prop) (b : Nat) (s1 s2 : Int) (r : Hp × Option Nat) (w : World) (e : Ending) (w' : World) : Prop :=
  e = .returned (.tuple #[.int .i64 ((r.2.getD 0 : Nat) : Int), .bool r.2.isSome]) ∧ SH (New S w.heap.size) b s1 s2 r.1 w' ∧ Kp S w w'

set_option maxRecDepth 100000 in
set_option maxHeartbeats 4000000 in
theorem next_hp (S : Nat → Prop) (b : Nat) (s1 s2 : Int) (h : Hp) (w : World) (hs : SH S b s1 s2 h w) (H : Good h) (hp : phi h ≤ 1000000) :
    Calls Try.prog 59 #[.pointer (some ⟨b, 4, none⟩)] w (NxP S b s1 s2 (nextH h) w) := by
  have hStart : NxR S b s1 s2 h w w (phi h) := ⟨phi h, h, rfl, rfl, H, Nat.le_refl _, hp, hs.wide fun g a _ => Or.inl a, Kp.refl S w⟩
  have hN : Hid (nextH h = nextF (phi h) h) := rfl
  clear hs H hp
  generalize nextH h = R at *
  go_enter Try.func59, Try.ntmps59
  go_wp2
  go_loopw [4] (fun _ wr => ∃ m, NxR S b s1 s2 h w wr m) (fun _ wr => leastN (NxR S b s1 s2 h w wr))
  case atStart => exact ⟨_, hStart⟩
  case round =>
    clear hStart
    obtain ⟨f, h1, hm, hF, hG, hpf, hp, hs, hK⟩ := (least_spec hrel).1
    have hMe : Hid (∀ w', (∃ m, m < phi h1 ∧ NxR S b s1 s2 h w w' m) → leastN (NxR S b s1 s2 h w w') < leastN (NxR S b s1 s2 h w wr)) := by
      rintro w' ⟨m, h1, h2⟩
      have := (least_spec ⟨m, h2⟩).2 m h2
      omega
    replace hm := Lib.hid hm
    clear hrel
    obtain ⟨cs, ns⟩ := h1
    obtain ⟨vc, vn, _, _, h4, h5, hf, hbl, hSb, hC, hRn⟩ := hs.open
    cases ns with
    | nil =>
      obtain ⟨ao, cap, rfl⟩ := hRn.form
      have hR : R = (⟨cs, []⟩, none) := by
        rw [hN.out, hF]
        cases f <;> rfl
      subst hR
      replace hF := Lib.hid hF
      go_wp2
      go_ret2
      exact ⟨rfl, hs, hK⟩
    | cons n ns =>
      obtain ⟨gn, o, cap, rfl, hcap, hn0, hRt, hRt1⟩ := hRn.tail
      have hn : n < cs.length := hG.told n (by simp)
      obtain ⟨g, capc, h4', hSg, hgb, hglt, hcell, hfz⟩ := hs.cell hn
      have hph := phi_less cs n ns
      obtain ⟨f', rfl⟩ : ∃ f', f = f' + 1 := ⟨f - 1, by omega⟩
      have hct : wr.cell? ⟨g, n * 22 + 21, none⟩ = some (.int .i64 (cn cs n)) := hcell n 21 hn (by decide)
      have hen : wr.cell? ⟨g, n * 22 + 19, none⟩ = some (.bool (cl cs n).en) := hcell n 19 hn (by decide)
      have htd : wr.cell? ⟨g, n * 22 + 18, none⟩ = some (.bool (cl cs n).td) := hcell n 18 hn (by decide)
      have hwt : wr.cell? ⟨g, n * 22 + 17, none⟩ = some (.bool (cl cs n).wt) := hcell n 17 hn (by decide)
      have n1 : ¬ g = b := hgb
      have n2 : ¬ b = g := fun e => hgb e.symm
      have hgl := hG.less
      have hcq : cn cs n = ((cnt cs n : Nat) : Int) := rfl
      clear h4
      by_cases hc1 : cap = 1
      · subst hc1
        have a1 : SH (New S w.heap.size) b s1 s2 ⟨cs, ns⟩ (wr.setCell ⟨b, 5, none⟩ (.slice (some ⟨gn, o, none⟩) 0 0)) := hs.notes (hRt1 rfl)
        have k1 : Kp S w (wr.setCell ⟨b, 5, none⟩ (.slice (some ⟨gn, o, none⟩) 0 0)) := hK.set (p := ⟨b, 5, none⟩) hSb _
        by_cases hA : 0 < cnt cs n ∨ (cl cs n).en = true
        · have hR2 := Lib.hid (hF.trans (nextF_skip f' cs n ns hA))
          have hX : Hid (NxR S b s1 s2 h w (wr.setCell ⟨b, 5, none⟩ (.slice (some ⟨gn, o, none⟩) 0 0)) (phi ⟨cs, ns⟩)) := ⟨f', ⟨cs, ns⟩, rfl, by rw [← hN.out]; rw [← hN.out] at hR2; exact hR2.out, hgl, by omega, by omega, a1, k1⟩
          have hM2 : Hid (phi ⟨cs, ns⟩ < phi ⟨cs, n :: ns⟩) := by show _ < _; omega
          by_cases hq : 0 < cnt cs n
          · have hq2 : 0 < cn cs n := by omega
            clear hF hcell a1 k1 hs hC hRn hRt hRt1 hgl hG hK hcq hph hA hq hpf hp
            generalize cn cs n = q at *
            generalize (cl cs n).en = en at *
            go_wp2
            go_roundw
            case rel => exact ⟨_, hX.out⟩
            case measure => exact hMe.out _ ⟨_, hM2.out, hX.out⟩
          · have hq2 : ¬ 0 < cn cs n := by omega
            have he : (cl cs n).en = true := hA.resolve_left hq
            rw [he] at hen
            clear hF hcell a1 k1 hs hC hRn hRt hRt1 hgl hG hK hcq hph hA hq hpf hp he
            generalize cn cs n = q at *
            go_wp2
            go_roundw
            case rel => exact ⟨_, hX.out⟩
            case measure => exact hMe.out _ ⟨_, hM2.out, hX.out⟩
        · have hq2 : ¬ 0 < cn cs n := by omega
          have h0 : cnt cs n = 0 := by omega
          have he : (cl cs n).en = false := by
            cases e : (cl cs n).en
            · rfl
            · exact absurd (Or.inr e) hA
          rw [he] at hen
          have hph2 : phi ⟨cs, ns⟩ ≤ 1000000 := by omega
          by_cases hB : (cl cs n).wt = true ∧ (cl cs n).td = false
          · have hR2 : R = (⟨tellF cs n, ns⟩, some n) := hN.out.trans (hF.trans (nextF_tell f' cs n ns hA hB))
            subst hR2
            rw [hB.1] at hwt
            rw [hB.2] at htd
            have a2 : SH (New S w.heap.size) b s1 s2 ⟨setT cs n, ns⟩ ((wr.setCell ⟨b, 5, none⟩ (.slice (some ⟨gn, o, none⟩) 0 0)).setCell ⟨g, n * 22 + 18, none⟩ (.bool true)) := by
              refine St.count (ct := cn cs) (a1.store (cs' := setT cs n) (ct' := cn cs) (g := g) (cap := capc) (by rw [World.cell?_setCell_other _ _ _ _ (by simp)]; exact h4') (n := n) (k := 18) (by decide) (by simp [setT]) (fun i j _ _ => pcv_setT cs (cn cs) n hn i j)) fun i _ => ?_
              show ((cnt (setT cs n) i : Nat) : Int) = ((cnt cs i : Nat) : Int)
              rw [cnt_setT cs n i hn]
            have k2 := k1.set (p := ⟨g, n * 22 + 18, none⟩) hSg (.bool true)
            have hRoot := root_hp (New S w.heap.size) b s1 s2 ⟨setT cs n, ns⟩ n _ a2 (by simpa [setT] using hn) (by rw [phi_setT cs n ns hn]; exact hph2)
            have hrt : rootF ⟨setT cs n, ns⟩ n = ⟨tellF cs n, ns⟩ := by
              unfold rootF
              dsimp only
              rw [tellF_eq cs n hn]
            rw [hrt] at hRoot
            have hK2 : Hid (∀ w', HtP (New S w.heap.size) b s1 s2 ⟨tellF cs n, ns⟩ ((wr.setCell ⟨b, 5, none⟩ (.slice (some ⟨gn, o, none⟩) 0 0)).setCell ⟨g, n * 22 + 18, none⟩ (.bool true)) (.returned (.tuple #[])) w' → SH (New S w.heap.size) b s1 s2 ⟨tellF cs n, ns⟩ w' ∧ Kp S w w') := by
              rintro w' ⟨_, q1, q2⟩
              exact ⟨q1.wide fun g a _ => a.elim id fun a => Or.inr (Nat.le_trans k2.size a), k2.then q2⟩
            clear hF hcell a1 a2 k1 k2 hs hC hRn hRt hRt1 hgl hG hK hcq hph hA hB hpf hp he h0 hrt hm hMe
            generalize cn cs n = q at *
            go_wp2_with fail
            refine hRoot.mono ?_
            intro e w' hm
            have he := hm.1
            subst he
            have hm2 := Lib.hid (hK2.out w' hm)
            clear hm hRoot hK2
            go_wp2
            go_ret2
            exact ⟨rfl, hm2.out.1, hm2.out.2⟩
          · have hR2 := hF.trans (nextF_end f' cs n ns hA hB)
            have hend := end_all (h := ⟨cs, ns⟩) (n := n) hn
            have hE := end_hp (New S w.heap.size) b s1 s2 ⟨cs, ns⟩ n _ a1 hgl hn h0 hph2
            have hX : Hid (∀ w', HtP (New S w.heap.size) b s1 s2 (endF ⟨cs, ns⟩ n) (wr.setCell ⟨b, 5, none⟩ (.slice (some ⟨gn, o, none⟩) 0 0)) (.returned (.tuple #[])) w' → NxR S b s1 s2 h w w' (phi (endF ⟨cs, ns⟩ n))) := by
              rintro w' ⟨_, q1, q2⟩
              have := hend.2.1
              exact ⟨f', _, rfl, hR2, hend.1 h0 hgl, by omega, by omega, q1.wide fun g a _ => a.elim id fun a => Or.inr (Nat.le_trans k1.size a), k1.then q2⟩
            have hM2 : Hid (phi (endF ⟨cs, ns⟩ n) < phi ⟨cs, n :: ns⟩) := by
              have := hend.2.1
              show _ < _
              omega
            clear hF hcell a1 k1 hs hC hRn hRt hRt1 hgl hG hK hcq hph hA hpf hp he h0 hR2 hend
            generalize hhe : endF ⟨cs, ns⟩ n = he at *
            generalize cn cs n = q at *
            by_cases hwt1 : (cl cs n).wt = true
            · have htd1 : (cl cs n).td = true := by
                cases e : (cl cs n).td
                · exact absurd ⟨hwt1, e⟩ hB
                · rfl
              rw [hwt1] at hwt
              rw [htd1] at htd
              clear hB hwt1 htd1 hhe
              go_wp2_with fail
              refine hE.mono ?_
              intro e w' hm3
              have he := hm3.1
              subst he
              have hX2 := Lib.hid (hX.out w' hm3)
              clear hm3 hE hX
              go_wp2
              go_roundw
              case rel => exact ⟨_, hX2.out⟩
              case measure => exact hMe.out _ ⟨_, hM2.out, hX2.out⟩
            · have hwt2 : (cl cs n).wt = false := by
                cases e : (cl cs n).wt
                · rfl
                · exact absurd e hwt1
              rw [hwt2] at hwt
              clear hB hwt1 hwt2 hhe
              go_wp2_with fail
              refine hE.mono ?_
              intro e w' hm3
              have he := hm3.1
              subst he
              have hX2 := Lib.hid (hX.out w' hm3)
              clear hm3 hE hX
              go_wp2
              go_roundw
              case rel => exact ⟨_, hX2.out⟩
              case measure => exact hMe.out _ ⟨_, hM2.out, hX2.out⟩

      · have hc2 : ¬ cap - 1 = 0 := by omega
        have a1 : SH (New S w.heap.size) b s1 s2 ⟨cs, ns⟩ (wr.setCell ⟨b, 5, none⟩ (.slice (some ⟨gn, o + 1, none⟩) ns.length (cap - 1))) := hs.notes hRt
        have k1 : Kp S w (wr.setCell ⟨b, 5, none⟩ (.slice (some ⟨gn, o + 1, none⟩) ns.length (cap - 1))) := hK.set (p := ⟨b, 5, none⟩) hSb _
        by_cases hA : 0 < cnt cs n ∨ (cl cs n).en = true
        · have hR2 := Lib.hid (hF.trans (nextF_skip f' cs n ns hA))
          have hX : Hid (NxR S b s1 s2 h w (wr.setCell ⟨b, 5, none⟩ (.slice (some ⟨gn, o + 1, none⟩) ns.length (cap - 1))) (phi ⟨cs, ns⟩)) := ⟨f', ⟨cs, ns⟩, rfl, by rw [← hN.out]; rw [← hN.out] at hR2; exact hR2.out, hgl, by omega, by omega, a1, k1⟩
          have hM2 : Hid (phi ⟨cs, ns⟩ < phi ⟨cs, n :: ns⟩) := by show _ < _; omega
          by_cases hq : 0 < cnt cs n
          · have hq2 : 0 < cn cs n := by omega
            clear hF hcell a1 k1 hs hC hRn hRt hRt1 hgl hG hK hcq hph hA hq hpf hp
            generalize cn cs n = q at *
            generalize (cl cs n).en = en at *
            go_wp2
            go_roundw
            case rel => exact ⟨_, hX.out⟩
            case measure => exact hMe.out _ ⟨_, hM2.out, hX.out⟩
          · have hq2 : ¬ 0 < cn cs n := by omega
            have he : (cl cs n).en = true := hA.resolve_left hq
            rw [he] at hen
            clear hF hcell a1 k1 hs hC hRn hRt hRt1 hgl hG hK hcq hph hA hq hpf hp he
            generalize cn cs n = q at *
            go_wp2
            go_roundw
            case rel => exact ⟨_, hX.out⟩
            case measure => exact hMe.out _ ⟨_, hM2.out, hX.out⟩
        · have hq2 : ¬ 0 < cn cs n := by omega
          have h0 : cnt cs n = 0 := by omega
          have he : (cl cs n).en = false := by
            cases e : (cl cs n).en
            · rfl
            · exact absurd (Or.inr e) hA
          rw [he] at hen
          have hph2 : phi ⟨cs, ns⟩ ≤ 1000000 := by omega
          by_cases hB : (cl cs n).wt = true ∧ (cl cs n).td = false
          · have hR2 : R = (⟨tellF cs n, ns⟩, some n) := hN.out.trans (hF.trans (nextF_tell f' cs n ns hA hB))
            subst hR2
            rw [hB.1] at hwt
            rw [hB.2] at htd
            have a2 : SH (New S w.heap.size) b s1 s2 ⟨setT cs n, ns⟩ ((wr.setCell ⟨b, 5, none⟩ (.slice (some ⟨gn, o + 1, none⟩) ns.length (cap - 1))).setCell ⟨g, n * 22 + 18, none⟩ (.bool true)) := by
              refine St.count (ct := cn cs) (a1.store (cs' := setT cs n) (ct' := cn cs) (g := g) (cap := capc) (by rw [World.cell?_setCell_other _ _ _ _ (by simp)]; exact h4') (n := n) (k := 18) (by decide) (by simp [setT]) (fun i j _ _ => pcv_setT cs (cn cs) n hn i j)) fun i _ => ?_
              show ((cnt (setT cs n) i : Nat) : Int) = ((cnt cs i : Nat) : Int)
              rw [cnt_setT cs n i hn]
            have k2 := k1.set (p := ⟨g, n * 22 + 18, none⟩) hSg (.bool true)
            have hRoot := root_hp (New S w.heap.size) b s1 s2 ⟨setT cs n, ns⟩ n _ a2 (by simpa [setT] using hn) (by rw [phi_setT cs n ns hn]; exact hph2)
            have hrt : rootF ⟨setT cs n, ns⟩ n = ⟨tellF cs n, ns⟩ := by
              unfold rootF
              dsimp only
              rw [tellF_eq cs n hn]
            rw [hrt] at hRoot
            have hK2 : Hid (∀ w', HtP (New S w.heap.size) b s1 s2 ⟨tellF cs n, ns⟩ ((wr.setCell ⟨b, 5, none⟩ (.slice (some ⟨gn, o + 1, none⟩) ns.length (cap - 1))).setCell ⟨g, n * 22 + 18, none⟩ (.bool true)) (.returned (.tuple #[])) w' → SH (New S w.heap.size) b s1 s2 ⟨tellF cs n, ns⟩ w' ∧ Kp S w w') := by
              rintro w' ⟨_, q1, q2⟩
              exact ⟨q1.wide fun g a _ => a.elim id fun a => Or.inr (Nat.le_trans k2.size a), k2.then q2⟩
            clear hF hcell a1 a2 k1 k2 hs hC hRn hRt hRt1 hgl hG hK hcq hph hA hB hpf hp he h0 hrt hm hMe
            generalize cn cs n = q at *
            go_wp2_with fail
            refine hRoot.mono ?_
            intro e w' hm
            have he := hm.1
            subst he
            have hm2 := Lib.hid (hK2.out w' hm)
            clear hm hRoot hK2
            go_wp2
            go_ret2
            exact ⟨rfl, hm2.out.1, hm2.out.2⟩
          · have hR2 := hF.trans (nextF_end f' cs n ns hA hB)
            have hend := end_all (h := ⟨cs, ns⟩) (n := n) hn
            have hE := end_hp (New S w.heap.size) b s1 s2 ⟨cs, ns⟩ n _ a1 hgl hn h0 hph2
            have hX : Hid (∀ w', HtP (New S w.heap.size) b s1 s2 (endF ⟨cs, ns⟩ n) (wr.setCell ⟨b, 5, none⟩ (.slice (some ⟨gn, o + 1, none⟩) ns.length (cap - 1))) (.returned (.tuple #[])) w' → NxR S b s1 s2 h w w' (phi (endF ⟨cs, ns⟩ n))) := by
              rintro w' ⟨_, q1, q2⟩
              have := hend.2.1
              exact ⟨f', _, rfl, hR2, hend.1 h0 hgl, by omega, by omega, q1.wide fun g a _ => a.elim id fun a => Or.inr (Nat.le_trans k1.size a), k1.then q2⟩
            have hM2 : Hid (phi (endF ⟨cs, ns⟩ n) < phi ⟨cs, n :: ns⟩) := by
              have := hend.2.1
              show _ < _
              omega
            clear hF hcell a1 k1 hs hC hRn hRt hRt1 hgl hG hK hcq hph hA hpf hp he h0 hR2 hend
            generalize hhe : endF ⟨cs, ns⟩ n = he at *
            generalize cn cs n = q at *
            by_cases hwt1 : (cl cs n).wt = true
            · have htd1 : (cl cs n).td = true := by
                cases e : (cl cs n).td
                · exact absurd ⟨hwt1, e⟩ hB
                · rfl
              rw [hwt1] at hwt
              rw [htd1] at htd
              clear hB hwt1 htd1 hhe
              go_wp2_with fail
              refine hE.mono ?_
              intro e w' hm3
              have he := hm3.1
              subst he
              have hX2 := Lib.hid (hX.out w' hm3)
              clear hm3 hE hX
              go_wp2
              go_roundw
              case rel => exact ⟨_, hX2.out⟩
              case measure => exact hMe.out _ ⟨_, hM2.out, hX2.out⟩
            · have hwt2 : (cl cs n).wt = false := by
                cases e : (cl cs n).wt
                · rfl
                · exact absurd e hwt1
              rw [hwt2] at hwt
              clear hB hwt1 hwt2 hhe
              go_wp2_with fail
              refine hE.mono ?_
              intro e w' hm3
              have he := hm3.1
              subst he
              have hX2 := Lib.hid (hX.out w' hm3)
              clear hm3 hE hX
              go_wp2
              go_roundw
              case rel => exact ⟨_, hX2.out⟩
              case measure => exact hMe.out _ ⟨_, hM2.out, hX2.out⟩

end Go.Proofs.Ytpedaompcjaahaa
