/-
  root, drop, empty, refer, add of the program's heap, on heaps as values. Conditions: at most 100 cells; a heap's size (phi) below 2^20.
-/
import Derived.Test.YtpedaompcjaahaaHv
namespace Go.Proofs.Ytpedaompcjaahaa
open Go.RowKit

abbrev cn (cs : List Cl) (n : Nat) : Int := ((cnt cs n : Nat) : Int)
abbrev SH (S : Nat → Prop) (b : Nat) (s1 s2 : Int) (h : Hp) (w : World) : Prop := St S b s1 s2 h.cs (cn h.cs) h.ns w
def HtP (S : Nat → Prop) (b : Nat) (s1 s2 : Int) (h : Hp) (w : World) (e : Ending) (w' : World) : Prop := e = .returned (.tuple #[]) ∧ SH (New S w.heap.size) b s1 s2 h w' ∧ Kp S w w'
theorem pcv_count (cs : List Cl) (ct ct' : Nat → Int) (i j : Nat) (h : ct' i = ct i) : pcv cs ct' i j = pcv cs ct i j := pcv_other (fun _ => rfl) rfl rfl rfl rfl rfl h
theorem St.count {S : Nat → Prop} {b : Nat} {s1 s2 : Int} {cs : List Cl} {ct ct' : Nat → Int} {ns : List Nat} {w : World} (h : St S b s1 s2 cs ct ns w) (hc : ∀ i, i < cs.length → ct' i = ct i) : St S b s1 s2 cs ct' ns w :=
  h.re rfl fun i j hi _ => pcv_count cs ct ct' i j (hc i hi)
theorem cnt_small {h : Hp} (hp : phi h ≤ 1000000) (n : Nat) : cn h.cs n < 1000000000000 ∧ 0 ≤ cn h.cs n ∧ (cl h.cs n).rt ≤ 1000000 ∧ h.ns.length ≤ 1000000 := by
  have h1 := cnt_le_phi h.cs h.ns n
  have h2 := rt_le_cnt h.cs n
  have h3 : h.ns.length ≤ phi h := Nat.le_add_right _ _
  have h4 : phi ⟨h.cs, h.ns⟩ = phi h := rfl
  unfold cn
  omega
theorem cnt_setR (cs : List Cl) (i r n : Nat) (h : i < cs.length) : cnt (setR cs i r) n + (if n = i then (cl cs i).rt else 0) = cnt cs n + (if n = i then r else 0) := cnt_same cs i { cl cs i with rt := r } h rfl n
theorem root_hp (S : Nat → Prop) (b : Nat) (s1 s2 : Int) (h : Hp) (n : Nat) (w : World) (hs : SH S b s1 s2 h w) (hn : n < h.cs.length) (hp : phi h ≤ 1000000) :
    Calls Try.prog 61 #[.pointer (some ⟨b, 4, none⟩), .int .i64 (n : Int)] w (HtP S b s1 s2 (rootF h n) w) := by
  have hb := cnt_small hp n
  refine (root_any S b s1 s2 h.cs _ h.ns n w hs hn (by omega) hb.2.1 hb.1).mono ?_
  rintro e w' ⟨rfl, q1, q2⟩
  refine ⟨rfl, q1.count fun i hi => ?_, q2⟩
  have := cnt_setR h.cs n ((cl h.cs n).rt + 1) i hn
  show ((cnt (setR h.cs n ((cl h.cs n).rt + 1)) i : Nat) : Int) = if i = n then ((cnt h.cs n : Nat) : Int) + 1 else ((cnt h.cs i : Nat) : Int)
  split
  · rename_i e
    subst e
    simp at this
    omega
  · rename_i e
    simp [e] at this
    omega
set_option maxRecDepth 100000 in
set_option maxHeartbeats 1600000 in
theorem drop_hp (S : Nat → Prop) (b : Nat) (s1 s2 : Int) (h : Hp) (n : Nat) (w : World) (hs : SH S b s1 s2 h w) (hn : n < h.cs.length) (hp : phi h ≤ 1000000) (hr : 0 < (cl h.cs n).rt) :
    Calls Try.prog 62 #[.pointer (some ⟨b, 4, none⟩), .int .i64 (n : Int)] w (HtP S b s1 s2 (dropF h n) w) := by
  have hb := cnt_small hp n
  have hrc := rt_le_cnt h.cs n
  obtain ⟨g, cap, h4, hS, hgb, hlt, hcell, hfz⟩ := hs.cell hn
  have hrt : w.cell? ⟨g, n * 22 + 20, none⟩ = some (.int .i64 (((cl h.cs n).rt : Nat) : Int)) := hcell n 20 hn (by decide)
  have a1 := hs.store (cs' := setR h.cs n ((cl h.cs n).rt - 1)) (ct' := cn h.cs) h4 (n := n) (k := 20) (by decide) (setR_length _ _ _) (fun i j _ _ => pcv_setR h.cs (cn h.cs) n _ hn i j)
  have k1 : Kp S w (w.setCell ⟨g, n * 22 + 20, none⟩ (.int .i64 (((cl h.cs n).rt - 1 : Nat) : Int))) := (Kp.refl S w).set (Or.inl hS) _
  have hR := release_any S b s1 s2 _ (cn h.cs) h.ns n _ a1 (by rw [setR_length]; exact hn) (by unfold cn; omega) hb.1 hb.2.2.2
  have hP : Hid (∀ w', MtP S b s1 s2 (setR h.cs n ((cl h.cs n).rt - 1)) (up (cn h.cs) n (cn h.cs n - 1)) (if cn h.cs n - 1 = 0 then h.ns ++ [n] else h.ns) (w.setCell ⟨g, n * 22 + 20, none⟩ (.int .i64 (((cl h.cs n).rt - 1 : Nat) : Int))) (.returned (.tuple #[])) w' → HtP S b s1 s2 (dropF h n) w (.returned (.tuple #[])) w') := by
    rintro w' ⟨_, q1, q2⟩
    have hc : ∀ i, cnt (setR h.cs n ((cl h.cs n).rt - 1)) i = if i = n then cnt h.cs i - 1 else cnt h.cs i := by
      intro i
      have := cnt_setR h.cs n ((cl h.cs n).rt - 1) i hn
      split
      · rename_i e
        subst e
        simp at this
        omega
      · rename_i e
        simp [e] at this
        omega
    have hcs : (dropF h n).cs = setR h.cs n ((cl h.cs n).rt - 1) := by
      unfold dropF
      split <;> rfl
    have hns : (dropF h n).ns = if cn h.cs n - 1 = 0 then h.ns ++ [n] else h.ns := by
      unfold dropF
      have := hc n
      rw [if_pos rfl] at this
      rw [this]
      by_cases h0 : cnt h.cs n - 1 = 0
      · rw [if_pos h0, if_pos (by unfold cn; omega)]
      · rw [if_neg h0, if_neg (by unfold cn; omega)]
    refine ⟨rfl, ?_, k1.trans q2 fun _ _ a => a⟩
    unfold SH
    rw [hcs, hns]
    refine (q1.count fun i hi => ?_).wide fun g a _ => a.elim Or.inl fun a => Or.inr (by simpa [World.setCell] using a)
    unfold cn up
    rw [hc]
    split
    · rename_i e
      subst e
      omega
    · rfl
  have hw1 : IntKind.wrap .i64 ((((cl h.cs n).rt : Nat) : Int) - 1) = (((cl h.cs n).rt - 1 : Nat) : Int) := by
    rw [wrap_ok (by omega) (by omega)]
    omega
  clear hcell a1 k1 hs
  generalize (cl h.cs n).rt - 1 = r' at *
  generalize (cl h.cs n).rt = r at *
  go_enter Try.func62, Try.ntmps62
  go_wp2_with fail
  refine hR.mono ?_
  intro e w' hm
  have he := hm.1
  subst he
  have hm2 := Lib.hid (hP.out w' hm)
  clear hm hP hR
  go_wp2
  go_end0
  exact hm2.out

set_option maxRecDepth 100000 in
set_option maxHeartbeats 1600000 in
theorem empty_hp (S : Nat → Prop) (b : Nat) (s1 s2 : Int) (h : Hp) (i k : Nat) (w : World) (hs : SH S b s1 s2 h w) (H : Good h) (hi : i < h.cs.length) (hk : k < (cl h.cs i).fs.length) (hp : phi h ≤ 1000000) :
    Calls Try.prog 71 #[.pointer (some ⟨b, 4, none⟩), .int .i64 (i : Int), .int .i64 (k : Int)] w (HtP S b s1 s2 (emptyF h i k) w) := by
  have h8 : k < 8 := Nat.lt_of_lt_of_le hk (H.wide i)
  obtain ⟨g, cap, h4, hS, hgb, hlt, hcell, hfz⟩ := hs.cell hi
  have hki : w.cell? ⟨g, i * 22 + k * 2, none⟩ = some (.int .i64 (((fd h.cs i k).1 : Nat) : Int)) := by rw [hcell i (k * 2) hi (by omega), pcv_kind _ _ _ _ h8]
  have hto : w.cell? ⟨g, i * 22 + k * 2 + 1, none⟩ = some (.int .i64 (((fd h.cs i k).2 : Nat) : Int)) := by rw [Nat.add_assoc, hcell i (k * 2 + 1) hi (by omega), pcv_to _ _ _ _ h8]
  have hc : ∀ m, cnt (setF h.cs i k (0, 0)) m + (if fd h.cs i k = (1, m) then 1 else 0) = cnt h.cs m := fun m => by
    have := cnt_setF h.cs i k (0, 0) hi hk m
    simpa using this
  obtain ⟨_, _, _, _, _, _, hfb, hbl, _⟩ := hs.open
  have a0 : St S b s1 s2 (setF h.cs i k (0, 0)) (cn h.cs) h.ns ((w.setCell ⟨g, i * 22 + k * 2, none⟩ (.int .i64 0)).setCell ⟨g, i * 22 + k * 2 + 1, none⟩ (.int .i64 0)) := by
    have e1 := hs.store (cs' := setF h.cs i k (0, (fd h.cs i k).2)) (ct' := cn h.cs) h4 (n := i) (k := k * 2) (u := .int .i64 0) (by omega) (setF_length _ _ _ _) (fun i' j hi' hj => by
      rw [pcv_setF h.cs _ i k _ hi hk h8]
      by_cases h1 : i' = i ∧ j = k * 2
      · rw [if_pos h1, if_pos h1]
        rfl
      · rw [if_neg h1, if_neg h1]
        by_cases h2 : i' = i ∧ j = k * 2 + 1
        · rw [if_pos h2, h2.1, h2.2, pcv_to _ _ _ _ h8]
        · rw [if_neg h2])
    have hl := setF_length h.cs i k (0, (fd h.cs i k).2)
    refine e1.store (cs' := setF h.cs i k (0, 0)) (ct' := cn h.cs) (g := g) (cap := cap) (by rw [World.cell?_setCell_other _ _ _ _ (by simp), hl]; exact h4) (n := i) (k := k * 2 + 1) (u := .int .i64 0) (by omega) (by rw [setF_length, setF_length]) (fun i' j hi' hj => ?_)
    rw [pcv_setF h.cs _ i k _ hi hk h8, pcv_setF h.cs _ i k _ hi hk h8]
    by_cases h2 : i' = i ∧ j = k * 2 + 1
    · rw [if_pos h2, if_neg (c := i' = i ∧ j = k * 2) (by omega), if_pos h2]
      rfl
    · rw [if_neg h2, if_neg h2, if_neg h2]
  have a1 : St S b s1 s2 (setF h.cs i k (0, 0)) (cn h.cs) h.ns (((w.setCell ⟨g, i * 22 + k * 2, none⟩ (.int .i64 0)).setCell ⟨g, i * 22 + k * 2 + 1, none⟩ (.int .i64 0)).alloc (.cells #[.int .i64 (((fd h.cs i k).1 : Nat) : Int), .int .i64 (((fd h.cs i k).2 : Nat) : Int)] 82)) := a0.move fun g a c => ⟨Below.heap_alloc _ _ g c, a⟩
  have k1 : Kp S w (((w.setCell ⟨g, i * 22 + k * 2, none⟩ (.int .i64 0)).setCell ⟨g, i * 22 + k * 2 + 1, none⟩ (.int .i64 0)).alloc (.cells #[.int .i64 (((fd h.cs i k).1 : Nat) : Int), .int .i64 (((fd h.cs i k).2 : Nat) : Int)] 82)) := (((Kp.refl S w).set (p := ⟨g, i * 22 + k * 2, none⟩) (Or.inl hS) (.int .i64 0)).set (p := ⟨g, i * 22 + k * 2 + 1, none⟩) (Or.inl hS) (.int .i64 0)).alloc _
  have hw : ∀ g', New S (((w.setCell ⟨g, i * 22 + k * 2, none⟩ (.int .i64 0)).setCell ⟨g, i * 22 + k * 2 + 1, none⟩ (.int .i64 0)).alloc (.cells #[.int .i64 (((fd h.cs i k).1 : Nat) : Int), .int .i64 (((fd h.cs i k).2 : Nat) : Int)] 82)).heap.size g' → New S w.heap.size g' := fun g' a => a.elim Or.inl fun a => Or.inr (by simp [World.setCell] at a; omega)
  have hne1 : ¬ w.heap.size = g := by omega
  have hne2 : ¬ g = w.heap.size := by omega
  have hne3 : ¬ w.heap.size = b := by omega
  have hne4 : ¬ b = w.heap.size := by omega
  have hne5 : ¬ b = g := fun e => hgb e.symm
  have hb := cnt_small hp (fd h.cs i k).2
  by_cases h1 : (fd h.cs i k).1 = 1
  · have hfd : fd h.cs i k = (1, (fd h.cs i k).2) := Prod.ext h1 rfl
    have hge := one_le_cnt hfd
    have hlt2 : (fd h.cs i k).2 < h.cs.length := H.lead i k (by omega)
    have hR := release_any S b s1 s2 _ (cn h.cs) h.ns (fd h.cs i k).2 _ a1 (by rw [setF_length]; exact hlt2) (by unfold cn; omega) hb.1 hb.2.2.2
    have hP : Hid (∀ w', MtP S b s1 s2 (setF h.cs i k (0, 0)) (up (cn h.cs) (fd h.cs i k).2 (cn h.cs (fd h.cs i k).2 - 1)) (if cn h.cs (fd h.cs i k).2 - 1 = 0 then h.ns ++ [(fd h.cs i k).2] else h.ns) (((w.setCell ⟨g, i * 22 + k * 2, none⟩ (.int .i64 0)).setCell ⟨g, i * 22 + k * 2 + 1, none⟩ (.int .i64 0)).alloc (.cells #[.int .i64 (((fd h.cs i k).1 : Nat) : Int), .int .i64 (((fd h.cs i k).2 : Nat) : Int)] 82)) (.returned (.tuple #[])) w' → HtP S b s1 s2 (emptyF h i k) w (.returned (.tuple #[])) w') := by
      rintro w' ⟨_, q1, q2⟩
      have hc2 : ∀ m, cnt (setF h.cs i k (0, 0)) m = if m = (fd h.cs i k).2 then cnt h.cs m - 1 else cnt h.cs m := by
        intro m
        have := hc m
        by_cases hm : m = (fd h.cs i k).2
        · rw [if_pos hm]
          rw [if_pos (by rw [hfd, hm])] at this
          omega
        · rw [if_neg hm]
          rw [if_neg (by rw [hfd]; intro e; exact hm (by rw [Prod.ext_iff] at e; exact e.2.symm))] at this
          omega
      have hns : (emptyF h i k).ns = if cn h.cs (fd h.cs i k).2 - 1 = 0 then h.ns ++ [(fd h.cs i k).2] else h.ns := by
        unfold emptyF
        rw [hc2, if_pos rfl]
        by_cases h0 : cnt h.cs (fd h.cs i k).2 - 1 = 0
        · rw [if_pos ⟨h1, h0⟩, if_pos (by unfold cn; omega)]
        · rw [if_neg (fun e => h0 e.2), if_neg (by unfold cn; omega)]
      refine ⟨rfl, ?_, k1.trans q2 fun _ _ a => a⟩
      unfold SH
      rw [empty_cs, hns]
      refine (q1.count fun m hm => ?_).wide fun g a _ => hw g a
      unfold cn up
      rw [hc2]
      split
      · rename_i e
        subst e
        omega
      · rfl
    have hbe : ((((fd h.cs i k).1 : Nat) : Int) == 1) = true := by rw [h1]; rfl
    clear hcell a0 a1 k1 hs hc hw hfd h1
    generalize (fd h.cs i k).1 = q1 at *
    generalize (fd h.cs i k).2 = q2 at *
    go_enter Try.func71, Try.ntmps71
    go_wp2_with fail
    refine hR.mono ?_
    intro e w' hm
    have he := hm.1
    subst he
    have hm2 := Lib.hid (hP.out w' hm)
    clear hm hP hR
    go_wp2
    go_end0
    exact hm2.out
  · have hP : Hid (HtP S b s1 s2 (emptyF h i k) w (.returned (.tuple #[])) (((w.setCell ⟨g, i * 22 + k * 2, none⟩ (.int .i64 0)).setCell ⟨g, i * 22 + k * 2 + 1, none⟩ (.int .i64 0)).alloc (.cells #[.int .i64 (((fd h.cs i k).1 : Nat) : Int), .int .i64 (((fd h.cs i k).2 : Nat) : Int)] 82))) := by
      have he : emptyF h i k = ⟨setF h.cs i k (0, 0), h.ns⟩ := if_neg (fun e => h1 e.1)
      rw [he]
      refine ⟨rfl, (a1.count fun m hm => ?_).wide fun g a _ => Or.inl a, k1⟩
      have := hc m
      rw [if_neg (fun e => h1 (by rw [e]))] at this
      show ((cnt (setF h.cs i k (0, 0)) m : Nat) : Int) = ((cnt h.cs m : Nat) : Int)
      omega
    have hbe : ((((fd h.cs i k).1 : Nat) : Int) == 1) = false := by
      rw [beq_eq_false_iff_ne]
      omega
    clear hcell a0 a1 k1 hs hc hw h1
    generalize (fd h.cs i k).1 = q1 at *
    generalize (fd h.cs i k).2 = q2 at *
    go_enter Try.func71, Try.ntmps71
    go_wp2
    go_end0
    exact hP.out

end Go.Proofs.Ytpedaompcjaahaa
