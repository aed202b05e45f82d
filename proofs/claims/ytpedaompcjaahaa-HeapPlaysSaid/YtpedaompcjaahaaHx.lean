/-
  refer and add of the program's heap. Conditions: at most 100 cells; a heap's size (phi) below 2^20.
-/
import Derived.Test.YtpedaompcjaahaaHw
namespace Go.Proofs.Ytpedaompcjaahaa
open Go.RowKit

theorem St.storeF {S : Nat → Prop} {b : Nat} {s1 s2 : Int} {cs : List Cl} {ct : Nat → Int} {ns : List Nat} {w : World} (h : St S b s1 s2 cs ct ns w) {g cap : Nat} (h4 : w.cell? ⟨b, 4, none⟩ = some (.slice (some ⟨g, 0, none⟩) cs.length cap)) (_ : g ≠ b) {i k : Nat} (hi : i < cs.length) (hk : k < (cl cs i).fs.length) (h8 : k < 8) (v : Nat × Nat) :
    St S b s1 s2 (setF cs i k v) ct ns ((w.setCell ⟨g, i * 22 + k * 2, none⟩ (.int .i64 (v.1 : Nat))).setCell ⟨g, i * 22 + k * 2 + 1, none⟩ (.int .i64 (v.2 : Nat))) := by
  have e1 := h.store (cs' := setF cs i k (v.1, (fd cs i k).2)) (ct' := ct) h4 (n := i) (k := k * 2) (u := .int .i64 (v.1 : Nat)) (by omega) (setF_length _ _ _ _) (fun i' j hi' hj => by
    rw [pcv_setF cs _ i k _ hi hk h8]
    by_cases h1 : i' = i ∧ j = k * 2
    · rw [if_pos h1, if_pos h1]
    · rw [if_neg h1, if_neg h1]
      by_cases h2 : i' = i ∧ j = k * 2 + 1
      · rw [if_pos h2, h2.1, h2.2, pcv_to _ _ _ _ h8]
      · rw [if_neg h2])
  have hl := setF_length cs i k (v.1, (fd cs i k).2)
  refine e1.store (cs' := setF cs i k v) (ct' := ct) (g := g) (cap := cap) (by rw [World.cell?_setCell_other _ _ _ _ (by simp), hl]; exact h4) (n := i) (k := k * 2 + 1) (u := .int .i64 (v.2 : Nat)) (by omega) (by rw [setF_length, setF_length]) (fun i' j hi' hj => ?_)
  rw [pcv_setF cs _ i k _ hi hk h8, pcv_setF cs _ i k _ hi hk h8]
  by_cases h2 : i' = i ∧ j = k * 2 + 1
  · rw [if_pos h2, if_neg (c := i' = i ∧ j = k * 2) (by omega), if_pos h2]
  · rw [if_neg h2, if_neg h2, if_neg h2]
set_option maxRecDepth 100000 in
set_option maxHeartbeats 1600000 in
theorem refer_hp (S : Nat → Prop) (b : Nat) (s1 s2 : Int) (h : Hp) (i k t : Nat) (weak : Bool) (w : World) (hs : SH S b s1 s2 h w) (H : Good h) (hi : i < h.cs.length) (hk : k < (cl h.cs i).fs.length) (ht : t < h.cs.length) (hp : phi h ≤ 1000000) :
    Calls Try.prog 70 #[.pointer (some ⟨b, 4, none⟩), .int .i64 (i : Int), .int .i64 (k : Int), .int .i64 (t : Int), .bool weak] w (HtP S b s1 s2 (referF h i k t weak) w) := by
  have h8 : k < 8 := Nat.lt_of_lt_of_le hk (H.wide i)
  have hE := empty_hp S b s1 s2 h i k w hs H hi hk hp
  have hew := empty_wide h i k i hi
  have hi' : i < (emptyF h i k).cs.length := by rw [hew.2.1]; exact hi
  have ht' : t < (emptyF h i k).cs.length := by rw [hew.2.1]; exact ht
  have hk' : k < (cl (emptyF h i k).cs i).fs.length := by rw [hew.1]; exact hk
  have hp' := Nat.le_trans (phi_empty h i k hi hk) hp
  have hb := cnt_small hp' t
  have hfd : fd (emptyF h i k).cs i k = (0, 0) := by rw [empty_cs, fd_setF h.cs i k (0, 0) hi hk, if_pos ⟨rfl, rfl⟩]
  have hF : Hid (referF h i k t weak = ⟨setF (emptyF h i k).cs i k (if weak then 2 else 1, t), (emptyF h i k).ns⟩) := rfl
  have hc := fun m => cnt_setF (emptyF h i k).cs i k (if weak then 2 else 1, t) hi' hk' m
  generalize referF h i k t weak = h2 at *
  generalize emptyF h i k = h1 at *
  go_enter Try.func70, Try.ntmps70
  go_wp2_with fail
  refine hE.mono ?_
  rintro e w1 ⟨rfl, q1, q2⟩
  obtain ⟨g, cap, h4, hS, hgb, hlt, hcell, hfz⟩ := q1.cell hi'
  have hki : w1.cell? ⟨g, i * 22 + k * 2, none⟩ = some (.int .i64 0) := by
    rw [hcell i (k * 2) hi' (by omega), pcv_kind _ _ _ _ h8, hfd]
    rfl
  have hto : w1.cell? ⟨g, i * 22 + k * 2 + 1, none⟩ = some (.int .i64 0) := by
    rw [Nat.add_assoc, hcell i (k * 2 + 1) hi' (by omega), pcv_to _ _ _ _ h8, hfd]
    rfl
  have hct : w1.cell? ⟨g, t * 22 + 21, none⟩ = some (.int .i64 (cn h1.cs t)) := hcell t 21 ht' (by decide)
  have hne1 : ¬ t * 22 + 21 = i * 22 + k * 2 := by omega
  have hne2 : ¬ t * 22 + 21 = i * 22 + k * 2 + 1 := by omega
  have hne3 : ¬ i * 22 + k * 2 = t * 22 + 21 := by omega
  have hne4 : ¬ i * 22 + k * 2 + 1 = t * 22 + 21 := by omega
  have hne5 : ¬ g = b := hgb
  have hne6 : ¬ b = g := fun e => hgb e.symm
  have hw1 : IntKind.wrap .i64 (cn h1.cs t + 1) = cn h1.cs t + 1 := wrap_ok (by omega) (by omega)
  have a1 := q1.storeF h4 hgb hi' hk' h8 (if weak then 2 else 1, t)
  have k1 := (q2.set (p := ⟨g, i * 22 + k * 2, none⟩) hS (.int .i64 (((if weak then 2 else 1 : Nat), t).1 : Nat))).set (p := ⟨g, i * 22 + k * 2 + 1, none⟩) hS (.int .i64 ((t : Nat) : Int))
  cases weak
  · have hP : Hid (HtP S b s1 s2 h2 w (.returned (.tuple #[])) (((w1.setCell ⟨g, i * 22 + k * 2, none⟩ (.int .i64 1)).setCell ⟨g, i * 22 + k * 2 + 1, none⟩ (.int .i64 (t : Int))).setCell ⟨g, t * 22 + 21, none⟩ (.int .i64 (cn h1.cs t + 1)))) := by
      rw [hF.out]
      have a2 := a1.store (cs' := setF h1.cs i k (1, t)) (ct' := up (cn h1.cs) t (cn h1.cs t + 1)) (g := g) (cap := cap) (by rw [World.cell?_setCell_other _ _ _ _ (by simp), World.cell?_setCell_other _ _ _ _ (by simp), setF_length]; exact h4) (n := t) (k := 21) (u := .int .i64 (cn h1.cs t + 1)) (by decide) rfl (fun i j _ hj => pcv_up _ (cn h1.cs) t _ i j hj)
      refine ⟨rfl, (a2.count fun m hm => ?_), k1.set (p := ⟨g, t * 22 + 21, none⟩) hS _⟩
      have := hc m
      rw [hfd] at this
      show ((cnt (setF h1.cs i k (1, t)) m : Nat) : Int) = if m = t then ((cnt h1.cs t : Nat) : Int) + 1 else ((cnt h1.cs m : Nat) : Int)
      simp at this
      rw [this]
      by_cases hm : m = t
      · subst hm
        simp
      · rw [if_neg (fun e => hm e.symm), if_neg hm]
        omega
    clear a1 k1 hcell q1 q2 hc hF hE hfd
    generalize cn h1.cs t = q at *
    go_wp2
    go_end0
    exact hP.out
  · have hP : Hid (HtP S b s1 s2 h2 w (.returned (.tuple #[])) ((w1.setCell ⟨g, i * 22 + k * 2, none⟩ (.int .i64 2)).setCell ⟨g, i * 22 + k * 2 + 1, none⟩ (.int .i64 (t : Int)))) := by
      rw [hF.out]
      refine ⟨rfl, (a1.count fun m hm => ?_), k1⟩
      have := hc m
      rw [hfd] at this
      show ((cnt (setF h1.cs i k (2, t)) m : Nat) : Int) = ((cnt h1.cs m : Nat) : Int)
      simp at this
      rw [this]
    clear a1 k1 hcell q1 q2 hc hF hE hfd
    generalize cn h1.cs t = q at *
    go_wp2
    go_end0
    exact hP.out

/-- A new cell. -/
theorem cnt_app (cs : List Cl) (c : Cl) (hf : ∀ n, strong n c = 0) (hr : c.rt = 0) (n : Nat) (_ : n ≤ cs.length) : cnt (cs ++ [c]) n = cnt cs n := by
  unfold cnt
  rw [cl_app]
  have h1 : ((cs ++ [c]).map (strong n)).sum = (cs.map (strong n)).sum := by simp [hf]
  rw [h1]
  split
  · rename_i e
    rw [e, cl_out cs cs.length (Nat.le_refl _), hr]
  · rfl
theorem sum_zero {α : Type} (f : α → Nat) : ∀ l : List α, (∀ a ∈ l, f a = 0) → (l.map f).sum = 0
  | [], _ => rfl
  | a :: l, h => by
    simp only [List.map_cons, List.sum_cons]
    rw [h a (by simp), sum_zero f l (fun b hb => h b (by simp [hb]))]
theorem cnt_none {h : Hp} (H : Good h) : cnt h.cs h.cs.length = 0 := by
  unfold cnt
  rw [cl_out h.cs h.cs.length (Nat.le_refl _)]
  rw [sum_zero]
  intro c hc
  obtain ⟨i, hi, rfl⟩ := List.mem_iff_getElem.1 hc
  unfold strong
  rw [List.countP_eq_zero]
  intro x hx
  obtain ⟨k, hk, rfl⟩ := List.mem_iff_getElem.1 hx
  have e : fd h.cs i k = h.cs[i].fs[k] := by
    unfold fd cl
    rw [List.getElem?_eq_getElem hi]
    simp [hk]
  intro he
  have he2 := eq_of_beq he
  have := H.lead i k (by rw [e, he2]; simp)
  rw [e, he2] at this
  simp at this
theorem pcv_app (cs : List Cl) (ct : Nat → Int) (f : Nat) (wt : Bool) (i j : Nat) : pcv (cs ++ [⟨List.replicate f (0, 0), wt, false, false, 0⟩]) (up ct cs.length 0) i j = if i = cs.length then
    (if j = 16 then .int .i64 (f : Nat) else if j = 17 then .bool wt else if j = 18 then .bool false else if j = 19 then .bool false else .int .i64 0) else pcv cs ct i j := by
  by_cases hi : i = cs.length
  · subst hi
    have hfd : ∀ k, fd (cs ++ [⟨List.replicate f (0, 0), wt, false, false, 0⟩]) cs.length k = (0, 0) := by
      intro k
      rw [fd_app, if_pos rfl]
      exact rep_get f k
    have hcl : cl (cs ++ [⟨List.replicate f (0, 0), wt, false, false, 0⟩]) cs.length = ⟨List.replicate f (0, 0), wt, false, false, 0⟩ := by rw [cl_app, if_pos rfl]
    rw [if_pos rfl]
    unfold pcv
    rw [hfd, hcl]
    by_cases h1 : j < 16
    · rw [if_pos h1, if_neg (c := j = 16) (by omega), if_neg (c := j = 17) (by omega), if_neg (c := j = 18) (by omega), if_neg (c := j = 19) (by omega)]
      split <;> rfl
    · rw [if_neg h1]
      by_cases h2 : j = 16
      · simp [h2]
      · by_cases h3 : j = 17
        · simp [h3]
        · by_cases h4 : j = 18
          · simp [h4]
          · by_cases h5 : j = 19
            · simp [h5]
            · simp [h2, h3, h4, h5, up]
  · rw [if_neg hi]
    refine pcv_other (fun k => ?_) ?_ ?_ ?_ ?_ ?_ ?_
    · rw [fd_app, if_neg hi]
    all_goals first | rw [cl_app, if_neg hi] | (unfold up; rw [if_neg hi])

end Go.Proofs.Ytpedaompcjaahaa
