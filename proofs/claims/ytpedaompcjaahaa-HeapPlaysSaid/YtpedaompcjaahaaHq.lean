/-
  What the acts keep of a heap: references lead to cells, strong ones to cells that have not ended; how much there is. Conditions: none.
-/
import Derived.Test.YtpedaompcjaahaaHp
namespace Go.Proofs.Ytpedaompcjaahaa
open Go.RowKit

theorem one_le_cnt {cs : List Cl} {i k n : Nat} (h : fd cs i k = (1, n)) : 1 ≤ cnt cs n := by
  have hi : i < cs.length := by
    apply Decidable.byContradiction
    intro hn
    rw [fd_out cs i k (by rw [cl_out cs i (by omega)]; exact Nat.zero_le _)] at h
    simp at h
  have hk : k < (cl cs i).fs.length := by
    apply Decidable.byContradiction
    intro hn
    rw [fd_out cs i k (by omega)] at h
    simp at h
  have := cnt_setF cs i k (0, 0) hi hk n
  rw [if_pos h] at this
  simp at this
  omega
theorem rt_le_cnt (cs : List Cl) (n : Nat) : (cl cs n).rt ≤ cnt cs n := by
  unfold cnt
  omega
theorem fd_in {cs : List Cl} {i k : Nat} (h : (fd cs i k).1 ≠ 0) : i < cs.length ∧ k < (cl cs i).fs.length := by
  constructor
  · apply Decidable.byContradiction
    intro hn
    exact h (by rw [fd_out cs i k (by rw [cl_out cs i (by omega)]; exact Nat.zero_le _)])
  · apply Decidable.byContradiction
    intro hn
    exact h (by rw [fd_out cs i k (by omega)])
theorem Good.setF {cs : List Cl} {ns : List Nat} (h : Good ⟨cs, ns⟩) {i k : Nat} (hi : i < cs.length) (hk : k < (cl cs i).fs.length) {v : Nat × Nat} (hv : v.1 ≤ 2) (h0 : v.1 = 0 → v.2 = 0) (hl : v.1 ≠ 0 → v.2 < cs.length) (h1 : v.1 = 1 → (cl cs v.2).en = false) :
    Good ⟨setF cs i k v, ns⟩ := by
  have hf : ∀ a b, fd (Ytpedaompcjaahaa.setF cs i k v) a b = if a = i ∧ b = k then v else fd cs a b := fd_setF cs i k v hi hk
  have hkp := fun j => setF_keeps cs i k j v hi
  have hlen : (Ytpedaompcjaahaa.setF cs i k v).length = cs.length := setF_length cs i k v
  refine ⟨?_, ?_, ?_, ?_, ?_, ?_, ?_, ?_⟩
  · show (Ytpedaompcjaahaa.setF cs i k v).length ≤ 100
    rw [hlen]
    exact h.few
  · intro j
    show (cl (Ytpedaompcjaahaa.setF cs i k v) j).fs.length ≤ 8
    rw [(hkp j).2.2.2.2]
    exact h.wide j
  · intro a b
    show (fd (Ytpedaompcjaahaa.setF cs i k v) a b).1 ≤ 2
    rw [hf]
    split
    · exact hv
    · exact h.kind a b
  · intro a b
    show (fd (Ytpedaompcjaahaa.setF cs i k v) a b).1 = 0 → (fd (Ytpedaompcjaahaa.setF cs i k v) a b).2 = 0
    rw [hf]
    split
    · exact h0
    · exact h.none a b
  · intro a b
    show (fd (Ytpedaompcjaahaa.setF cs i k v) a b).1 ≠ 0 → (fd (Ytpedaompcjaahaa.setF cs i k v) a b).2 < (Ytpedaompcjaahaa.setF cs i k v).length
    rw [hf, hlen]
    split
    · exact hl
    · exact h.lead a b
  · intro a b
    show (fd (Ytpedaompcjaahaa.setF cs i k v) a b).1 = 1 → (cl (Ytpedaompcjaahaa.setF cs i k v) (fd (Ytpedaompcjaahaa.setF cs i k v) a b).2).en = false
    rw [hf]
    split
    · intro e
      rw [(hkp _).2.2.2.1]
      exact h1 e
    · intro e
      rw [(hkp _).2.2.2.1]
      exact h.live a b e
  · intro j
    show (cl (Ytpedaompcjaahaa.setF cs i k v) j).en = true → (cl (Ytpedaompcjaahaa.setF cs i k v) j).rt = 0
    rw [(hkp j).2.2.2.1, (hkp j).1]
    exact h.over j
  · intro n hn
    show n < (Ytpedaompcjaahaa.setF cs i k v).length
    rw [hlen]
    exact h.told n hn
theorem Good.zero {cs : List Cl} {ns : List Nat} (h : Good ⟨cs, ns⟩) {i k : Nat} (hi : i < cs.length) (hk : k < (cl cs i).fs.length) : Good ⟨Ytpedaompcjaahaa.setF cs i k (0, 0), ns⟩ :=
  h.setF hi hk (Nat.zero_le _) (fun _ => rfl) (fun e => absurd rfl e) (fun e => by simp at e)
theorem Good.note {cs : List Cl} {ns : List Nat} (h : Good ⟨cs, ns⟩) {n : Nat} (hn : n < cs.length) : Good ⟨cs, ns ++ [n]⟩ :=
  ⟨h.few, h.wide, h.kind, h.none, h.lead, h.live, h.over, fun m hm => by
    rcases List.mem_append.1 hm with h1 | h1
    · exact h.told m h1
    · simp at h1
      subst h1
      exact hn⟩
theorem Good.less {cs : List Cl} {n : Nat} {ns : List Nat} (h : Good ⟨cs, n :: ns⟩) : Good ⟨cs, ns⟩ :=
  ⟨h.few, h.wide, h.kind, h.none, h.lead, h.live, h.over, fun m hm => h.told m (List.mem_cons_of_mem _ hm)⟩
theorem Good.empty {h : Hp} (H : Good h) {i k : Nat} (hi : i < h.cs.length) (hk : k < (cl h.cs i).fs.length) : Good (emptyF h i k) := by
  unfold emptyF
  split
  · rename_i hc
    refine (Good.zero H hi hk).note ?_
    rw [setF_length]
    exact H.lead i k (by omega)
  · exact Good.zero H hi hk
theorem empty_cs (h : Hp) (i k : Nat) : (emptyF h i k).cs = setF h.cs i k (0, 0) := by
  unfold emptyF
  split <;> rfl
/-- A cell is put in another's place that has its fields. -/
theorem Good.cell {cs : List Cl} {ns : List Nat} (h : Good ⟨cs, ns⟩) {i : Nat} (hi : i < cs.length) {c : Cl} (hf : c.fs = (cl cs i).fs) (he : c.en = true → c.rt = 0) (hl : c.en = true → ∀ a b, fd cs a b ≠ (1, i)) : Good ⟨cs.set i c, ns⟩ := by
  have hc := fun j => cl_set cs i j c hi
  have hfd : ∀ a b, fd (cs.set i c) a b = fd cs a b := by
    intro a b
    unfold fd
    rw [hc]
    split
    · rename_i e
      subst e
      rw [hf]
    · rfl
  refine ⟨?_, ?_, ?_, ?_, ?_, ?_, ?_, ?_⟩
  · show (cs.set i c).length ≤ 100
    rw [List.length_set]
    exact h.few
  · intro j
    show (cl (cs.set i c) j).fs.length ≤ 8
    rw [hc]
    split
    · rw [hf]
      exact h.wide i
    · exact h.wide j
  · intro a b
    show (fd (cs.set i c) a b).1 ≤ 2
    rw [hfd]
    exact h.kind a b
  · intro a b
    show (fd (cs.set i c) a b).1 = 0 → (fd (cs.set i c) a b).2 = 0
    rw [hfd]
    exact h.none a b
  · intro a b
    show (fd (cs.set i c) a b).1 ≠ 0 → (fd (cs.set i c) a b).2 < (cs.set i c).length
    rw [hfd, List.length_set]
    exact h.lead a b
  · intro a b
    show (fd (cs.set i c) a b).1 = 1 → (cl (cs.set i c) (fd (cs.set i c) a b).2).en = false
    rw [hfd, hc]
    intro e
    split
    · rename_i e2
      cases hen : c.en
      · rfl
      · exact absurd (Prod.ext e e2) (hl hen a b)
    · exact h.live a b e
  · intro j
    show (cl (cs.set i c) j).en = true → (cl (cs.set i c) j).rt = 0
    rw [hc]
    split
    · exact he
    · exact h.over j
  · intro n hn
    show n < (cs.set i c).length
    rw [List.length_set]
    exact h.told n hn
theorem Good.root {h : Hp} (H : Good h) {i : Nat} (hi : i < h.cs.length) (he : (cl h.cs i).en = false) : Good (rootF h i) :=
  H.cell hi rfl (fun e => by simp [he] at e) (fun e => by simp [he] at e)
theorem Good.lower {h : Hp} (H : Good h) {i : Nat} (hi : i < h.cs.length) (he : (cl h.cs i).en = false) (r : Nat) : Good ⟨setR h.cs i r, h.ns⟩ :=
  H.cell hi rfl (fun e => by simp [he] at e) (fun e => by simp [he] at e)
theorem Good.drop {h : Hp} (H : Good h) {i : Nat} (hi : i < h.cs.length) (he : (cl h.cs i).en = false) : Good (dropF h i) := by
  unfold dropF
  split
  · exact (H.lower hi he _).note (by rw [setR_length]; exact hi)
  · exact H.lower hi he _
theorem Good.tell {h : Hp} (H : Good h) {i : Nat} (hi : i < h.cs.length) (he : (cl h.cs i).en = false) : Good ⟨tellF h.cs i, h.ns⟩ :=
  H.cell hi rfl (fun e => by simp [he] at e) (fun e => by simp [he] at e)
theorem Good.refer {h : Hp} (H : Good h) {i k t : Nat} (hi : i < h.cs.length) (hk : k < (cl h.cs i).fs.length) (ht : t < h.cs.length) (he : (cl h.cs t).en = false) (weak : Bool) : Good (referF h i k t weak) := by
  unfold referF
  have h1 := H.empty hi hk
  have h2 : (emptyF h i k).cs = Ytpedaompcjaahaa.setF h.cs i k (0, 0) := empty_cs h i k
  have h3 := setF_keeps h.cs i k i (0, 0) hi
  have h4 := setF_keeps h.cs i k t (0, 0) hi
  refine Good.setF (cs := (emptyF h i k).cs) (ns := (emptyF h i k).ns) h1 (by rw [h2, setF_length]; exact hi) (by rw [h2, h3.2.2.2.2]; exact hk) ?_ ?_ ?_ ?_
  · cases weak <;> simp
  · cases weak <;> simp
  · intro _
    rw [h2, setF_length]
    exact ht
  · intro _
    show (cl (emptyF h i k).cs t).en = false
    rw [h2, h4.2.2.2.1]
    exact he
theorem fd_app (cs : List Cl) (c : Cl) (i k : Nat) : fd (cs ++ [c]) i k = if i = cs.length then c.fs[k]?.getD (0, 0) else fd cs i k := by
  unfold fd
  rw [cl_app]
  split <;> rfl
theorem rep_get (f k : Nat) : (List.replicate f ((0 : Nat), (0 : Nat)))[k]?.getD (0, 0) = (0, 0) := by
  rw [List.getElem?_replicate]
  split <;> rfl
theorem Good.make {h : Hp} (H : Good h) {f : Nat} (hf : f ≤ 8) (hl : h.cs.length < 100) (wt : Bool) : Good (makeF h f wt) := by
  unfold makeF
  have hfd : ∀ a b, fd (h.cs ++ [⟨List.replicate f (0, 0), wt, false, false, 0⟩]) a b = if a = h.cs.length then (0, 0) else fd h.cs a b := by
    intro a b
    rw [fd_app]
    split
    · exact rep_get f b
    · rfl
  have hcl := fun j => cl_app h.cs ⟨List.replicate f (0, 0), wt, false, false, 0⟩ j
  refine ⟨?_, ?_, ?_, ?_, ?_, ?_, ?_, ?_⟩
  · simp
    omega
  · intro j
    dsimp only
    rw [hcl]
    split
    · simpa using hf
    · exact H.wide j
  · intro a b
    dsimp only
    rw [hfd]
    split
    · exact Nat.zero_le _
    · exact H.kind a b
  · intro a b
    dsimp only
    rw [hfd]
    split
    · exact fun _ => rfl
    · exact H.none a b
  · intro a b
    dsimp only
    rw [hfd]
    split
    · exact fun e => absurd rfl e
    · intro e
      have := H.lead a b e
      simp
      omega
  · intro a b
    dsimp only
    rw [hfd]
    split
    · intro e
      simp at e
    · intro e
      rw [hcl]
      split
      · rfl
      · exact H.live a b e
  · intro j
    dsimp only
    rw [hcl]
    split
    · intro e
      simp at e
    · exact H.over j
  · intro n hn
    simp at hn ⊢
    rcases hn with h1 | h1
    · have := H.told n h1
      omega
    · omega
theorem wkStep_eq (n i : Nat) (cs : List Cl) (k : Nat) : wkStep n i cs k = if fd cs i k = (2, n) then Ytpedaompcjaahaa.setF cs i k (0, 0) else cs := rfl
/-- What the going of weak references leaves: everything but they. -/
structure Wk (n : Nat) (cs cs' : List Cl) : Prop where
  len : cs'.length = cs.length
  cell : ∀ j, (cl cs' j).rt = (cl cs j).rt ∧ (cl cs' j).wt = (cl cs j).wt ∧ (cl cs' j).td = (cl cs j).td ∧ (cl cs' j).en = (cl cs j).en ∧ (cl cs' j).fs.length = (cl cs j).fs.length
  cnt : ∀ m, cnt cs' m = cnt cs m
  phi : ∀ ns, phi ⟨cs', ns⟩ = phi ⟨cs, ns⟩
  good : ∀ ns, Good ⟨cs, ns⟩ → Good ⟨cs', ns⟩
theorem Wk.refl (n : Nat) (cs : List Cl) : Wk n cs cs := ⟨rfl, fun _ => ⟨rfl, rfl, rfl, rfl, rfl⟩, fun _ => rfl, fun _ => rfl, fun _ h => h⟩
theorem Wk.trans {n : Nat} {a b c : List Cl} (h : Wk n a b) (k : Wk n b c) : Wk n a c :=
  ⟨k.len.trans h.len, fun j => ⟨(k.cell j).1.trans (h.cell j).1, (k.cell j).2.1.trans (h.cell j).2.1, (k.cell j).2.2.1.trans (h.cell j).2.2.1, (k.cell j).2.2.2.1.trans (h.cell j).2.2.2.1, (k.cell j).2.2.2.2.trans (h.cell j).2.2.2.2⟩, fun m => (k.cnt m).trans (h.cnt m), fun ns => (k.phi ns).trans (h.phi ns), fun ns g => k.good ns (h.good ns g)⟩
theorem wk_step (n i : Nat) (cs : List Cl) (k : Nat) : Wk n cs (wkStep n i cs k) := by
  rw [wkStep_eq]
  split
  · rename_i h
    have hin := fd_in (cs := cs) (i := i) (k := k) (by rw [h]; simp)
    refine ⟨setF_length _ _ _ _, fun j => setF_keeps cs i k j (0, 0) hin.1, fun m => ?_, fun ns => ?_, fun ns g => Good.zero g hin.1 hin.2⟩
    · have := cnt_setF cs i k (0, 0) hin.1 hin.2 m
      rw [h] at this
      simpa using this
    · have := phi_setF cs i k (0, 0) hin.1 hin.2
      rw [h] at this
      unfold Ytpedaompcjaahaa.phi
      simp at this
      simp [this]
  · exact Wk.refl n cs
theorem wk_row (n : Nat) (cs : List Cl) (i : Nat) : ∀ m, Wk n cs (wkRow n cs i m)
  | 0 => Wk.refl n cs
  | m + 1 => by
    unfold wkRow
    rw [range_foldl_succ]
    exact (wk_row n cs i m).trans (wk_step n i _ m)
theorem wk_all (n : Nat) (cs : List Cl) : ∀ m, Wk n cs (wkAll n cs m)
  | 0 => Wk.refl n cs
  | m + 1 => by
    unfold wkAll
    rw [range_foldl_succ]
    exact (wk_all n cs m).trans (wk_row n _ m 8)
theorem wkRow_succ (n : Nat) (cs : List Cl) (i m : Nat) : wkRow n cs i (m + 1) = wkStep n i (wkRow n cs i m) m := range_foldl_succ _ _ _
theorem wkAll_succ (n : Nat) (cs : List Cl) (m : Nat) : wkAll n cs (m + 1) = wkRow n (wkAll n cs m) m 8 := range_foldl_succ _ _ _
theorem emptyAll_succ (h : Hp) (i m : Nat) : emptyAll h i (m + 1) = emptyF (emptyAll h i m) i m := range_foldl_succ _ _ _
/-- The row's later fields are as they were. -/
theorem wkRow_later (n : Nat) (cs : List Cl) (i : Nat) : ∀ m k, m ≤ k → fd (wkRow n cs i m) i k = fd cs i k
  | 0, _, _ => rfl
  | m + 1, k, h => by
    rw [wkRow_succ, wkStep_eq]
    split
    · rename_i e
      have hin := fd_in (cs := wkRow n cs i m) (i := i) (k := m) (by rw [e]; simp)
      rw [fd_setF _ i m (0, 0) hin.1 hin.2, if_neg (by omega)]
      exact wkRow_later n cs i m k (by omega)
    · exact wkRow_later n cs i m k (by omega)
/-- Where the fields end the row is done. -/
theorem wkRow_done (n : Nat) (cs : List Cl) (i m : Nat) (h : (cl cs i).fs.length ≤ m) : ∀ d, wkRow n cs i (m + d) = wkRow n cs i m
  | 0 => rfl
  | d + 1 => by
    rw [← Nat.add_assoc, wkRow_succ, wkStep_eq, wkRow_later n cs i (m + d) (m + d) (Nat.le_refl _), fd_out cs i (m + d) (by omega)]
    simp
    exact wkRow_done n cs i m h d
theorem phi_empty (h : Hp) (i k : Nat) (hi : i < h.cs.length) (hk : k < (cl h.cs i).fs.length) : phi (emptyF h i k) ≤ phi h := by
  have h1 := phi_setF h.cs i k (0, 0) hi hk
  unfold emptyF
  split
  · rename_i hc
    rw [if_pos hc.1] at h1
    unfold phi
    simp at h1 ⊢
    omega
  · unfold phi
    simp at h1 ⊢
    omega
theorem empty_wide (h : Hp) (i k j : Nat) (hi : i < h.cs.length) : (cl (emptyF h i k).cs j).fs.length = (cl h.cs j).fs.length ∧ (emptyF h i k).cs.length = h.cs.length ∧ (cl (emptyF h i k).cs j).td = (cl h.cs j).td ∧ (cl (emptyF h i k).cs j).en = (cl h.cs j).en ∧ (cl (emptyF h i k).cs j).wt = (cl h.cs j).wt ∧ (cl (emptyF h i k).cs j).rt = (cl h.cs j).rt := by
  rw [empty_cs]
  have := setF_keeps h.cs i k j (0, 0) hi
  exact ⟨this.2.2.2.2, setF_length _ _ _ _, this.2.2.1, this.2.2.2.1, this.2.1, this.1⟩
/-- All of a cell's fields empty, up to one. -/
theorem empty_all (h : Hp) (i : Nat) (hi : i < h.cs.length) : ∀ m, m ≤ (cl h.cs i).fs.length → (Good h → Good (emptyAll h i m)) ∧ phi (emptyAll h i m) ≤ phi h ∧ (emptyAll h i m).cs.length = h.cs.length ∧ ∀ j, (cl (emptyAll h i m).cs j).fs.length = (cl h.cs j).fs.length ∧ (cl (emptyAll h i m).cs j).td = (cl h.cs j).td ∧ (cl (emptyAll h i m).cs j).en = (cl h.cs j).en ∧ (cl (emptyAll h i m).cs j).wt = (cl h.cs j).wt ∧ (cl (emptyAll h i m).cs j).rt = (cl h.cs j).rt
  | 0, _ => ⟨id, Nat.le_refl _, rfl, fun _ => ⟨rfl, rfl, rfl, rfl, rfl⟩⟩
  | m + 1, hm => by
    obtain ⟨h1, h2, h3, h4⟩ := empty_all h i hi m (by omega)
    rw [emptyAll_succ]
    have hi' : i < (emptyAll h i m).cs.length := by omega
    have hk' : m < (cl (emptyAll h i m).cs i).fs.length := by
      rw [(h4 i).1]
      omega
    have hw := fun j => empty_wide (emptyAll h i m) i m j hi'
    exact ⟨fun g => (h1 g).empty hi' hk', Nat.le_trans (phi_empty _ i m hi' hk') h2, (hw i).2.1.trans h3, fun j => ⟨(hw j).1.trans (h4 j).1, (hw j).2.2.1.trans (h4 j).2.1, (hw j).2.2.2.1.trans (h4 j).2.2.1, (hw j).2.2.2.2.1.trans (h4 j).2.2.2.1, (hw j).2.2.2.2.2.trans (h4 j).2.2.2.2⟩⟩
/-- The beginning of a cell's end: it has ended, and no weak reference leads to it. -/
def endBase (h : Hp) (n : Nat) : Hp := ⟨wkAll n (setE h.cs n) h.cs.length, h.ns⟩
theorem cl_setE (cs : List Cl) (n j : Nat) (h : n < cs.length) : cl (setE cs n) j = if j = n then { cl cs n with en := true } else cl cs j := cl_set cs n j _ h
theorem end_base {h : Hp} {n : Nat} (hn : n < h.cs.length) : (cnt h.cs n = 0 → Good h → Good (endBase h n)) ∧ phi (endBase h n) = phi h ∧ (endBase h n).cs.length = h.cs.length ∧ (∀ j, (cl (endBase h n).cs j).fs.length = (cl h.cs j).fs.length ∧ (cl (endBase h n).cs j).td = (cl h.cs j).td ∧ (cl (endBase h n).cs j).wt = (cl h.cs j).wt ∧ (cl (endBase h n).cs j).rt = (cl h.cs j).rt) ∧ ∀ m, cnt (endBase h n).cs m = cnt h.cs m := by
  have hw := wk_all n (setE h.cs n) h.cs.length
  have hp : phi ⟨setE h.cs n, h.ns⟩ = phi h := by
    have := phi_same h.cs n { cl h.cs n with en := true } hn rfl
    unfold phi
    have e : setE h.cs n = h.cs.set n { cl h.cs n with en := true } := rfl
    rw [e]
    dsimp only at this ⊢
    omega
  refine ⟨fun h0 g => hw.good h.ns ?_, (hw.phi h.ns).trans hp, hw.len.trans (setE_length _ _), fun j => ?_, fun m => ?_⟩
  · refine Good.cell g hn rfl (fun _ => ?_) (fun _ a b e => ?_)
    · have := rt_le_cnt h.cs n
      show (cl h.cs n).rt = 0
      omega
    · have := one_le_cnt e
      omega
  · have hc := hw.cell j
    have he := cl_setE h.cs n j hn
    rw [he] at hc
    refine ⟨hc.2.2.2.2.trans ?_, hc.2.2.1.trans ?_, hc.2.1.trans ?_, hc.1.trans ?_⟩
    all_goals
      split
      · rename_i e
        rw [e]
      · rfl
  · rw [show (endBase h n).cs = wkAll n (setE h.cs n) h.cs.length from rfl, hw.cnt m]
    have := cnt_same h.cs n { cl h.cs n with en := true } hn rfl m
    exact Nat.add_right_cancel this
theorem endF_eq (h : Hp) (n : Nat) : endF h n = emptyAll (endBase h n) n (cl h.cs n).fs.length := rfl
theorem end_all {h : Hp} {n : Nat} (hn : n < h.cs.length) : (cnt h.cs n = 0 → Good h → Good (endF h n)) ∧ phi (endF h n) ≤ phi h ∧ (endF h n).cs.length = h.cs.length ∧ ∀ j, (cl (endF h n).cs j).fs.length = (cl h.cs j).fs.length ∧ (cl (endF h n).cs j).td = (cl h.cs j).td := by
  obtain ⟨h1, h2, h3, h4, _⟩ := end_base hn
  obtain ⟨k1, k2, k3, k4⟩ := empty_all (endBase h n) n (by omega) (cl h.cs n).fs.length (by rw [(h4 n).1]; exact Nat.le_refl _)
  rw [endF_eq]
  exact ⟨fun h0 g => k1 (h1 h0 g), by omega, k3.trans h3, fun j => ⟨(k4 j).1.trans (h4 j).1, (k4 j).2.1.trans (h4 j).2.1⟩⟩
theorem phi_less (cs : List Cl) (n : Nat) (ns : List Nat) : phi ⟨cs, n :: ns⟩ = phi ⟨cs, ns⟩ + 1 := by
  unfold phi
  simp
  omega
theorem phi_root (h : Hp) (i : Nat) (hi : i < h.cs.length) : phi (rootF h i) = phi h + 1 := by
  have := phi_same h.cs i { cl h.cs i with rt := (cl h.cs i).rt + 1 } hi rfl
  unfold rootF setR phi
  dsimp only at this ⊢
  omega
theorem phi_tell (h : Hp) (i : Nat) (hi : i < h.cs.length) : phi ⟨tellF h.cs i, h.ns⟩ = phi h + 1 := by
  have := phi_same h.cs i { cl h.cs i with td := true, rt := (cl h.cs i).rt + 1 } hi rfl
  unfold tellF phi
  dsimp only at this ⊢
  omega
theorem phi_drop (h : Hp) (i : Nat) (hi : i < h.cs.length) (hr : 0 < (cl h.cs i).rt) : phi (dropF h i) ≤ phi h := by
  have := phi_same h.cs i { cl h.cs i with rt := (cl h.cs i).rt - 1 } hi rfl
  unfold dropF setR
  split
  · unfold phi
    dsimp only at this ⊢
    rw [List.length_append]
    simp only [List.length_singleton]
    omega
  · unfold phi
    dsimp only at this ⊢
    omega
theorem phi_make (h : Hp) (f : Nat) (wt : Bool) : phi (makeF h f wt) = phi h + 1 := by
  unfold makeF phi
  have : weigh ⟨List.replicate f (0, 0), wt, false, false, 0⟩ = 0 := by
    unfold weigh strongs
    simp [List.countP_replicate]
  simp [this]
  omega
theorem phi_refer (h : Hp) (i k t : Nat) (weak : Bool) (hi : i < h.cs.length) (hk : k < (cl h.cs i).fs.length) : phi (referF h i k t weak) ≤ phi h + 1 := by
  have h0 := phi_empty h i k hi hk
  have h1 := empty_wide h i k i hi
  have h2 := phi_setF (emptyF h i k).cs i k (if weak then 2 else 1, t) (by rw [h1.2.1]; exact hi) (by rw [h1.1]; exact hk)
  unfold referF
  have hle : (if ((if weak then 2 else 1, t) : Nat × Nat).1 = 1 then 1 else 0) ≤ 1 := by cases weak <;> simp
  have e : phi ⟨setF (emptyF h i k).cs i k (if weak then 2 else 1, t), (emptyF h i k).ns⟩ ≤ phi (emptyF h i k) + 1 := by
    unfold phi
    dsimp only at hle h2 ⊢
    omega
  omega

end Go.Proofs.Ytpedaompcjaahaa
