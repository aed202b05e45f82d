/-
  Heaps as values: cells with fields (0 empty, 1 strong, 2 weak), counts, notes; what the acts make of them. Conditions: none.
-/
import Derived.Test.YtpedaompcjaahaaLk
import Derived.Below
namespace Go.Proofs.Ytpedaompcjaahaa
open Go.RowKit

structure Cl where
  fs : List (Nat × Nat)
  wt : Bool
  td : Bool
  en : Bool
  rt : Nat
structure Hp where
  cs : List Cl
  ns : List Nat

def cl (cs : List Cl) (i : Nat) : Cl := cs[i]?.getD ⟨[], false, false, false, 0⟩
def fd (cs : List Cl) (i k : Nat) : Nat × Nat := (cl cs i).fs[k]?.getD (0, 0)
def setF (cs : List Cl) (i k : Nat) (v : Nat × Nat) : List Cl := cs.set i { cl cs i with fs := (cl cs i).fs.set k v }
def setR (cs : List Cl) (i r : Nat) : List Cl := cs.set i { cl cs i with rt := r }
def setT (cs : List Cl) (i : Nat) : List Cl := cs.set i { cl cs i with td := true }
def setE (cs : List Cl) (i : Nat) : List Cl := cs.set i { cl cs i with en := true }
def strong (n : Nat) (c : Cl) : Nat := c.fs.countP (fun x => x == (1, n))
def strongs (c : Cl) : Nat := c.fs.countP (fun x => x.1 == 1)
def cnt (cs : List Cl) (n : Nat) : Nat := (cl cs n).rt + (cs.map (strong n)).sum
def weigh (c : Cl) : Nat := c.rt + strongs c
def phi (h : Hp) : Nat := h.ns.length + (h.cs.map weigh).sum

/-- A field becomes empty: what it led to is noted, if that was the last one. -/
def emptyF (h : Hp) (i k : Nat) : Hp :=
  if (fd h.cs i k).1 = 1 ∧ cnt (setF h.cs i k (0, 0)) (fd h.cs i k).2 = 0 then ⟨setF h.cs i k (0, 0), h.ns ++ [(fd h.cs i k).2]⟩ else ⟨setF h.cs i k (0, 0), h.ns⟩
def makeF (h : Hp) (f : Nat) (wt : Bool) : Hp := ⟨h.cs ++ [⟨List.replicate f (0, 0), wt, false, false, 0⟩], h.ns ++ [h.cs.length]⟩
def referF (h : Hp) (i k t : Nat) (weak : Bool) : Hp := ⟨setF (emptyF h i k).cs i k (if weak then 2 else 1, t), (emptyF h i k).ns⟩
def rootF (h : Hp) (i : Nat) : Hp := ⟨setR h.cs i ((cl h.cs i).rt + 1), h.ns⟩
def dropF (h : Hp) (i : Nat) : Hp :=
  if cnt (setR h.cs i ((cl h.cs i).rt - 1)) i = 0 then ⟨setR h.cs i ((cl h.cs i).rt - 1), h.ns ++ [i]⟩ else ⟨setR h.cs i ((cl h.cs i).rt - 1), h.ns⟩
def wkStep (n i : Nat) (cs : List Cl) (k : Nat) : List Cl := if fd cs i k = (2, n) then setF cs i k (0, 0) else cs
def wkRow (n : Nat) (cs : List Cl) (i m : Nat) : List Cl := (List.range m).foldl (wkStep n i) cs
def wkAll (n : Nat) (cs : List Cl) (m : Nat) : List Cl := (List.range m).foldl (fun cs i => wkRow n cs i 8) cs
def emptyAll (h : Hp) (i m : Nat) : Hp := (List.range m).foldl (fun h k => emptyF h i k) h
def endF (h : Hp) (n : Nat) : Hp := emptyAll ⟨wkAll n (setE h.cs n) h.cs.length, h.ns⟩ n (cl h.cs n).fs.length
def tellF (cs : List Cl) (n : Nat) : List Cl := cs.set n { cl cs n with td := true, rt := (cl cs n).rt + 1 }
def nextF : Nat → Hp → Hp × Option Nat
  | 0, h => (h, none)
  | f + 1, h => match h.ns with
    | [] => (h, none)
    | n :: ns =>
      if 0 < cnt h.cs n ∨ (cl h.cs n).en = true then nextF f ⟨h.cs, ns⟩
      else if (cl h.cs n).wt = true ∧ (cl h.cs n).td = false then (⟨tellF h.cs n, ns⟩, some n)
      else nextF f (endF ⟨h.cs, ns⟩ n)
def nextH (h : Hp) : Hp × Option Nat := nextF (phi h) h
def untold (h : Hp) : Nat := h.cs.countP (fun c => !c.td)
def settleF : Nat → Hp → Hp × List Nat
  | 0, h => (h, [])
  | f + 1, h => match nextH h with
    | (h1, none) => (h1, [])
    | (h1, some n) => ((settleF f (dropF h1 n)).1, n :: (settleF f (dropF h1 n)).2)
def settleH (h : Hp) : Hp × List Nat := settleF (untold h + 1) h

section lists
theorem countP_set {α : Type} (p : α → Bool) : ∀ (l : List α) (k : Nat) (v d : α), k < l.length → (l.set k v).countP p + (if p (l[k]?.getD d) then 1 else 0) = l.countP p + (if p v then 1 else 0)
  | [], k, v, d, h => by simp at h
  | a :: l, 0, v, d, h => by
    simp only [List.set_cons_zero, List.countP_cons, List.getElem?_cons_zero, Option.getD_some]
    omega
  | a :: l, k + 1, v, d, h => by
    simp only [List.set_cons_succ, List.countP_cons, List.getElem?_cons_succ]
    have := countP_set p l k v d (by simpa using h)
    omega
theorem sum_set {α : Type} (f : α → Nat) : ∀ (l : List α) (k : Nat) (v d : α), k < l.length → ((l.set k v).map f).sum + f (l[k]?.getD d) = (l.map f).sum + f v
  | [], k, v, d, h => by simp at h
  | a :: l, 0, v, d, h => by
    simp only [List.set_cons_zero, List.map_cons, List.sum_cons, List.getElem?_cons_zero, Option.getD_some]
    omega
  | a :: l, k + 1, v, d, h => by
    simp only [List.set_cons_succ, List.map_cons, List.sum_cons, List.getElem?_cons_succ]
    have := sum_set f l k v d (by simpa using h)
    omega
theorem sum_le {α : Type} (f g : α → Nat) (h : ∀ a, f a ≤ g a) : ∀ l : List α, (l.map f).sum ≤ (l.map g).sum
  | [] => by simp
  | a :: l => by
    simp only [List.map_cons, List.sum_cons]
    have := sum_le f g h l
    have := h a
    omega
theorem countP_le {α : Type} (p q : α → Bool) (h : ∀ a, p a = true → q a = true) : ∀ l : List α, l.countP p ≤ l.countP q
  | [] => by simp
  | a :: l => by
    simp only [List.countP_cons]
    have := countP_le p q h l
    have := h a
    cases hp : p a
    · simp; omega
    · simp [h a hp]; omega
theorem sum_at {α : Type} (f : α → Nat) : ∀ (l : List α) (k : Nat) (h : k < l.length), f l[k] ≤ (l.map f).sum
  | [], k, h => by simp at h
  | a :: l, 0, h => by simp
  | a :: l, k + 1, h => by
    simp only [List.map_cons, List.sum_cons, List.getElem_cons_succ]
    have := sum_at f l k (by simpa using h)
    omega
theorem range_foldl_succ {β : Type} (f : β → Nat → β) (b : β) (m : Nat) : (List.range (m + 1)).foldl f b = f ((List.range m).foldl f b) m := by
  rw [List.range_succ, List.foldl_append]
  rfl
end lists

theorem cl_set (cs : List Cl) (i j : Nat) (c : Cl) (h : i < cs.length) : cl (cs.set i c) j = if j = i then c else cl cs j := by
  unfold cl
  rw [List.getElem?_set]
  by_cases hj : i = j
  · subst hj
    simp [h]
  · rw [if_neg hj, if_neg (fun e => hj e.symm)]
theorem cl_app (cs : List Cl) (c : Cl) (j : Nat) : cl (cs ++ [c]) j = if j = cs.length then c else cl cs j := by
  unfold cl
  by_cases h : j < cs.length
  · rw [List.getElem?_append_left h, if_neg (by omega)]
  · rw [List.getElem?_append_right (by omega)]
    by_cases h2 : j = cs.length
    · subst h2
      simp
    · rw [if_neg h2, List.getElem?_eq_none (by simp; omega), List.getElem?_eq_none (by omega)]
theorem cl_out (cs : List Cl) (j : Nat) (h : cs.length ≤ j) : cl cs j = ⟨[], false, false, false, 0⟩ := by
  unfold cl
  rw [List.getElem?_eq_none h]
  rfl
theorem setF_length (cs : List Cl) (i k : Nat) (v : Nat × Nat) : (setF cs i k v).length = cs.length := by simp [setF]
theorem setR_length (cs : List Cl) (i r : Nat) : (setR cs i r).length = cs.length := by simp [setR]
theorem setE_length (cs : List Cl) (i : Nat) : (setE cs i).length = cs.length := by simp [setE]
theorem tellF_length (cs : List Cl) (i : Nat) : (tellF cs i).length = cs.length := by simp [tellF]
theorem cl_setF (cs : List Cl) (i k j : Nat) (v : Nat × Nat) (h : i < cs.length) : cl (setF cs i k v) j = if j = i then { cl cs i with fs := (cl cs i).fs.set k v } else cl cs j := cl_set cs i j _ h
theorem fd_setF (cs : List Cl) (i k : Nat) (v : Nat × Nat) (h : i < cs.length) (hk : k < (cl cs i).fs.length) (j m : Nat) : fd (setF cs i k v) j m = if j = i ∧ m = k then v else fd cs j m := by
  unfold fd
  rw [cl_setF cs i k j v h]
  by_cases hj : j = i
  · subst hj
    rw [if_pos rfl]
    dsimp only
    rw [List.getElem?_set]
    by_cases hm : k = m
    · subst hm
      simp [hk]
    · rw [if_neg hm, if_neg (fun e => hm e.2.symm)]
  · rw [if_neg hj, if_neg (fun e => hj e.1)]
theorem fd_out (cs : List Cl) (i k : Nat) (h : (cl cs i).fs.length ≤ k) : fd cs i k = (0, 0) := by
  unfold fd
  rw [List.getElem?_eq_none h]
  rfl
/-- What a setF leaves of a cell. -/
theorem setF_keeps (cs : List Cl) (i k j : Nat) (v : Nat × Nat) (h : i < cs.length) : (cl (setF cs i k v) j).rt = (cl cs j).rt ∧ (cl (setF cs i k v) j).wt = (cl cs j).wt ∧ (cl (setF cs i k v) j).td = (cl cs j).td ∧ (cl (setF cs i k v) j).en = (cl cs j).en ∧ (cl (setF cs i k v) j).fs.length = (cl cs j).fs.length := by
  rw [cl_setF cs i k j v h]
  by_cases hj : j = i
  · subst hj
    simp
  · simp [hj]
theorem cnt_setF (cs : List Cl) (i k : Nat) (v : Nat × Nat) (h : i < cs.length) (hk : k < (cl cs i).fs.length) (n : Nat) :
    cnt (setF cs i k v) n + (if fd cs i k = (1, n) then 1 else 0) = cnt cs n + (if v = (1, n) then 1 else 0) := by
  unfold cnt
  rw [(setF_keeps cs i k n v h).1]
  have h1 := sum_set (strong n) cs i { cl cs i with fs := (cl cs i).fs.set k v } ⟨[], false, false, false, 0⟩ h
  have h2 := countP_set (fun x : Nat × Nat => x == (1, n)) (cl cs i).fs k v (0, 0) hk
  have e1 : strong n { cl cs i with fs := (cl cs i).fs.set k v } = ((cl cs i).fs.set k v).countP (fun x : Nat × Nat => x == (1, n)) := rfl
  have e2 : strong n (cs[i]?.getD ⟨[], false, false, false, 0⟩) = (cl cs i).fs.countP (fun x : Nat × Nat => x == (1, n)) := rfl
  have e3 : (cl cs i).fs[k]?.getD (0, 0) = fd cs i k := rfl
  rw [e1, e2] at h1
  rw [e3] at h2
  simp only [beq_iff_eq] at h2
  have e4 : (setF cs i k v) = cs.set i { cl cs i with fs := (cl cs i).fs.set k v } := rfl
  rw [← e4] at h1
  omega
theorem phi_setF (cs : List Cl) (i k : Nat) (v : Nat × Nat) (h : i < cs.length) (hk : k < (cl cs i).fs.length) :
    ((setF cs i k v).map weigh).sum + (if (fd cs i k).1 = 1 then 1 else 0) = (cs.map weigh).sum + (if v.1 = 1 then 1 else 0) := by
  have h1 := sum_set weigh cs i { cl cs i with fs := (cl cs i).fs.set k v } ⟨[], false, false, false, 0⟩ h
  have h2 := countP_set (fun x : Nat × Nat => x.1 == 1) (cl cs i).fs k v (0, 0) hk
  have e1 : weigh { cl cs i with fs := (cl cs i).fs.set k v } = (cl cs i).rt + ((cl cs i).fs.set k v).countP (fun x : Nat × Nat => x.1 == 1) := rfl
  have e2 : weigh (cs[i]?.getD ⟨[], false, false, false, 0⟩) = (cl cs i).rt + (cl cs i).fs.countP (fun x : Nat × Nat => x.1 == 1) := rfl
  have e3 : (cl cs i).fs[k]?.getD (0, 0) = fd cs i k := rfl
  rw [e1, e2] at h1
  rw [e3] at h2
  simp only [beq_iff_eq] at h2
  have e4 : (setF cs i k v) = cs.set i { cl cs i with fs := (cl cs i).fs.set k v } := rfl
  rw [← e4] at h1
  omega
/-- A cell's other parts: what it counts goes by its fields and roots. -/
theorem cnt_same (cs : List Cl) (i : Nat) (c : Cl) (h : i < cs.length) (hf : c.fs = (cl cs i).fs) (n : Nat) : cnt (cs.set i c) n + (if n = i then (cl cs i).rt else 0) = cnt cs n + (if n = i then c.rt else 0) := by
  unfold cnt
  rw [cl_set cs i n c h]
  have h1 := sum_set (strong n) cs i c ⟨[], false, false, false, 0⟩ h
  have e1 : strong n c = strong n (cs[i]?.getD ⟨[], false, false, false, 0⟩) := by
    show List.countP _ c.fs = List.countP _ (cl cs i).fs
    rw [hf]
  rw [e1] at h1
  by_cases hn : n = i
  · subst hn
    simp only [if_true]
    omega
  · simp only [if_neg hn]
    omega
theorem phi_same (cs : List Cl) (i : Nat) (c : Cl) (h : i < cs.length) (hf : c.fs = (cl cs i).fs) : ((cs.set i c).map weigh).sum + (cl cs i).rt = (cs.map weigh).sum + c.rt := by
  have h1 := sum_set weigh cs i c ⟨[], false, false, false, 0⟩ h
  have e1 : weigh c = c.rt + strongs (cl cs i) := by
    show c.rt + List.countP _ c.fs = _
    rw [hf]
    rfl
  have e2 : weigh (cs[i]?.getD ⟨[], false, false, false, 0⟩) = (cl cs i).rt + strongs (cl cs i) := rfl
  rw [e1, e2] at h1
  omega
theorem cnt_le_phi (cs : List Cl) (ns : List Nat) (n : Nat) : cnt cs n ≤ phi ⟨cs, ns⟩ := by
  unfold cnt phi
  have h2 : (cs.map weigh).sum = (cs.map (fun c => c.rt)).sum + (cs.map strongs).sum := by
    induction cs with
    | nil => rfl
    | cons a l ih =>
      simp only [List.map_cons, List.sum_cons, ih, weigh]
      omega
  have h1 : (cs.map (strong n)).sum ≤ (cs.map strongs).sum := sum_le (strong n) strongs (fun c => countP_le (fun x : Nat × Nat => x == (1, n)) (fun x => x.1 == 1) (fun a h => by have := eq_of_beq h; subst this; rfl) c.fs) cs
  have h3 : (cl cs n).rt ≤ (cs.map (fun c => c.rt)).sum := by
    by_cases hn : n < cs.length
    · have := sum_at (fun c : Cl => c.rt) cs n hn
      unfold cl
      rw [List.getElem?_eq_getElem hn]
      exact this
    · rw [cl_out cs n (by omega)]
      exact Nat.zero_le _
  show _ ≤ ns.length + (cs.map weigh).sum
  omega

/-- What holds of every heap that acts have made. -/
structure Good (h : Hp) : Prop where
  few : h.cs.length ≤ 100
  wide : ∀ i, (cl h.cs i).fs.length ≤ 8
  kind : ∀ i k, (fd h.cs i k).1 ≤ 2
  none : ∀ i k, (fd h.cs i k).1 = 0 → (fd h.cs i k).2 = 0
  lead : ∀ i k, (fd h.cs i k).1 ≠ 0 → (fd h.cs i k).2 < h.cs.length
  live : ∀ i k, (fd h.cs i k).1 = 1 → (cl h.cs (fd h.cs i k).2).en = false
  over : ∀ i, (cl h.cs i).en = true → (cl h.cs i).rt = 0
  told : ∀ n ∈ h.ns, n < h.cs.length

end Go.Proofs.Ytpedaompcjaahaa
