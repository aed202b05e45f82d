/-
  One text further, for texts of letters and then digits: as a function of the list of bytes; and the document's further.
-/
import Derived.Test.YtmlifgngdilplaaDoorSer
import Derived.Test.YtmlifgngdilplaaDoorWr
import Derived.Test.YtmlifgngdilplaaDoorOft
namespace Go.Proofs.YtmlifgngdilplaaDoor
open Go.RowKit

def fz (c : UInt8) : UInt8 := if c = 122 then 97 else if c = 90 then 65 else if c = 57 then 48 else c
def cz (c : UInt8) : Bool := decide (c = 122) || decide (c = 90) || decide (c = 57)
def hz (c : UInt8) : UInt8 := if c = 57 then 49 else fz c
def furR : List UInt8 → List UInt8
  | [] => []
  | c :: t => if cz c then (if t.isEmpty then [fz c, hz c] else fz c :: furR t) else (c + 1) :: t
/-- A text of letters and digits, one further. -/
def furP (l : List UInt8) : List UInt8 := (furR l.reverse).reverse

theorem furP_stop (l : List UInt8) (c : UInt8) (h : cz c = false) : furP (l ++ [c]) = l ++ [c + 1] := by
  simp [furP, furR, h]
theorem furP_go (l : List UInt8) (c : UInt8) (h : cz c = true) (hl : l ≠ []) : furP (l ++ [c]) = furP l ++ [fz c] := by
  simp [furP, furR, h, hl]
theorem furP_one (c : UInt8) (h : cz c = true) : furP [c] = [hz c, fz c] := by
  simp [furP, furR, h]
theorem furR_le : ∀ l, (furR l).length ≤ l.length + 1
  | [] => by simp [furR]
  | c :: t => by
    have := furR_le t
    unfold furR
    split
    · split
      · rename_i h
        have : t = [] := by simpa using h
        subst this
        simp
      · simp; omega
    · simp
theorem furP_le (l : List UInt8) : (furP l).length ≤ l.length + 1 := by
  have := furR_le l.reverse
  simpa [furP] using this

theorem ltr_dig (c : UInt8) (h : dig c = true) : ltr c = false := by
  simp only [dig, digB, Bool.and_eq_true, decide_eq_true_eq] at h
  unfold ltr letB
  rw [decide_eq_false (show ¬ (97 ≤ (c.toNat : Int)) by omega), decide_eq_false (show ¬ (65 ≤ (c.toNat : Int)) by omega)]
  rfl
theorem takeWhile_pre (p : UInt8 → Bool) : ∀ (a b : List UInt8), (∀ c, c ∈ a → p c = true) → (∀ c, c ∈ b → p c = false) → (a ++ b).takeWhile p = a
  | [], [], _, _ => rfl
  | [], c :: b, _, h => by simp [h c (by simp)]
  | c :: a, b, h, hb => by
    rw [List.cons_append, List.takeWhile_cons, if_pos (h c (by simp)), takeWhile_pre p a b (fun d hd => h d (by simp [hd])) hb]
theorem takeWhile_all (p : UInt8 → Bool) (l : List UInt8) : ∀ c, c ∈ l.takeWhile p → p c = true := by
  induction l with
  | nil => intro c h; simp at h
  | cons d l ih =>
    intro c h
    rw [List.takeWhile_cons] at h
    split at h
    · rcases List.mem_cons.1 h with rfl | h
      · assumption
      · exact ih c h
    · simp at h
theorem cnt_iff (l : List UInt8) : cntB l = true ↔ l ≠ [] ∧ ∃ a b, l = a ++ b ∧ (∀ c, c ∈ a → ltr c = true) ∧ (∀ c, c ∈ b → dig c = true) := by
  unfold cntB
  rw [Bool.and_eq_true, decide_eq_true_eq]
  refine and_congr (by cases l <;> simp) ?_
  constructor
  · intro h
    refine ⟨l.takeWhile ltr, l.drop (nl l), ?_, takeWhile_all _ _, ?_⟩
    · have h1 := List.takeWhile_append_dropWhile (p := ltr) (l := l)
      have h2 : l.take (nl l) = l.takeWhile ltr := by
        have h3 := congrArg (List.take (nl l)) h1
        rw [← h3]
        exact List.take_left
      rw [← h2, List.take_append_drop]
    · have hd : ldig (l.drop (nl l)) = (l.drop (nl l)).length := by rw [List.length_drop]; omega
      have h1 := List.takeWhile_append_dropWhile (p := dig) (l := l.drop (nl l))
      have h2 := congrArg List.length h1
      rw [List.length_append] at h2
      unfold ldig at hd
      have h4 : (l.drop (nl l)).dropWhile dig = [] := List.eq_nil_of_length_eq_zero (by omega)
      rw [h4, List.append_nil] at h1
      rw [← h1]
      exact takeWhile_all _ _
  · rintro ⟨a, b, rfl, ha, hb⟩
    have h1 : nl (a ++ b) = a.length := by
      unfold nl
      rw [takeWhile_pre ltr a b ha (fun c hc => ltr_dig c (hb c hc))]
    rw [h1, List.drop_left]
    have h2 : ldig b = b.length := by
      unfold ldig
      have := takeWhile_pre dig b [] hb (fun c hc => by cases hc)
      rw [List.append_nil] at this
      rw [this]
    rw [h2, List.length_append]
theorem cnt_init (l : List UInt8) (c : UInt8) (h : cntB (l ++ [c]) = true) (hl : l ≠ []) : cntB l = true := by
  obtain ⟨_, a, b, e, ha, hb⟩ := (cnt_iff _).1 h
  refine (cnt_iff _).2 ⟨hl, ?_⟩
  rcases List.eq_nil_or_concat b with rfl | ⟨b', d, rfl⟩
  · rw [List.append_nil] at e
    subst e
    exact ⟨l, [], by simp, fun d hd => ha d (by simp [hd]), fun d hd => by cases hd⟩
  · rw [List.concat_eq_append, ← List.append_assoc] at e
    have e1 := List.append_inj_left' e rfl
    exact ⟨a, b', e1, ha, fun x hx => hb x (by simp [hx])⟩
theorem cnt_bd (l : List UInt8) (h : cntB l = true) : ∀ c, c ∈ l → c.toNat ≤ 122 := by
  obtain ⟨_, a, b, rfl, ha, hb⟩ := (cnt_iff _).1 h
  intro c hc
  rcases List.mem_append.1 hc with hc | hc
  · have := ha c hc
    simp only [ltr, letB, Bool.or_eq_true, Bool.and_eq_true, decide_eq_true_eq] at this
    omega
  · have := hb c hc
    simp only [dig, digB, Bool.and_eq_true, decide_eq_true_eq] at this
    omega

end Go.Proofs.YtmlifgngdilplaaDoor
