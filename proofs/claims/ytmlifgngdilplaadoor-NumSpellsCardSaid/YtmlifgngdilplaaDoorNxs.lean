/-
  num.nextSerial: the bytes of a text, written from the end on. Conditions: a text of letters and then digits of at most 4096 bytes.
-/
import Derived.Test.YtmlifgngdilplaaDoorNxn
import Derived.Test.YtmlifgngdilplaaDoorRad
namespace Go.Proofs.YtmlifgngdilplaaDoor
open Go.RowKit

def mix (l : List UInt8) (k : Nat) : List UInt8 := l.take k ++ (l.drop k).map fz
theorem mix_len (l : List UInt8) (k : Nat) : (mix l k).length = l.length := by
  unfold mix
  rw [List.length_append, List.length_map, List.length_take, List.length_drop]
  omega
theorem mix_at (l : List UInt8) (k j : Nat) : (mix l k)[j]? = if j < k then l[j]? else (l[j]?).map fz := by
  unfold mix
  by_cases hk : k ≤ l.length
  · rw [List.getElem?_append, List.length_take, Nat.min_eq_left hk]
    split
    · rw [List.getElem?_take, if_pos (by assumption)]
    · rw [List.getElem?_map, List.getElem?_drop, show k + (j - k) = j by omega]
  · rw [List.take_of_length_le (by omega), List.drop_eq_nil_of_le (by omega), List.map_nil, List.append_nil]
    split
    · rfl
    · rw [List.getElem?_eq_none (by omega)]; rfl
theorem mix_all (l : List UInt8) : mix l l.length = l := by simp [mix]
theorem mix_zero (l : List UInt8) : mix l 0 = l.map fz := by simp [mix]
theorem mix_step (l : List UInt8) (i : Nat) (c : UInt8) (h : l[i]? = some c) : (mix l (i + 1)).set i (fz c) = mix l i := by
  have hi : i < l.length := (List.getElem?_eq_some_iff.1 h).1
  apply List.ext_getElem?
  intro j
  rw [List.getElem?_set, mix_at, mix_at, mix_len]
  by_cases hj : i = j
  · subst hj
    rw [if_pos rfl, if_pos hi, if_neg (by omega), h]
    rfl
  · rw [if_neg hj]
    by_cases h1 : j < i
    · rw [if_pos (by omega), if_pos h1]
    · rw [if_neg (by omega), if_neg h1]
theorem mix_stop (l : List UInt8) (i : Nat) (v : UInt8) (h : i < l.length) : (mix l (i + 1)).set i v = l.take i ++ v :: (l.drop (i + 1)).map fz := by
  unfold mix
  rw [List.take_succ_eq_append_getElem h, List.append_assoc, List.set_append, if_neg (by rw [List.length_take]; omega), List.length_take, Nat.min_eq_left (by omega), Nat.sub_self]
  rfl

def Cells (m : List UInt8) (b : Nat) (w : World) : Prop := ∀ j c, m[j]? = some c → w.cell? ⟨b, j, none⟩ = some (.int .u8 (c.toNat : Int))
theorem Cells.put {m : List UInt8} {b : Nat} {w : World} (h : Cells m b w) (i : Nat) (hi : i < m.length) (v : UInt8) : Cells (m.set i v) b (w.setCell ⟨b, i, none⟩ (.int .u8 (v.toNat : Int))) := by
  intro j c hc
  rw [List.getElem?_set] at hc
  by_cases hj : i = j
  · subst hj
    rw [if_pos rfl, if_pos hi] at hc
    cases hc
    exact World.cell?_setCell_same' w _ _ (by rw [h i _ (List.getElem?_eq_getElem hi)]; rfl)
  · rw [if_neg hj] at hc
    rw [World.cell?_setCell_other w _ _ _ (show (⟨b, i, none⟩ : Addr) ≠ ⟨b, j, none⟩ by intro e; exact hj (by injection e))]
    exact h j c hc
theorem Cells.back {m : List UInt8} {b : Nat} {w : World} (h : Cells m b w) (cap : Nat) : (convert 74 9 (.slice (some ⟨b, 0, none⟩) m.length cap)).run Tryd.prog w = .ok (.string (bs m)) w := by
  refine run_convert_bytes_back w 74 9 5 ⟨b, 0, none⟩ cap m Tryd.underlying74 Tryd.underlying5 Tryd.underlying9 fun j hj => ?_
  rw [show (Addr.add ⟨b, 0, none⟩ j : Addr) = ⟨b, j, none⟩ by cases j <;> simp [Addr.add]]
  exact h j _ (List.getElem?_eq_getElem hj)

/-- What a text of letters and digits becomes, when all from the place k on is carried over. -/
def Far (l : List UInt8) (k : Nat) : Prop := if k = 0 then (∃ c, l[0]? = some c ∧ cz c = true ∧ furP l = hz c :: l.map fz) else furP l = furP (l.take k) ++ (l.drop k).map fz
theorem far_start (l : List UInt8) (h : l ≠ []) : Far l l.length := by
  unfold Far
  rw [if_neg (by intro e; exact h (List.eq_nil_of_length_eq_zero e))]
  simp
theorem far_step (l : List UInt8) (i : Nat) (c : UInt8) (h : l[i]? = some c) (hc : cz c = true) (hf : Far l (i + 1)) : Far l i := by
  have hi : i < l.length := (List.getElem?_eq_some_iff.1 h).1
  have hg : l[i] = c := (List.getElem?_eq_some_iff.1 h).2
  unfold Far at hf
  rw [if_neg (by omega), List.take_succ_eq_append_getElem hi, hg] at hf
  have hd : l.drop i = c :: l.drop (i + 1) := by rw [List.drop_eq_getElem_cons hi, hg]
  unfold Far
  by_cases h0 : i = 0
  · subst h0
    rw [if_pos rfl]
    refine ⟨c, h, hc, ?_⟩
    rw [List.take_zero, List.nil_append, furP_one c hc] at hf
    have hl : l.map fz = fz c :: (l.drop 1).map fz := by
      have := congrArg (List.map fz) hd
      simpa using this
    rw [hf, hl]
    rfl
  · rw [if_neg h0, hd]
    rw [furP_go _ c hc (by intro e; have := congrArg List.length e; rw [List.length_take, List.length_nil] at this; omega)] at hf
    rw [hf]
    simp
theorem far_stop (l : List UInt8) (i : Nat) (c : UInt8) (h : l[i]? = some c) (hc : cz c = false) (hf : Far l (i + 1)) : furP l = l.take i ++ (c + 1) :: (l.drop (i + 1)).map fz := by
  have hi : i < l.length := (List.getElem?_eq_some_iff.1 h).1
  have hg : l[i] = c := (List.getElem?_eq_some_iff.1 h).2
  unfold Far at hf
  rw [if_neg (by omega), List.take_succ_eq_append_getElem hi, hg, furP_stop _ c hc] at hf
  rw [hf]
  simp

theorem carried_fz (c : UInt8) (h : cz c = true) (w : World) : Calls Tryd.prog 98 #[.int .u8 ((fz c).toNat : Int)] w fun e w' => e = .returned (.string (bs [hz c])) ∧ w = w' := by
  have h3 : c = 122 ∨ c = 90 ∨ c = 57 := by
    simp only [cz, Bool.or_eq_true, decide_eq_true_eq] at h
    rcases h with (h | h) | h
    · exact .inl h
    · exact .inr (.inl h)
    · exact .inr (.inr h)
  clear h
  have e97 : Utf8.encode 97 = bs [97] := encode_small 97 (by omega)
  have e65 : Utf8.encode 65 = bs [65] := encode_small 65 (by omega)
  have E97 := Lib.hid e97
  have E65 := Lib.hid e65
  clear e97 e65
  rcases h3 with rfl | rfl | rfl
  · show Calls Tryd.prog 98 #[.int .u8 97] w _
    go_enter Tryd.func98, Tryd.ntmps98
    go_wp2
    go_ret
    exact ⟨by show Ending.returned (.string (Utf8.encode 97)) = _; rw [E97.out]; rfl, rfl⟩
  · show Calls Tryd.prog 98 #[.int .u8 65] w _
    go_enter Tryd.func98, Tryd.ntmps98
    go_wp2
    go_ret
    exact ⟨by show Ending.returned (.string (Utf8.encode 65)) = _; rw [E65.out]; rfl, rfl⟩
  · show Calls Tryd.prog 98 #[.int .u8 48] w _
    go_enter Tryd.func98, Tryd.ntmps98
    go_wp2
    go_ret
    exact ⟨rfl, rfl⟩

end Go.Proofs.YtmlifgngdilplaaDoor
