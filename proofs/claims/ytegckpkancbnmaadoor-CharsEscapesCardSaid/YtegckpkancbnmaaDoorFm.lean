/-
  The small, capital and folded forms of characters, as plain mathematics. No model's run in this text. No condition.
-/
import Derived.Test.YtegckpkancbnmaaDoorUm
import GoSem.Core.Utf8
namespace Go.Proofs.YtegckpkancbnmaaDoor

/-- Whether the small form is 32 further. -/
def pcap (c : Int) : Bool := decide ((65 ≤ c ∧ c ≤ 90) ∨ (1040 ≤ c ∧ c ≤ 1071) ∨ (192 ≤ c ∧ c ≤ 222 ∧ c ≠ 215) ∨ (913 ≤ c ∧ c ≤ 937 ∧ c ≠ 930))
/-- The small form. -/
def smC (c : Nat) : Nat := if c = 7838 then 223 else if c = 8490 then 107 else if c = 8491 then 229 else if pcap c = true then c + 32 else c
/-- What a special small character stands for. -/
def plL (c : Nat) : List Nat :=
  if c = 223 then [115, 115] else if c = 329 then [700, 110] else if c = 383 then [115] else if c = 962 then [963]
  else if c = 64256 then [102, 102] else if c = 64257 then [102, 105] else if c = 64258 then [102, 108] else if c = 64259 then [102, 102, 105]
  else if c = 64260 then [102, 102, 108] else if c = 64261 then [115, 116] else if c = 64262 then [115, 116] else []
/-- The capital form. -/
def cpC (c : Nat) : List Nat :=
  if c = 962 then [931]
  else if (97 ≤ c ∧ c ≤ 122) ∨ (224 ≤ c ∧ c ≤ 254 ∧ c ≠ 247) ∨ (945 ≤ c ∧ c ≤ 969) ∨ (1072 ≤ c ∧ c ≤ 1103) then [c - 32]
  else if c = 383 then [83] else if c = 223 then [83, 83] else if c = 329 then [700, 78]
  else if c = 64256 then [70, 70] else if c = 64257 then [70, 73] else if c = 64258 then [70, 76] else if c = 64259 then [70, 70, 73]
  else if c = 64260 then [70, 70, 76] else if c = 64261 then [83, 84] else if c = 64262 then [83, 84] else [c]
/-- The fold. -/
def fdC (c : Nat) : List Nat :=
  if c = 181 then [956] else if c = 223 then [115, 115] else if c = 7838 then [115, 115] else if c = 329 then [700, 110] else if c = 383 then [115] else if c = 962 then [963]
  else if c = 64256 then [102, 102] else if c = 64257 then [102, 105] else if c = 64258 then [102, 108] else if c = 64259 then [102, 102, 105]
  else if c = 64260 then [102, 102, 108] else if c = 64261 then [115, 116] else if c = 64262 then [115, 116] else [smC c]

theorem pcap_iff {c : Int} : pcap c = true ↔ (65 ≤ c ∧ c ≤ 90) ∨ (1040 ≤ c ∧ c ≤ 1071) ∨ (192 ≤ c ∧ c ≤ 222 ∧ c ≠ 215) ∨ (913 ≤ c ∧ c ≤ 937 ∧ c ≠ 930) := by
  simp [pcap]
theorem pcap_false {c : Int} : pcap c = false ↔ ¬ ((65 ≤ c ∧ c ≤ 90) ∨ (1040 ≤ c ∧ c ≤ 1071) ∨ (192 ≤ c ∧ c ≤ 222 ∧ c ≠ 215) ∨ (913 ≤ c ∧ c ≤ 937 ∧ c ≠ 930)) := by
  rw [← pcap_iff, Bool.not_eq_true]

theorem smC_isC {c : Nat} (h : isC c = true) : isC (smC c) = true := by
  rw [isC_iff] at *
  unfold smC
  simp only [pcap_iff]
  repeat' split
  all_goals omega
theorem smC_idem (c : Nat) : smC (smC c) = smC c := by
  unfold smC
  simp only [pcap_iff]
  by_cases h1 : c = 7838
  · subst h1; decide
  by_cases h2 : c = 8490
  · subst h2; decide
  by_cases h3 : c = 8491
  · subst h3; decide
  rw [if_neg h1, if_neg h2, if_neg h3]
  by_cases h4 : ((65 : Int) ≤ c ∧ (c : Int) ≤ 90) ∨ ((1040 : Int) ≤ c ∧ (c : Int) ≤ 1071) ∨ ((192 : Int) ≤ c ∧ (c : Int) ≤ 222 ∧ (c : Int) ≠ 215) ∨ ((913 : Int) ≤ c ∧ (c : Int) ≤ 937 ∧ (c : Int) ≠ 930)
  · rw [if_pos h4, if_neg (by omega), if_neg (by omega), if_neg (by omega), if_neg (by omega)]
  · rw [if_neg h4, if_neg h1, if_neg h2, if_neg h3, if_neg h4]
theorem all_one {n : Nat} (h : isC n = true) : allC [n] := fun d hd => by
  simp at hd
  subst hd
  exact h
theorem fdC_cases (c : Nat) : c = 181 ∨ c = 223 ∨ c = 7838 ∨ c = 329 ∨ c = 383 ∨ c = 962 ∨ c = 64256 ∨ c = 64257 ∨ c = 64258 ∨ c = 64259 ∨ c = 64260 ∨ c = 64261 ∨ c = 64262 ∨ ((c ≠ 181 ∧ c ≠ 223 ∧ c ≠ 7838 ∧ c ≠ 329 ∧ c ≠ 383 ∧ c ≠ 962 ∧ c ≠ 64256 ∧ c ≠ 64257 ∧ c ≠ 64258 ∧ c ≠ 64259 ∧ c ≠ 64260 ∧ c ≠ 64261 ∧ c ≠ 64262) ∧ (fdC c = [smC c])) := by
  by_cases h0 : c = 181
  · exact (.inl h0)
  by_cases h1 : c = 223
  · exact (.inr (.inl h1))
  by_cases h2 : c = 7838
  · exact (.inr (.inr (.inl h2)))
  by_cases h3 : c = 329
  · exact (.inr (.inr (.inr (.inl h3))))
  by_cases h4 : c = 383
  · exact (.inr (.inr (.inr (.inr (.inl h4)))))
  by_cases h5 : c = 962
  · exact (.inr (.inr (.inr (.inr (.inr (.inl h5))))))
  by_cases h6 : c = 64256
  · exact (.inr (.inr (.inr (.inr (.inr (.inr (.inl h6)))))))
  by_cases h7 : c = 64257
  · exact (.inr (.inr (.inr (.inr (.inr (.inr (.inr (.inl h7))))))))
  by_cases h8 : c = 64258
  · exact (.inr (.inr (.inr (.inr (.inr (.inr (.inr (.inr (.inl h8)))))))))
  by_cases h9 : c = 64259
  · exact (.inr (.inr (.inr (.inr (.inr (.inr (.inr (.inr (.inr (.inl h9))))))))))
  by_cases h10 : c = 64260
  · exact (.inr (.inr (.inr (.inr (.inr (.inr (.inr (.inr (.inr (.inr (.inl h10)))))))))))
  by_cases h11 : c = 64261
  · exact (.inr (.inr (.inr (.inr (.inr (.inr (.inr (.inr (.inr (.inr (.inr (.inl h11))))))))))))
  by_cases h12 : c = 64262
  · exact (.inr (.inr (.inr (.inr (.inr (.inr (.inr (.inr (.inr (.inr (.inr (.inr (.inl h12)))))))))))))
  refine (.inr (.inr (.inr (.inr (.inr (.inr (.inr (.inr (.inr (.inr (.inr (.inr (.inr ⟨⟨h0, h1, h2, h3, h4, h5, h6, h7, h8, h9, h10, h11, h12⟩, ?_⟩)))))))))))))
  unfold fdC
  rw [if_neg h0, if_neg h1, if_neg h2, if_neg h3, if_neg h4, if_neg h5, if_neg h6, if_neg h7, if_neg h8, if_neg h9, if_neg h10, if_neg h11, if_neg h12]


theorem cpC_cases (c : Nat) : c = 962 ∨ c = 383 ∨ c = 223 ∨ c = 329 ∨ c = 64256 ∨ c = 64257 ∨ c = 64258 ∨ c = 64259 ∨ c = 64260 ∨ c = 64261 ∨ c = 64262 ∨ ((c ≠ 962 ∧ c ≠ 383 ∧ c ≠ 223 ∧ c ≠ 329 ∧ c ≠ 64256 ∧ c ≠ 64257 ∧ c ≠ 64258 ∧ c ≠ 64259 ∧ c ≠ 64260 ∧ c ≠ 64261 ∧ c ≠ 64262) ∧ ((((97 ≤ c ∧ c ≤ 122) ∨ (224 ≤ c ∧ c ≤ 254 ∧ c ≠ 247) ∨ (945 ≤ c ∧ c ≤ 969) ∨ (1072 ≤ c ∧ c ≤ 1103)) ∧ cpC c = [c - 32]) ∨ (¬ ((97 ≤ c ∧ c ≤ 122) ∨ (224 ≤ c ∧ c ≤ 254 ∧ c ≠ 247) ∨ (945 ≤ c ∧ c ≤ 969) ∨ (1072 ≤ c ∧ c ≤ 1103)) ∧ cpC c = [c]))) := by
  by_cases h0 : c = 962
  · exact (.inl h0)
  by_cases h1 : c = 383
  · exact (.inr (.inl h1))
  by_cases h2 : c = 223
  · exact (.inr (.inr (.inl h2)))
  by_cases h3 : c = 329
  · exact (.inr (.inr (.inr (.inl h3))))
  by_cases h4 : c = 64256
  · exact (.inr (.inr (.inr (.inr (.inl h4)))))
  by_cases h5 : c = 64257
  · exact (.inr (.inr (.inr (.inr (.inr (.inl h5))))))
  by_cases h6 : c = 64258
  · exact (.inr (.inr (.inr (.inr (.inr (.inr (.inl h6)))))))
  by_cases h7 : c = 64259
  · exact (.inr (.inr (.inr (.inr (.inr (.inr (.inr (.inl h7))))))))
  by_cases h8 : c = 64260
  · exact (.inr (.inr (.inr (.inr (.inr (.inr (.inr (.inr (.inl h8)))))))))
  by_cases h9 : c = 64261
  · exact (.inr (.inr (.inr (.inr (.inr (.inr (.inr (.inr (.inr (.inl h9))))))))))
  by_cases h10 : c = 64262
  · exact (.inr (.inr (.inr (.inr (.inr (.inr (.inr (.inr (.inr (.inr (.inl h10)))))))))))
  refine (.inr (.inr (.inr (.inr (.inr (.inr (.inr (.inr (.inr (.inr (.inr ⟨⟨h0, h1, h2, h3, h4, h5, h6, h7, h8, h9, h10⟩, ?_⟩)))))))))))
  unfold cpC
  rw [if_neg h0]
  by_cases hh : (97 ≤ c ∧ c ≤ 122) ∨ (224 ≤ c ∧ c ≤ 254 ∧ c ≠ 247) ∨ (945 ≤ c ∧ c ≤ 969) ∨ (1072 ≤ c ∧ c ≤ 1103)
  · left
    rw [if_pos hh]
    exact ⟨hh, rfl⟩
  · right
    rw [if_neg hh, if_neg h1, if_neg h2, if_neg h3, if_neg h4, if_neg h5, if_neg h6, if_neg h7, if_neg h8, if_neg h9, if_neg h10]
    exact ⟨hh, rfl⟩


theorem plL_cases (c : Nat) : c = 223 ∨ c = 329 ∨ c = 383 ∨ c = 962 ∨ c = 64256 ∨ c = 64257 ∨ c = 64258 ∨ c = 64259 ∨ c = 64260 ∨ c = 64261 ∨ c = 64262 ∨ ((c ≠ 223 ∧ c ≠ 329 ∧ c ≠ 383 ∧ c ≠ 962 ∧ c ≠ 64256 ∧ c ≠ 64257 ∧ c ≠ 64258 ∧ c ≠ 64259 ∧ c ≠ 64260 ∧ c ≠ 64261 ∧ c ≠ 64262) ∧ (plL c = [])) := by
  by_cases h0 : c = 223
  · exact (.inl h0)
  by_cases h1 : c = 329
  · exact (.inr (.inl h1))
  by_cases h2 : c = 383
  · exact (.inr (.inr (.inl h2)))
  by_cases h3 : c = 962
  · exact (.inr (.inr (.inr (.inl h3))))
  by_cases h4 : c = 64256
  · exact (.inr (.inr (.inr (.inr (.inl h4)))))
  by_cases h5 : c = 64257
  · exact (.inr (.inr (.inr (.inr (.inr (.inl h5))))))
  by_cases h6 : c = 64258
  · exact (.inr (.inr (.inr (.inr (.inr (.inr (.inl h6)))))))
  by_cases h7 : c = 64259
  · exact (.inr (.inr (.inr (.inr (.inr (.inr (.inr (.inl h7))))))))
  by_cases h8 : c = 64260
  · exact (.inr (.inr (.inr (.inr (.inr (.inr (.inr (.inr (.inl h8)))))))))
  by_cases h9 : c = 64261
  · exact (.inr (.inr (.inr (.inr (.inr (.inr (.inr (.inr (.inr (.inl h9))))))))))
  by_cases h10 : c = 64262
  · exact (.inr (.inr (.inr (.inr (.inr (.inr (.inr (.inr (.inr (.inr (.inl h10)))))))))))
  refine (.inr (.inr (.inr (.inr (.inr (.inr (.inr (.inr (.inr (.inr (.inr ⟨⟨h0, h1, h2, h3, h4, h5, h6, h7, h8, h9, h10⟩, ?_⟩)))))))))))
  unfold plL
  rw [if_neg h0, if_neg h1, if_neg h2, if_neg h3, if_neg h4, if_neg h5, if_neg h6, if_neg h7, if_neg h8, if_neg h9, if_neg h10]


theorem cpC_allC {c : Nat} (h : isC c = true) : allC (cpC c) := by
  have hi := isC_iff.1 h
  rcases cpC_cases c with rfl | rfl | rfl | rfl | rfl | rfl | rfl | rfl | rfl | rfl | rfl | ⟨_, ⟨hr, e⟩ | ⟨_, e⟩⟩
  all_goals first
    | (rw [e]; exact all_one h)
    | (rw [e]; exact all_one (isC_iff.2 (by omega)))
    | (intro d hd; revert d; decide)
theorem fdC_allC {c : Nat} (h : isC c = true) : allC (fdC c) := by
  have hs := smC_isC h
  rcases fdC_cases c with rfl | rfl | rfl | rfl | rfl | rfl | rfl | rfl | rfl | rfl | rfl | rfl | rfl | ⟨_, e⟩
  all_goals first
    | (rw [e]; exact all_one hs)
    | (intro d hd; revert d; decide)
theorem cpC_ne (c : Nat) : 1 ≤ (cpC c).length ∧ (cpC c).length ≤ 3 := by
  rcases cpC_cases c with rfl | rfl | rfl | rfl | rfl | rfl | rfl | rfl | rfl | rfl | rfl | ⟨_, ⟨hr, e⟩ | ⟨_, e⟩⟩
  all_goals first
    | (rw [e]; exact ⟨Nat.le_refl 1, by simp⟩)
    | decide
theorem fdC_ne (c : Nat) : 1 ≤ (fdC c).length ∧ (fdC c).length ≤ 3 := by
  rcases fdC_cases c with rfl | rfl | rfl | rfl | rfl | rfl | rfl | rfl | rfl | rfl | rfl | rfl | rfl | ⟨_, e⟩
  all_goals first
    | (rw [e]; exact ⟨Nat.le_refl 1, by simp⟩)
    | decide
theorem plL_len (c : Nat) : (plL c).length ≤ 3 := by
  rcases plL_cases c with rfl | rfl | rfl | rfl | rfl | rfl | rfl | rfl | rfl | rfl | rfl | ⟨_, e⟩
  all_goals first
    | (rw [e]; simp)
    | decide
theorem plL_allC (c : Nat) : allC (plL c) := by
  rcases plL_cases c with rfl | rfl | rfl | rfl | rfl | rfl | rfl | rfl | rfl | rfl | rfl | ⟨_, e⟩
  all_goals first
    | (rw [e]; intro d hd; cases hd)
    | (intro d hd; revert d; decide)

/-- The fold of a fold is the fold. -/
theorem fdC_idem (c : Nat) : (fdC c).flatMap fdC = fdC c := by
  rcases fdC_cases c with rfl | rfl | rfl | rfl | rfl | rfl | rfl | rfl | rfl | rfl | rfl | rfl | rfl | ⟨hn, e⟩
  all_goals first
    | decide
    | (have hs : smC (smC c) = smC c := smC_idem c
       have hm : smC c ≠ 181 ∧ smC c ≠ 223 ∧ smC c ≠ 7838 ∧ smC c ≠ 329 ∧ smC c ≠ 383 ∧ smC c ≠ 962 ∧ smC c ≠ 64256 ∧ smC c ≠ 64257 ∧ smC c ≠ 64258 ∧ smC c ≠ 64259 ∧ smC c ≠ 64260 ∧ smC c ≠ 64261 ∧ smC c ≠ 64262 := by
         unfold smC
         simp only [pcap_iff]
         repeat' split
         all_goals omega
       rcases fdC_cases (smC c) with h | h | h | h | h | h | h | h | h | h | h | h | h | ⟨_, e2⟩
       all_goals first
         | (exfalso; omega)
         | (rw [e, List.flatMap_cons, List.flatMap_nil, List.append_nil, e2, hs]))

/-- How chars finds the capital form: of what a special character stands for, letter by letter. -/
def cpB (c : Nat) : List Nat := if pcap ((c : Int) - 32) = true ∧ c ≠ 962 then [c - 32] else [c]
theorem cpC_base {c : Nat} (h : plL c = []) : cpC c = cpB c := by
  unfold cpB
  simp only [pcap_iff]
  rcases cpC_cases c with rfl | rfl | rfl | rfl | rfl | rfl | rfl | rfl | rfl | rfl | rfl | ⟨_, ⟨hr, e⟩ | ⟨hr, e⟩⟩
  all_goals first
    | exact absurd h (by decide)
    | (rw [e, if_pos (by omega)])
    | (rw [e, if_neg (by omega)])
theorem cpC_special {c : Nat} (h : plL c ≠ []) : (plL c).flatMap cpB = cpC c := by
  rcases plL_cases c with rfl | rfl | rfl | rfl | rfl | rfl | rfl | rfl | rfl | rfl | rfl | ⟨_, e⟩
  all_goals first
    | exact absurd e h
    | decide
theorem plL_base {c d : Nat} (h : d ∈ plL c) : plL d = [] := by
  rcases plL_cases c with rfl | rfl | rfl | rfl | rfl | rfl | rfl | rfl | rfl | rfl | rfl | ⟨_, e⟩
  all_goals first
    | (rw [e] at h; cases h)
    | (revert h; revert d; decide)

/-- The bytes that the model gives to a character. -/
theorem encode_en {c : Nat} (hc : isC c = true) : Utf8.encode (c : Int) = ⟨(en c).toArray⟩ := by
  have hi := isC_iff.1 hc
  have hv : Utf8.valid (c : Int) = true := by
    simp [Utf8.valid]; omega
  unfold Utf8.encode
  simp only [hv, if_true, Int.toNat_natCast]
  by_cases h1 : c < 128
  · rw [if_pos (by omega), en1 h1]
  by_cases h2 : c < 2048
  · rw [if_neg (by omega), if_pos (by omega), en2 (by omega) h2]
  by_cases h3 : c < 65536
  · rw [if_neg (by omega), if_neg (by omega), if_pos (by omega), en3 (by omega) h3 hc]
  · rw [if_neg (by omega), if_neg (by omega), if_neg (by omega), en4 (by omega) hc]

end Go.Proofs.YtegckpkancbnmaaDoor
