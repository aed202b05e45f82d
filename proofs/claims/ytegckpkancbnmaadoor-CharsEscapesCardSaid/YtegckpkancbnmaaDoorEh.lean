/-
  Escape, chars' and the document's: what the functions give. Conditions: the table of math/bits as it is laid.
-/
import Derived.Test.YtegckpkancbnmaaDoorFb
import Derived.Test.YtegckpkancbnmaaDoorFd
namespace Go.Proofs.YtegckpkancbnmaaDoor
open Go.RowKit

abbrev D16 : ByteArray := (ByteArray.mk #[48, 49, 50, 51, 52, 53, 54, 55, 56, 57, 97, 98, 99, 100, 101, 102])
theorem dig16_cut : ∀ r, r < 16 → D16.extract r (r + 1) = bs [dgc r] := by decide +kernel
theorem bs_cons_app (b : UInt8) (S : List UInt8) : bs [b] ++ bs S = bs (b :: S) := by rw [bs_append]; rfl
def strLen : Value → Nat | .string x => x.size | _ => 0
theorem str_nil (l : List UInt8) (h : l ≠ []) : ((bs l).toList == (ByteArray.toList ⟨#[]⟩)) = false ∧ (bs l).toList.isEmpty = false ∧ (!(bs l).toList.isEmpty) = true := by
  have h1 : (bs l).toList.isEmpty = false := by
    rw [Lib.toList_data, bs_list, List.isEmpty_eq_false_iff]
    exact h
  refine ⟨?_, h1, by rw [h1]; rfl⟩
  rw [Lib.toList_data, Lib.toList_data, bs_list, Bool.eq_false_iff]
  intro e
  exact h (by simpa using e)
theorem hxs_step (m : Nat) : hxs m = (if 16 ≤ m then hxs (m / 16) else []) ++ [dgc (m % 16)] := by
  by_cases h : 16 ≤ m
  · rw [if_pos h, hxs_more h]
  · rw [if_neg h, hxs_one (by omega), Nat.mod_eq_of_lt (by omega)]
    rfl

/-- Where the loop of Hex stands. -/
def HxAt (u m : Nat) (S : List UInt8) : Prop := (S = [] ∧ m = u) ∨ (S ≠ [] ∧ 0 < m ∧ hxs u = hxs m ++ S) ∨ (S ≠ [] ∧ m = 0 ∧ hxs u = S)
theorem HxAt.step {u m : Nat} {S : List UInt8} (h : HxAt u m S) (hg : 0 < m ∨ S = []) : HxAt u (m / 16) (dgc (m % 16) :: S) := by
  have key : hxs m ++ S = (if 16 ≤ m then hxs (m / 16) else []) ++ (dgc (m % 16) :: S) := by
    rw [hxs_step m, List.append_assoc]
    rfl
  have hu : hxs u = hxs m ++ S := by
    rcases h with ⟨rfl, rfl⟩ | ⟨_, _, h⟩ | ⟨h1, h2, _⟩
    · simp
    · exact h
    · rcases hg with h3 | h3
      · omega
      · exact absurd h3 h1
  by_cases h16 : 16 ≤ m
  · refine .inr (.inl ⟨by simp, by omega, ?_⟩)
    rw [hu, key, if_pos h16]
  · refine .inr (.inr ⟨by simp, by omega, ?_⟩)
    rw [hu, key, if_neg h16]
    rfl
theorem HxAt.len {u m : Nat} {S : List UInt8} (h : HxAt u m S) (hu : u ≤ 1114111) : S.length ≤ 6 := by
  have h6 := hxs_len6 hu
  rcases h with ⟨rfl, _⟩ | ⟨_, _, h⟩ | ⟨_, _, h⟩
  · simp
  · rw [h, List.length_append] at h6
    omega
  · rwa [h] at h6

set_option maxHeartbeats 1000000 in
theorem rHex_any (u : Nat) (hu : u ≤ 1114111) (w : World) : Calls Tryd.prog 31 #[.int .i64 u] w (StrS (hxs u) w) := by
  have HP : Hid (∀ x w, x = bs (hxs u) → StrS (hxs u) w (.returned (.string x)) w) := fun x w h => by
    subst h
    exact ⟨rfl, rfl⟩
  have H0 : Hid (HxAt u u []) := .inl ⟨rfl, rfl⟩
  have HS : Hid (∀ m S, HxAt u m S → (0 < m ∨ S = []) → HxAt u (m / 16) (dgc (m % 16) :: S)) := fun m S h hg => h.step hg
  have HL : Hid (∀ m S, HxAt u m S → S.length ≤ 6) := fun m S h => h.len hu
  have HE : Hid (∀ S, HxAt u 0 S → S ≠ [] → bs S = bs (hxs u)) := fun S h hne => by
    rcases h with ⟨h1, _⟩ | ⟨_, h1, _⟩ | ⟨_, _, h⟩
    · exact absurd h1 hne
    · omega
    · rw [h]
  go_enter Tryd.func31, Tryd.ntmps31
  go_wp2
  go_loop [0, 3] (fun c s => ∃ (m : Nat) (S : List UInt8), m ≤ 1114111 ∧ c = .int .i64 m ∧ s = .string (bs S) ∧ Hid (HxAt u m S)) (fun c s => 2 * (intOf c).toNat + (1 - strLen s))
  case atStart => exact ⟨u, [], hu, rfl, rfl, H0⟩
  case round =>
    obtain ⟨m, S, hm, rfl, rfl, hh⟩ := hrel
    have hl := HL.out m S hh.out
    have hsz : (bs S).size = S.length := bs_size S
    have hI : ((bs S).size : Int) ≤ 8388608 := by omega
    have HSZ := Lib.hid hsz
    have hcut : D16.extract (m % 16) (m % 16 + 1) = bs [dgc (m % 16)] := dig16_cut (m % 16) (by omega)
    have HD := Lib.hid (bs_cons_app (dgc (m % 16)) S)
    have h1z : ((bs [dgc (m % 16)]).size : Int) ≤ 8388608 := by rw [bs_size]; simp
    clear hsz hl
    by_cases hg : 0 < m ∨ S = []
    · have HN := Lib.hid (HS.out m S hh.out hg)
      have HME : Hid (2 * (m / 16) + (1 - (bs (dgc (m % 16) :: S)).size) < 2 * m + (1 - (bs S).size)) := by
        show _ < _
        rw [bs_size, HSZ.out, List.length_cons]
        rcases hg with h | h
        · omega
        · subst h
          simp
          omega
      by_cases hm0 : 0 < m
      · have hmI : (0 : Int) < (m : Int) := by omega
        clear hg
        generalize bs [dgc (m % 16)] = Y at *
        generalize bs S = X at *
        go_wp2
        go_round
        case rel => exact ⟨m / 16, dgc (m % 16) :: S, by omega, by go_num, by rw [HD.out], HN⟩
        case measure =>
          rw [HD.out]
          have := HME.out
          simp [intOf, strLen]
          omega
      · have hm00 : m = 0 := by omega
        subst hm00
        have hS : S = [] := by
          rcases hg with h | h
          · omega
          · exact h
        subst hS
        clear hg hcut HD h1z HME hI HSZ hh hm hm0
        rw [show ((0 : Nat) : Int) = 0 from rfl, show bs [] = (⟨#[]⟩ : ByteArray) from rfl]
        go_wp2
        go_round
        case rel => exact ⟨0, [48], by omega, rfl, rfl, HN⟩
        case measure => decide
    · have h0 : m = 0 := by omega
      subst h0
      have hne : S ≠ [] := fun h => hg (.inr h)
      have HX := Lib.hid (HE.out S hh.out hne)
      obtain ⟨n1, n2, n3⟩ := str_nil S hne
      clear hcut HD h1z hg hne hm HS HL HE
      generalize bs S = X at *
      go_wp2
      go_ret
      exact HP.out _ _ HX.out

/-- The bytes of what a character becomes. -/
def esB (c : Nat) : List UInt8 := ens (esC c)
theorem esB_slash : bs (esB 92) = ⟨#[92, 92]⟩ := by
  unfold esB
  rw [esC_ens 92 (by decide)]
  rfl
theorem esB_out (c : Nat) (h : c ≤ 1114111) (h1 : c ≠ 92) (h2 : c < 32 ∨ 126 < c) : (⟨#[92, 120, 123]⟩ ++ bs (hxs c) ++ ⟨#[125]⟩ : ByteArray) = bs (esB c) := by
  unfold esB
  rw [esC_ens c h, if_neg h1, if_pos h2]
  show bs [92, 120, 123] ++ bs (hxs c) ++ bs [125] = _
  rw [bs_append, bs_append]
  rfl
theorem esB_plain (c : Nat) (h : c ≤ 1114111) (h1 : c ≠ 92) (h2 : ¬ (c < 32 ∨ 126 < c)) : esB c = en c := by
  unfold esB
  rw [esC_ens c h, if_neg h1, if_neg h2]
theorem esB_len (c : Nat) : (esB c).length ≤ 40 := by
  have h1 := (ens_length_le (esC c)).2
  have h2 := esC_len c
  unfold esB
  omega

set_option maxRecDepth 100000 in
set_option maxHeartbeats 1000000 in
theorem escape_any (c : Nat) (hc : isC c = true) (w : World) (hD : Dtab w) : Calls Tryd.prog 28 #[.int .i32 c] w (StrP (esB c) w) := by
  have hi := isC_iff.1 hc
  have h1 : c ≤ 1114111 := by omega
  have HP : Hid (∀ x w', x = bs (esB c) → Below w.heap.size w w' → StrP (esB c) w (.returned (.string x)) w') := fun x w' h hb => by
    rw [h]
    exact ⟨rfl, hb⟩
  have HB := Lib.hid (Below.refl w.heap.size w)
  by_cases h92 : c = 92
  · subst h92
    have HX := Lib.hid esB_slash.symm
    clear hc hi
    go_enter Tryd.func28, Tryd.ntmps28
    go_wp2
    go_ret
    exact HP.out _ _ HX.out HB.out
  · have n92 : ((c : Int) == 92) = false := by simp; omega
    by_cases ho : c < 32 ∨ 126 < c
    · have HX := Lib.hid (esB_out c h1 h92 ho)
      have HF := Lib.hid (sFormatInt_16 c (by omega) w hD)
      have hsz : ((bs (hxs c)).size : Int) ≤ 8 := by
        have := hxs_len6 h1
        rw [bs_size]
        omega
      unfold StrP at HF
      clear hc hi hD h92
      generalize bs (hxs c) = X at *
      rcases ho with ho | ho
      · have ho2 : (c : Int) < 32 := by omega
        go_enter Tryd.func28, Tryd.ntmps28
        go_wp2_with fail
        refine (HF.out).mono ?_
        rintro e w' ⟨rfl, hb⟩
        have HB2 := Lib.hid hb
        clear hb
        go_wp2
        go_ret
        exact HP.out _ _ HX.out HB2.out
      · have ho2 : (126 : Int) < c := by omega
        have ho3 : ¬ (c : Int) < 32 := by omega
        go_enter Tryd.func28, Tryd.ntmps28
        go_wp2_with fail
        refine (HF.out).mono ?_
        rintro e w' ⟨rfl, hb⟩
        have HB2 := Lib.hid hb
        clear hb
        go_wp2
        go_ret
        exact HP.out _ _ HX.out HB2.out
    · have HX : Hid (Utf8.encode (c : Int) = bs (esB c)) := by
        show _ = _
        rw [esB_plain c h1 h92 ho, encode_en hc]
        rfl
      have ho1 : ¬ (c : Int) < 32 := by omega
      have ho2 : ¬ (126 : Int) < (c : Int) := by omega
      clear hc hi hD h92 ho
      go_enter Tryd.func28, Tryd.ntmps28
      go_wp2
      go_ret
      exact HP.out _ _ HX.out HB.out

theorem e_escape (args : Array Value) (w : World) : (callFunc 28 args).run Tryd.prog w = .ok (.enter 28 args) w := by kernel_rfl

theorem Escape_bad (s : ByteArray) (hb : ckE s ≠ 0) (w : World) : Calls Tryd.prog 9 #[.string s] w (TxP [] (ckE s) w) := by
  have H := Lib.hid (fun w => changed_bad 28 s hb w)
  have HP : Hid (∀ w w', Below w.heap.size w w' → TxP [] (ckE s) w (.returned (.tuple #[.string ⟨#[]⟩, .int .i64 (ckE s)])) w') := fun w w' h => ⟨rfl, h⟩
  clear hb
  generalize ckE s = x at *
  go_enter Tryd.func9, Tryd.ntmps9
  go_wp2_with fail
  refine (H.out _).mono ?_
  rintro e w' ⟨rfl, hb⟩
  have HB := Lib.hid hb
  clear hb
  go_wp2
  go_ret2
  exact HP.out _ _ HB.out
theorem Escape_ok (s : ByteArray) (L : List Nat) (hC : allC L) (hl : s.data.toList = ens L) (hs : s.size ≤ 4096) (w : World) (hD : Dtab w) : Calls Tryd.prog 9 #[.string s] w (TxP (frmL esC L) (frmE esC L) w) := by
  have H := Lib.hid (changed_gen 28 esC esC_len s L hC hl hs w e_escape (fun c hc w' hb => escape_any c (hC c hc) w' (hD.later hb)))
  have HP : Hid (∀ w', Below w.heap.size w w' → TxP (frmL esC L) (frmE esC L) w (.returned (.tuple #[.string (bs (frmL esC L)), .int .i64 (frmE esC L)])) w') := fun w' h => ⟨rfl, h⟩
  clear hC hl hD
  generalize frmL esC L = R1 at *
  generalize frmE esC L = R2 at *
  go_enter Tryd.func9, Tryd.ntmps9
  go_wp2_with fail
  refine (H.out).mono ?_
  rintro e w' ⟨rfl, hb⟩
  have HB := Lib.hid hb
  clear hb
  go_wp2
  go_ret2
  exact HP.out _ HB.out

end Go.Proofs.YtegckpkancbnmaaDoor
