/-
  chars' forms of one character, and of a text's characters (replaced, changed). Conditions: characters; texts of at most 1000000 characters.
-/
import Derived.Test.YtegckpkancbnmaaDoorFm
import Derived.Test.YtegckpkancbnmaaDoorTx
namespace Go.Proofs.YtegckpkancbnmaaDoor
open Go.RowKit

def StrS (l : List UInt8) (w : World) (e : Ending) (w' : World) : Prop := e = .returned (.string (bs l)) ∧ w = w'
theorem StrS.p {l : List UInt8} {w : World} {e : Ending} {w' : World} (h : StrS l w e w') : StrP l w e w' := by
  obtain ⟨h1, rfl⟩ := h
  exact ⟨h1, Below.refl _ _⟩

set_option maxHeartbeats 1000000 in
theorem isPlainCapital_any (c : Int) (w : World) (h0 : -100000 ≤ c) (h1 : c ≤ 2000000) :
    Calls Tryd.prog 82 #[.int .i32 c] w fun e w' => e = .returned (.bool (pcap c)) ∧ w = w' := by
  go_enter Tryd.func82, Tryd.ntmps82
  go_wp2
  all_goals
    go_ret
    refine ⟨ret_bool ?_, rfl⟩
    rw [Bool.eq_iff_iff, pcap_iff]
    simp
    omega

set_option maxHeartbeats 1000000 in
theorem plainLetters_any (c : Nat) (w : World) (h1 : c ≤ 1114111) :
    Calls Tryd.prog 81 #[.int .i32 c] w (StrS (ens (plL c)) w) := by
  have HP : Hid (∀ x w, x = bs (ens (plL c)) → StrS (ens (plL c)) w (.returned (.string x)) w) := fun x w h => by
    rw [h]
    exact ⟨rfl, rfl⟩
  rcases plL_cases c with rfl | rfl | rfl | rfl | rfl | rfl | rfl | rfl | rfl | rfl | rfl | ⟨hn, e⟩
  all_goals try
    (go_enter Tryd.func81, Tryd.ntmps81
     go_wp2
     go_ret
     exact HP.out _ _ (by decide +kernel))
  have HN := Lib.hid hn
  have HE : Hid (⟨#[]⟩ = bs (ens (plL c))) := by
    show _ = _
    rw [e]
    rfl
  obtain ⟨n1, n2, n3, n4, n5, n6, n7, n8, n9, n10, n11⟩ := HN.out
  clear hn e
  have m1 : ((c : Int) == 223) = false := by rw [beq_eq_false_iff_ne]; omega
  have m2 : ((c : Int) == 329) = false := by rw [beq_eq_false_iff_ne]; omega
  have m3 : ((c : Int) == 383) = false := by rw [beq_eq_false_iff_ne]; omega
  have m4 : ((c : Int) == 962) = false := by rw [beq_eq_false_iff_ne]; omega
  have m5 : ((c : Int) == 64256) = false := by rw [beq_eq_false_iff_ne]; omega
  have m6 : ((c : Int) == 64257) = false := by rw [beq_eq_false_iff_ne]; omega
  have m7 : ((c : Int) == 64258) = false := by rw [beq_eq_false_iff_ne]; omega
  have m8 : ((c : Int) == 64259) = false := by rw [beq_eq_false_iff_ne]; omega
  have m9 : ((c : Int) == 64260) = false := by rw [beq_eq_false_iff_ne]; omega
  have m10 : ((c : Int) == 64261) = false := by rw [beq_eq_false_iff_ne]; omega
  have m11 : ((c : Int) == 64262) = false := by rw [beq_eq_false_iff_ne]; omega
  clear n1 n2 n3 n4 n5 n6 n7 n8 n9 n10 n11
  go_enter Tryd.func81, Tryd.ntmps81
  go_wp2
  go_ret
  exact HP.out _ _ HE.out

set_option maxHeartbeats 1000000 in
theorem small_any (c : Nat) (w : World) (hc : isC c = true) : Calls Tryd.prog 56 #[.int .i32 c] w (StrS (en (smC c)) w) := by
  have hi := isC_iff.1 hc
  have h1 : c ≤ 1114111 := by omega
  have HP : Hid (∀ x w, x = bs (en (smC c)) → StrS (en (smC c)) w (.returned (.string x)) w) := fun x w h => by
    rw [h]
    exact ⟨rfl, rfl⟩
  by_cases k1 : c = 7838
  · subst k1
    go_enter Tryd.func56, Tryd.ntmps56
    go_wp2
    go_ret
    exact HP.out _ _ (by decide +kernel)
  by_cases k2 : c = 8490
  · subst k2
    go_enter Tryd.func56, Tryd.ntmps56
    go_wp2
    go_ret
    exact HP.out _ _ (by decide +kernel)
  by_cases k3 : c = 8491
  · subst k3
    go_enter Tryd.func56, Tryd.ntmps56
    go_wp2
    go_ret
    exact HP.out _ _ (by decide +kernel)
  have m1 : ((c : Int) == 7838) = false := by rw [beq_eq_false_iff_ne]; omega
  have m2 : ((c : Int) == 8490) = false := by rw [beq_eq_false_iff_ne]; omega
  have m3 : ((c : Int) == 8491) = false := by rw [beq_eq_false_iff_ne]; omega
  cases hp : pcap (c : Int)
  · have HF : Hid (Utf8.encode (c : Int) = bs (en (smC c))) := by
      show _ = _
      have e : smC c = c := by
        unfold smC
        rw [if_neg k1, if_neg k2, if_neg k3, if_neg (by rw [hp]; decide)]
      rw [e, encode_en hc]
      rfl
    have HPC := Lib.hid hp
    clear hp k1 k2 k3 hc hi
    go_enter Tryd.func56, Tryd.ntmps56
    go_wp2_with fail
    refine (isPlainCapital_any _ _ (by omega) (by omega)).mono ?_
    rintro e w' ⟨rfl, rfl⟩
    rw [HPC.out]
    go_wp2
    go_ret
    exact HP.out _ _ HF.out
  · have HF : Hid (Utf8.encode ((c : Int) + 32) = bs (en (smC c))) := by
      show _ = _
      have e : smC c = c + 32 := by
        unfold smC
        rw [if_neg k1, if_neg k2, if_neg k3, if_pos hp]
      have hx : isC (smC c) = true := smC_isC hc
      rw [show (c : Int) + 32 = ((smC c : Nat) : Int) by rw [e]; rfl, encode_en hx]
      rfl
    have HPC := Lib.hid hp
    clear hp k1 k2 k3 hc hi
    go_enter Tryd.func56, Tryd.ntmps56
    go_wp2_with fail
    refine (isPlainCapital_any _ _ (by omega) (by omega)).mono ?_
    rintro e w' ⟨rfl, rfl⟩
    rw [HPC.out]
    go_wp2
    go_ret
    exact HP.out _ _ HF.out

theorem ens_nil_iff (l : List Nat) : ens l = [] ↔ l = [] := by
  constructor
  · intro h
    have := (ens_length_le l).1
    rw [h, List.length_nil] at this
    exact List.eq_nil_of_length_eq_zero (by omega)
  · rintro rfl; rfl
theorem str_eq_nil (l : List Nat) : ((bs (ens l)).toList == (ByteArray.toList ⟨#[]⟩)) = decide (l = []) := by
  rw [Lib.toList_data, Lib.toList_data, bs_list, Bool.eq_iff_iff, beq_iff_eq, decide_eq_true_eq]
  exact ens_nil_iff l

set_option maxHeartbeats 1000000 in
theorem fold_any (c : Nat) (w : World) (hc : isC c = true) : Calls Tryd.prog 52 #[.int .i32 c] w (StrS (ens (fdC c)) w) := by
  have hi := isC_iff.1 hc
  have h1 : c ≤ 1114111 := by omega
  have HP : Hid (∀ x w, x = bs (ens (fdC c)) → StrS (ens (fdC c)) w (.returned (.string x)) w) := fun x w h => by
    rw [h]
    exact ⟨rfl, rfl⟩
  by_cases k1 : c = 181
  · subst k1
    go_enter Tryd.func52, Tryd.ntmps52
    go_wp2
    go_ret
    exact HP.out _ _ (by decide +kernel)
  by_cases k2 : c = 7838
  · subst k2
    go_enter Tryd.func52, Tryd.ntmps52
    go_wp2
    go_ret
    exact HP.out _ _ (by decide +kernel)
  have m1 : ((c : Int) == 181) = false := by rw [beq_eq_false_iff_ne]; omega
  have m2 : ((c : Int) == 7838) = false := by rw [beq_eq_false_iff_ne]; omega
  have HPL := Lib.hid (fun w => plainLetters_any c w h1)
  by_cases hp : plL c = []
  · have HF : Hid (bs (en (smC c)) = bs (ens (fdC c))) := by
      show _ = _
      rcases fdC_cases c with rfl | rfl | rfl | rfl | rfl | rfl | rfl | rfl | rfl | rfl | rfl | rfl | rfl | ⟨_, e⟩
      all_goals first
        | exact absurd hp (by decide)
        | exact absurd rfl k1
        | exact absurd rfl k2
        | (rw [e, ens_one])
    have HSM := Lib.hid (fun w => small_any c w hc)
    rw [hp] at HPL
    clear k1 k2 hc hi hp
    go_enter Tryd.func52, Tryd.ntmps52
    go_wp2_with fail
    refine (HPL.out _).mono ?_
    rintro e w' ⟨rfl, rfl⟩
    rw [show bs (ens []) = (⟨#[]⟩ : ByteArray) from rfl]
    go_wp2_with fail
    refine (HSM.out _).mono ?_
    rintro e w' ⟨rfl, rfl⟩
    go_wp2
    go_ret
    exact HP.out _ _ HF.out
  · have HF : Hid (bs (ens (plL c)) = bs (ens (fdC c))) := by
      show _ = _
      rcases plL_cases c with rfl | rfl | rfl | rfl | rfl | rfl | rfl | rfl | rfl | rfl | rfl | ⟨_, e⟩
      all_goals first
        | exact absurd e hp
        | decide +kernel
    have hne : ((bs (ens (plL c))).toList == (ByteArray.toList ⟨#[]⟩)) = false := by rw [str_eq_nil]; simp [hp]
    have hne2 : ((bs (ens (plL c))).toList != (ByteArray.toList ⟨#[]⟩)) = true := by rw [bne, hne]; rfl
    have hne3 : (bs (ens (plL c))).toList.isEmpty = false := by
      rw [Lib.toList_data, bs_list, List.isEmpty_eq_false_iff]
      exact fun h => hp ((ens_nil_iff _).1 h)
    have hne4 : (!(bs (ens (plL c))).toList.isEmpty) = true := by rw [hne3]; rfl
    clear k1 k2 hc hi hp
    generalize hX : bs (ens (plL c)) = X at *
    have HX := Lib.hid hX
    clear hX
    go_enter Tryd.func52, Tryd.ntmps52
    go_wp2_with fail
    refine (HPL.out _).mono ?_
    rintro e w' ⟨rfl, rfl⟩
    rw [show bs (ens (plL c)) = X from HX.out]
    go_wp2
    go_ret
    exact HP.out _ _ HF.out

theorem ownsF_below {w w' : World} {base : Nat} {e : TypeId} {size : Nat} {v : Value} {n : Nat} {xs : List Value} (h : w.ownsRowF base e size v n xs) (hb : Below w.heap.size w w') : w'.ownsRowF base e size v n xs := by
  refine ⟨h.1, ?_⟩
  rcases h.2 with hn | ⟨g, cap, cur, fz, rfl, hb0, hgg, rest⟩
  · exact .inl hn
  · refine .inr ⟨g, cap, cur, fz, rfl, hb0, ?_, rest⟩
    rw [hb.block g (Array.getElem?_eq_some_iff.1 hgg).1]
    exact hgg
theorem bldF_below {B b : Nat} {p : Value} {xs : List Value} {w w' : World} (h : Lib.BuilderAtF 45 5 B b p xs w) (hb : Below w.heap.size w w') : Lib.BuilderAtF 45 5 B b p xs w' := by
  obtain ⟨h1, v, h2, h3, h4⟩ := h
  refine ⟨h1, v, ?_, ownsF_below h3 hb, h4⟩
  rw [hb.block b (Array.getElem?_eq_some_iff.1 h2).1]
  exact h2
theorem Bld.later {B b : Nat} {l : List UInt8} {w w' : World} (h : Bld B b l w) (hb : Below w.heap.size w w') : Bld B b l w' :=
  h.elim (fun x => .inl (bldF_below x hb)) (fun x => .inr (bldF_below x hb))
theorem It.later {bi : Nat} {s : ByteArray} {L : List Nat} {k : Nat} {w w' : World} (h : It bi s L k w) (hb : Below w.heap.size w w') : It bi s L k w' := by
  show w'.heap[bi]? = _
  rw [hb.block bi (Array.getElem?_eq_some_iff.1 h).1]
  exact h
theorem It.pos {bi : Nat} {s : ByteArray} {L : List Nat} {k : Nat} {w : World} (h : It bi s L k w) : w.iterPos bi = (ens (L.take k)).length := by
  unfold World.iterPos
  rw [show w.heap[bi]? = _ from h]
theorem flat_take (g : Nat → List Nat) (L : List Nat) (k : Nat) (h : k < L.length) : (L.take (k + 1)).flatMap g = (L.take k).flatMap g ++ g L[k] := by
  rw [take_succ_get L k h, List.flatMap_append]
  simp
theorem flat_len (g : Nat → List Nat) (m : Nat) (hg : ∀ c, (g c).length ≤ m) (L : List Nat) : (L.flatMap g).length ≤ m * L.length := by
  induction L with
  | nil => simp
  | cons c L ih =>
    have := hg c
    rw [List.flatMap_cons, List.length_append, List.length_cons, Nat.mul_add, Nat.mul_one]
    omega

set_option maxRecDepth 100000 in
set_option maxHeartbeats 2000000 in
/-- A text with a form of each of its characters, whatever function gives the form. -/
theorem replaced_gen (f : Nat) (g : Nat → List Nat) (hg3 : ∀ c, (g c).length ≤ 10) (s : ByteArray) (L : List Nat) (hC : allC L) (hl : s.data.toList = ens L) (hs : s.size ≤ 1000000) (w : World)
    (er : ∀ args w, (callFunc f args).run Tryd.prog w = .ok (.enter f args) w)
    (hf : ∀ c, c ∈ L → ∀ w', Below w.heap.size w w' → Calls Tryd.prog f #[.int .i32 c] w' (StrP (ens (g c)) w')) :
    Calls Tryd.prog 55 #[.string s, .func (.func f) #[] #[]] w (StrP (ens (L.flatMap g)) w) := by
  have HLL : Hid (L.length ≤ 1000000) := by
    have := (ens_length_le L).1
    rw [← hl, ← size_list] at this
    show _ ≤ _
    omega
  have HP : Hid (∀ w', Below w.heap.size w w' → StrP (ens (L.flatMap g)) w (.returned (.string (bs (ens (L.flatMap g))))) w') := fun w' h => ⟨rfl, h⟩
  have HNX : Hid (∀ bi k w, It bi s L k w → (hk : k < L.length) → ∀ ty, (Instr.next (.pointer (some ⟨bi, 0, none⟩)) true ty).run Tryd.prog w = .ok (.tuple #[.bool true, .int .i64 (ens (L.take k)).length, .int .i32 (L[k] : Nat)]) (w.iterAt bi s (ens (L.take (k + 1))).length)) := fun bi k w h hk ty => h.next hC hl hk ty
  have HND : Hid (∀ bi k w, It bi s L k w → L.length ≤ k → ∀ ty, (Instr.next (.pointer (some ⟨bi, 0, none⟩)) true ty).run Tryd.prog w = .ok (.tuple #[.bool false]) w) := fun bi k w h hk ty => h.done hl hk ty
  have HG : Hid (∀ k, (h : k < L.length) → ∀ w', Below w.heap.size w w' → Calls Tryd.prog f #[.int .i32 (L[k] : Nat)] w' (StrP (ens (g L[k])) w')) := fun k h w' hb => hf _ (List.getElem_mem h) w' hb
  have HSt : Hid (∀ k, (h : k < L.length) → ens ((L.take (k + 1)).flatMap g) = ens ((L.take k).flatMap g) ++ ens (g L[k])) := fun k h => by
    rw [flat_take g L k h, ens_append]
  have HE : Hid (∀ k, L.length ≤ k → ens ((L.take k).flatMap g) = ens (L.flatMap g)) := fun k h => by
    rw [List.take_of_length_le h]
  have HLen : Hid (∀ k, k ≤ L.length → (ens ((L.take k).flatMap g)).length ≤ 40000000) := fun k h => by
    have h1 := (ens_length_le ((L.take k).flatMap g)).2
    have h2 := flat_len g 10 hg3 (L.take k)
    have h3 : (L.take k).length ≤ k := by rw [List.length_take]; omega
    have h4 := HLL.out
    show _ ≤ _
    omega
  have HGL : Hid (∀ c, (bs (ens (g c))).size ≤ 40) := fun c => by
    have h1 := (ens_length_le (g c)).2
    have h2 := hg3 c
    rw [bs_size]
    omega
  have HF0 : Hid (Bld w.heap.size w.heap.size (ens ((L.take 0).flatMap g)) ((w.alloc (.cells #[.pointer none, .slice none 0 0] 45)).iter s 0)) := (Bld.fresh _ w (Nat.le_refl _)).alloc _
  have HB0 : Hid (Below w.heap.size w ((w.alloc (.cells #[.pointer none, .slice none 0 0] 45)).iter s 0)) := ((Below.refl _ _).alloc (Nat.le_refl _) _).alloc (by simp) _
  have HI0 : Hid (It (w.heap.size + 1) s L 0 ((w.alloc (.cells #[.pointer none, .slice none 0 0] 45)).iter s 0)) := by
    have := It.start (w.alloc (.cells #[.pointer none, .slice none 0 0] 45)) s L
    rw [show (w.alloc (.cells #[.pointer none, .slice none 0 0] 45)).heap.size = w.heap.size + 1 by simp] at this
    exact this
  have HCB : Hid (∀ k, (h : k < L.length) → (L[k] : Nat) ≤ 1114111) := fun k h => by
    have := isC_iff.1 (hC _ (List.getElem_mem h))
    show _ ≤ _
    omega
  have HPS : Hid (∀ k, k < L.length → (ens (L.take k)).length < s.size ∧ (ens (L.take k)).length < (ens (L.take (k + 1))).length) := fun k h => by
    refine ⟨?_, ?_⟩
    · rw [size_list, hl]
      have := ens_take_lt L [] k h
      rwa [List.append_nil] at this
    · rw [ens_step L k h]
      have := en_length L[k]
      omega
  clear hC hl hf hg3
  generalize ens (L.flatMap g) = R at *
  go_enter Tryd.func55, Tryd.ntmps55
  go_wp2_with fail
  generalize (w.alloc (.cells #[.pointer none, .slice none 0 0] 45)).iter s 0 = w1 at *
  go_loopw [7] (fun _ wr => ∃ k : Nat, k ≤ L.length ∧ Hid (Bld w.heap.size w.heap.size (ens ((L.take k).flatMap g)) wr) ∧ Hid (Below w.heap.size w wr) ∧ Hid (It (w.heap.size + 1) s L k wr)) (fun _ wr => s.size - wr.iterPos (w.heap.size + 1))
  case atStart => exact ⟨0, Nat.zero_le _, HF0, HB0, HI0⟩
  case round =>
    obtain ⟨k, hk, hbd, hbl, hit⟩ := hrel
    have HP0 := Lib.hid hit.out.pos
    by_cases hlt : k < L.length
    · have hnext := HNX.out _ k wr hit.out hlt
      have hcb := HCB.out k hlt
      have HStk := Lib.hid (HSt.out k hlt)
      have HGk := Lib.hid (HG.out k hlt)
      have HLk := Lib.hid (HLen.out k hk)
      have HME : Hid ((ens (L.take k)).length < s.size ∧ (ens (L.take k)).length < (ens (L.take (k + 1))).length) := HPS.out k hlt
      have HIT2 : Hid (It (w.heap.size + 1) s L (k + 1) (wr.iterAt (w.heap.size + 1) s (ens (L.take (k + 1))).length)) := hit.out.step
      have HBD2 : Hid (Bld w.heap.size w.heap.size (ens ((L.take k).flatMap g)) (wr.iterAt (w.heap.size + 1) s (ens (L.take (k + 1))).length)) := hbd.out.iterAt hit.out _
      have HB2 : Hid (Below w.heap.size w (wr.iterAt (w.heap.size + 1) s (ens (L.take (k + 1))).length)) := Lib.below_iterAt hbl.out (by omega) _ _
      generalize wr.iterAt (w.heap.size + 1) s (ens (L.take (k + 1))).length = wq at *
      generalize L[k] = c at *
      go_wp2_with fail
      refine (HGk.out _ HB2.out).mono ?_
      rintro e w2 ⟨rfl, hb2⟩
      have HBD3 : Hid (Bld w.heap.size w.heap.size (ens ((L.take k).flatMap g)) w2) := HBD2.out.later hb2
      have HIT3 : Hid (It (w.heap.size + 1) s L (k + 1) w2) := HIT2.out.later hb2
      have HB3 : Hid (Below w.heap.size w w2) := HB2.out.trans (hb2.mono HB2.out.size)
      clear hb2
      have HWS := Lib.hid (WriteString_any _ _ _ (bs (ens (g c))) w2 HBD3.out (by have := HLk.out; have := HGL.out c; omega) HB3.out.size)
      go_wp2_with fail
      refine (HWS.out).mono ?_
      rintro e w3 ⟨rfl, hk3⟩
      have HBD4 : Hid (Bld w.heap.size w.heap.size (ens ((L.take (k + 1)).flatMap g)) w3) := by
        show Bld _ _ _ _
        rw [HStk.out]
        have := hk3.1
        rwa [bs_list] at this
      have HIT4 : Hid (It (w.heap.size + 1) s L (k + 1) w3) := hk3.2.2.iter HIT3.out (by omega)
      have HB4 : Hid (Below w.heap.size w w3) := HB3.out.trans hk3.2.1
      have HP4 := Lib.hid HIT4.out.pos
      clear hk3 hnext
      go_wp2
      go_roundw
      case rel => exact ⟨k + 1, by omega, HBD4, HB4, HIT4⟩
      case measure =>
        have h1 := HME.out
        have h2 := HP0.out
        have h3 := HP4.out
        omega
    · have hnext := HND.out _ k wr hit.out (by omega)
      have HBD : Hid (Bld w.heap.size w.heap.size R wr) := by
        show Bld _ _ _ _
        rw [← HE.out k (by omega)]
        exact hbd.out
      have HS2 := Lib.hid (String_any _ _ _ wr HBD.out hbl.out.size)
      go_wp2_with fail
      refine (HS2.out).mono ?_
      rintro e w2 ⟨rfl, hk2⟩
      have HBL2 : Hid (Below w.heap.size w w2) := hbl.out.trans hk2.2.1
      clear hk2
      go_wp2
      go_ret
      exact HP.out _ HBL2.out


/-- The same, of at most 3 characters each, in every world. -/
theorem replaced_any (f : Nat) (g : Nat → List Nat) (hg3 : ∀ c, (g c).length ≤ 3) (s : ByteArray) (L : List Nat) (hC : allC L) (hl : s.data.toList = ens L) (hs : s.size ≤ 1000000) (w : World)
    (er : ∀ args w, (callFunc f args).run Tryd.prog w = .ok (.enter f args) w)
    (hf : ∀ c, c ∈ L → ∀ w, Calls Tryd.prog f #[.int .i32 c] w (StrP (ens (g c)) w)) :
    Calls Tryd.prog 55 #[.string s, .func (.func f) #[] #[]] w (StrP (ens (L.flatMap g)) w) :=
  replaced_gen f g (fun c => Nat.le_trans (hg3 c) (by decide)) s L hC hl hs w er (fun c h w' _ => hf c h w')
end Go.Proofs.YtegckpkancbnmaaDoor
