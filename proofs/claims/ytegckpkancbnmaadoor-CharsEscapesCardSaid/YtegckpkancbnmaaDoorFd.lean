/-
  chars' forms of texts: Lower, Upper, Fold, Title, SameFold. No condition beside a text's own limit.
-/
import Derived.Test.YtegckpkancbnmaaDoorFc
namespace Go.Proofs.YtegckpkancbnmaaDoor
open Go.RowKit

def smF (c : Nat) : List Nat := [smC c]
theorem smF_allC {c : Nat} (h : isC c = true) : allC (smF c) := all_one (smC_isC h)
theorem flat_allC {g : Nat → List Nat} (hg : ∀ c, isC c = true → allC (g c)) {L : List Nat} (h : allC L) : allC (L.flatMap g) := fun d hd => by
  obtain ⟨c, hc, hd⟩ := List.mem_flatMap.1 hd
  exact hg c (h c hc) d hd
theorem allC_take {L : List Nat} (h : allC L) (k : Nat) : allC (L.take k) := fun c hc => h c (List.mem_of_mem_take hc)
theorem allC_drop {L : List Nat} (h : allC L) (k : Nat) : allC (L.drop k) := fun c hc => h c (List.mem_of_mem_drop hc)
theorem allC_append {L M : List Nat} (h : allC L) (h2 : allC M) : allC (L ++ M) := fun c hc => (List.mem_append.1 hc).elim (h c) (h2 c)

theorem e_small (args : Array Value) (w : World) : (callFunc 56 args).run Tryd.prog w = .ok (.enter 56 args) w := by kernel_rfl
theorem e_capital (args : Array Value) (w : World) : (callFunc 53 args).run Tryd.prog w = .ok (.enter 53 args) w := by kernel_rfl
theorem e_fold (args : Array Value) (w : World) : (callFunc 52 args).run Tryd.prog w = .ok (.enter 52 args) w := by kernel_rfl

set_option maxHeartbeats 1000000 in
theorem capital_base (c : Nat) (w : World) (hc : isC c = true) (hp : plL c = []) : Calls Tryd.prog 53 #[.int .i32 c] w (StrP (ens (cpB c)) w) := by
  have hi := isC_iff.1 hc
  have h1 : c ≤ 1114111 := by omega
  have HP : Hid (∀ x w, x = bs (ens (cpB c)) → StrP (ens (cpB c)) w (.returned (.string x)) w) := fun x w h => by
    rw [h]
    exact ⟨rfl, Below.refl _ _⟩
  have HPL := Lib.hid (fun w => plainLetters_any c w h1)
  rw [hp] at HPL
  have k1 : c ≠ 962 := by rintro rfl; exact absurd hp (by decide)
  have m1 : ((c : Int) != 962) = true := by rw [bne_iff_ne]; omega
  cases hq : pcap ((c : Int) - 32)
  · have HF : Hid (Utf8.encode (c : Int) = bs (ens (cpB c))) := by
      show _ = _
      have e : cpB c = [c] := by
        unfold cpB
        rw [if_neg (by rw [hq]; simp)]
      rw [e, ens_one, encode_en hc]
      rfl
    have HPC := Lib.hid hq
    clear hp hq k1 hc hi
    go_enter Tryd.func53, Tryd.ntmps53
    go_wp2_with fail
    refine (HPL.out _).mono ?_
    rintro e w' ⟨rfl, rfl⟩
    rw [show bs (ens []) = (⟨#[]⟩ : ByteArray) from rfl]
    go_wp2_with fail
    refine (isPlainCapital_any _ _ (by omega) (by omega)).mono ?_
    rintro e w' ⟨rfl, rfl⟩
    rw [HPC.out]
    go_wp2
    go_ret
    exact HP.out _ _ HF.out
  · have hr := pcap_iff.1 hq
    have HF : Hid (Utf8.encode ((c : Int) - 32) = bs (ens (cpB c))) := by
      show _ = _
      have e : cpB c = [c - 32] := by
        unfold cpB
        rw [if_pos ⟨hq, k1⟩]
      rw [e, ens_one, show (c : Int) - 32 = ((c - 32 : Nat) : Int) by omega, encode_en (isC_iff.2 (by omega))]
      rfl
    have HPC := Lib.hid hq
    have hlo : 32 ≤ c := by omega
    clear hp hq k1 hc hi hr
    go_enter Tryd.func53, Tryd.ntmps53
    go_wp2_with fail
    refine (HPL.out _).mono ?_
    rintro e w' ⟨rfl, rfl⟩
    rw [show bs (ens []) = (⟨#[]⟩ : ByteArray) from rfl]
    go_wp2_with fail
    refine (isPlainCapital_any _ _ (by omega) (by omega)).mono ?_
    rintro e w' ⟨rfl, rfl⟩
    rw [HPC.out]
    go_wp2
    go_ret
    exact HP.out _ _ HF.out

theorem cpB_len (c : Nat) : (cpB c).length ≤ 3 := by
  unfold cpB
  split <;> simp

set_option maxHeartbeats 1000000 in
theorem capital_any (c : Nat) (w : World) (hc : isC c = true) : Calls Tryd.prog 53 #[.int .i32 c] w (StrP (ens (cpC c)) w) := by
  by_cases hp : plL c = []
  · rw [cpC_base hp]
    exact capital_base c w hc hp
  · have hi := isC_iff.1 hc
    have h1 : c ≤ 1114111 := by omega
    have HPL := Lib.hid (fun w => plainLetters_any c w h1)
    have HR : Hid (∀ w, Calls Tryd.prog 55 #[.string (bs (ens (plL c))), .func (.func 53) #[] #[]] w (StrP (ens (cpC c)) w)) := fun w => by
      have := replaced_any 53 cpB cpB_len (bs (ens (plL c))) (plL c) (plL_allC c) (bs_list _) (by
        have h2 := (ens_length_le (plL c)).2
        have h3 := plL_len c
        rw [bs_size]
        omega) w e_capital (fun d hd w => capital_base d w (plL_allC c d hd) (plL_base hd))
      rwa [cpC_special hp] at this
    have hne : ((bs (ens (plL c))).toList == (ByteArray.toList ⟨#[]⟩)) = false := by rw [str_eq_nil]; simp [hp]
    have hne2 : ((bs (ens (plL c))).toList != (ByteArray.toList ⟨#[]⟩)) = true := by rw [bne, hne]; rfl
    have hne3 : (bs (ens (plL c))).toList.isEmpty = false := by
      rw [Lib.toList_data, bs_list, List.isEmpty_eq_false_iff]
      exact fun h => hp ((ens_nil_iff _).1 h)
    have hne4 : (!(bs (ens (plL c))).toList.isEmpty) = true := by rw [hne3]; rfl
    clear hc hi hp
    generalize hX : bs (ens (plL c)) = X at *
    have HX := Lib.hid hX
    clear hX
    go_enter Tryd.func53, Tryd.ntmps53
    go_wp2_with fail
    refine (HPL.out _).mono ?_
    rintro e w' ⟨rfl, rfl⟩
    rw [show bs (ens (plL c)) = X from HX.out]
    go_wp2_with fail
    refine (HR.out _).mono ?_
    rintro e w2 ⟨rfl, hb2⟩
    have HB2 := Lib.hid hb2
    clear hb2
    go_wp2
    go_ret
    exact ⟨rfl, HB2.out⟩

theorem changed_bad (f : Nat) (s : ByteArray) (hb : ckE s ≠ 0) (w : World) : Calls Tryd.prog 27 #[.string s, .func (.func f) #[] #[]] w (TxP [] (ckE s) w) := by
  have HK := Lib.hid (fun w => check1_any s w)
  have hn : (ckE s != 0) = true := by simpa using hb
  have HP : Hid (∀ w w', Below w.heap.size w w' → TxP [] (ckE s) w (.returned (.tuple #[.string ⟨#[]⟩, .int .i64 (ckE s)])) w') := fun w w' h => ⟨rfl, h⟩
  clear hb
  generalize ckE s = x at *
  go_enter Tryd.func27, Tryd.ntmps27
  go_wp2_with fail
  refine (HK.out _).mono ?_
  rintro e w' ⟨rfl, hb⟩
  have HB := Lib.hid hb
  clear hb
  go_wp2
  go_ret2
  exact HP.out _ _ HB.out

/-- What a form of each character makes of a text. -/
def frmL (g : Nat → List Nat) (L : List Nat) : List UInt8 := szL (ens (L.flatMap g))
def frmE (g : Nat → List Nat) (L : List Nat) : Int := szE (ens (L.flatMap g))

theorem changed_gen (f : Nat) (g : Nat → List Nat) (hg3 : ∀ c, (g c).length ≤ 10) (s : ByteArray) (L : List Nat) (hC : allC L) (hl : s.data.toList = ens L) (hs : s.size ≤ 4096) (w : World)
    (er : ∀ args w, (callFunc f args).run Tryd.prog w = .ok (.enter f args) w)
    (hf : ∀ c, c ∈ L → ∀ w', Below w.heap.size w w' → Calls Tryd.prog f #[.int .i32 c] w' (StrP (ens (g c)) w')) :
    Calls Tryd.prog 27 #[.string s, .func (.func f) #[] #[]] w (TxP (frmL g L) (frmE g L) w) := by
  have HK : Hid (∀ w, Calls Tryd.prog 34 #[.slice (some ⟨w.heap.size, 0, none⟩) 1 1] (w.alloc (.cells #[.string s] 9)) (ErrP 0 w)) := fun w => by
    have := check1_any s w
    rwa [ckE_ok hs hC hl] at this
  have HLL : L.length ≤ 4096 := by
    have := (ens_length_le L).1
    rw [← hl, ← size_list] at this
    omega
  have HR := Lib.hid (fun w1 (hb1 : Below w.heap.size w w1) => replaced_gen f g hg3 s L hC hl (by omega) w1 er (fun c hc w2 hb2 => hf c hc w2 (hb1.trans (hb2.mono hb1.size))))
  have HSZ : Hid (∀ w, Calls Tryd.prog 37 #[.string (bs (ens (L.flatMap g)))] w (TxS (frmL g L) (frmE g L) w)) := fun w => limited_any _ w (by
    have h1 := (ens_length_le (L.flatMap g)).2
    have h2 := flat_len g 10 hg3 L
    omega)
  have HP : Hid (∀ w', Below w.heap.size w w' → TxP (frmL g L) (frmE g L) w (.returned (.tuple #[.string (bs (frmL g L)), .int .i64 (frmE g L)])) w') := fun w' h => ⟨rfl, h⟩
  clear hC hl hf er hg3 HLL
  generalize frmL g L = R1 at *
  generalize frmE g L = R2 at *
  go_enter Tryd.func27, Tryd.ntmps27
  go_wp2_with fail
  refine (HK.out _).mono ?_
  rintro e w1 ⟨rfl, hb1⟩
  have HB1 := Lib.hid hb1
  clear hb1
  go_wp2_with fail
  refine (HR.out _ HB1.out).mono ?_
  rintro e w2 ⟨rfl, hb2⟩
  have HB2 : Hid (Below w.heap.size w w2) := HB1.out.trans (hb2.mono HB1.out.size)
  clear hb2
  go_wp2_with fail
  refine (HSZ.out _).mono ?_
  rintro e w' ⟨rfl, rfl⟩
  go_wp2
  go_ret2
  exact HP.out _ HB2.out

theorem changed_ok (f : Nat) (g : Nat → List Nat) (hg3 : ∀ c, (g c).length ≤ 3) (s : ByteArray) (L : List Nat) (hC : allC L) (hl : s.data.toList = ens L) (hs : s.size ≤ 4096) (w : World)
    (er : ∀ args w, (callFunc f args).run Tryd.prog w = .ok (.enter f args) w)
    (hf : ∀ c, c ∈ L → ∀ w, Calls Tryd.prog f #[.int .i32 c] w (StrP (ens (g c)) w)) :
    Calls Tryd.prog 27 #[.string s, .func (.func f) #[] #[]] w (TxP (frmL g L) (frmE g L) w) :=
  changed_gen f g (fun c => Nat.le_trans (hg3 c) (by decide)) s L hC hl hs w er (fun c h w' _ => hf c h w')

theorem Upper_bad (s : ByteArray) (hb : ckE s ≠ 0) (w : World) : Calls Tryd.prog 24 #[.string s] w (TxP [] (ckE s) w) := by
  have H := Lib.hid (fun w => changed_bad 53 s hb w)
  have HP : Hid (∀ w w', Below w.heap.size w w' → TxP [] (ckE s) w (.returned (.tuple #[.string ⟨#[]⟩, .int .i64 (ckE s)])) w') := fun w w' h => ⟨rfl, h⟩
  clear hb
  generalize ckE s = x at *
  go_enter Tryd.func24, Tryd.ntmps24
  go_wp2_with fail
  refine (H.out _).mono ?_
  rintro e w' ⟨rfl, hb⟩
  have HB := Lib.hid hb
  clear hb
  go_wp2
  go_ret2
  exact HP.out _ _ HB.out
theorem Upper_ok (s : ByteArray) (L : List Nat) (hC : allC L) (hl : s.data.toList = ens L) (hs : s.size ≤ 4096) (w : World) : Calls Tryd.prog 24 #[.string s] w (TxP (frmL cpC L) (frmE cpC L) w) := by
  have H := Lib.hid (fun w => changed_ok 53 cpC (fun c => (cpC_ne c).2) s L hC hl hs w e_capital (fun c hc w => capital_any c w (hC c hc)))
  have HP : Hid (∀ w w', Below w.heap.size w w' → TxP (frmL cpC L) (frmE cpC L) w (.returned (.tuple #[.string (bs (frmL cpC L)), .int .i64 (frmE cpC L)])) w') := fun w w' h => ⟨rfl, h⟩
  clear hC hl
  generalize frmL cpC L = R1 at *
  generalize frmE cpC L = R2 at *
  go_enter Tryd.func24, Tryd.ntmps24
  go_wp2_with fail
  refine (H.out _).mono ?_
  rintro e w' ⟨rfl, hb⟩
  have HB := Lib.hid hb
  clear hb
  go_wp2
  go_ret2
  exact HP.out _ _ HB.out
theorem Fold_bad (s : ByteArray) (hb : ckE s ≠ 0) (w : World) : Calls Tryd.prog 23 #[.string s] w (TxP [] (ckE s) w) := by
  have H := Lib.hid (fun w => changed_bad 52 s hb w)
  have HP : Hid (∀ w w', Below w.heap.size w w' → TxP [] (ckE s) w (.returned (.tuple #[.string ⟨#[]⟩, .int .i64 (ckE s)])) w') := fun w w' h => ⟨rfl, h⟩
  clear hb
  generalize ckE s = x at *
  go_enter Tryd.func23, Tryd.ntmps23
  go_wp2_with fail
  refine (H.out _).mono ?_
  rintro e w' ⟨rfl, hb⟩
  have HB := Lib.hid hb
  clear hb
  go_wp2
  go_ret2
  exact HP.out _ _ HB.out
theorem Fold_ok (s : ByteArray) (L : List Nat) (hC : allC L) (hl : s.data.toList = ens L) (hs : s.size ≤ 4096) (w : World) : Calls Tryd.prog 23 #[.string s] w (TxP (frmL fdC L) (frmE fdC L) w) := by
  have H := Lib.hid (fun w => changed_ok 52 fdC (fun c => (fdC_ne c).2) s L hC hl hs w e_fold (fun c hc w => (fold_any c w (hC c hc)).mono fun e w' h => h.p))
  have HP : Hid (∀ w w', Below w.heap.size w w' → TxP (frmL fdC L) (frmE fdC L) w (.returned (.tuple #[.string (bs (frmL fdC L)), .int .i64 (frmE fdC L)])) w') := fun w w' h => ⟨rfl, h⟩
  clear hC hl
  generalize frmL fdC L = R1 at *
  generalize frmE fdC L = R2 at *
  go_enter Tryd.func23, Tryd.ntmps23
  go_wp2_with fail
  refine (H.out _).mono ?_
  rintro e w' ⟨rfl, hb⟩
  have HB := Lib.hid hb
  clear hb
  go_wp2
  go_ret2
  exact HP.out _ _ HB.out

/-- Two texts handed back. -/
def Pair2 (x y : ByteArray) (w : World) (e : Ending) (w' : World) : Prop := e = .returned (.tuple #[.string x, .string y]) ∧ Below w.heap.size w w'

set_option maxHeartbeats 1000000 in
theorem cutFirst_any (L : List Nat) (hC : allC L) (hs : (ens L).length ≤ 1000000) (w : World) :
    Calls Tryd.prog 54 #[.string (bs (ens L))] w fun e w' => e = .returned (.tuple #[.string (bs (ens (L.take 1))), .string (bs (ens (L.drop 1)))]) ∧ Below w.heap.size w w' := by
  have hl : (bs (ens L)).data.toList = ens L := bs_list _
  have HP : Hid (∀ x y w', x = bs (ens (L.take 1)) → y = bs (ens (L.drop 1)) → Below w.heap.size w w' → Pair2 (bs (ens (L.take 1))) (bs (ens (L.drop 1))) w (.returned (.tuple #[.string x, .string y])) w') := fun x y w' h1 h2 h3 => by
    subst h1
    subst h2
    exact ⟨rfl, h3⟩
  have HNX : Hid (∀ bi k w, It bi (bs (ens L)) L k w → (hk : k < L.length) → ∀ ty, (Instr.next (.pointer (some ⟨bi, 0, none⟩)) true ty).run Tryd.prog w = .ok (.tuple #[.bool true, .int .i64 (ens (L.take k)).length, .int .i32 (L[k] : Nat)]) (w.iterAt bi (bs (ens L)) (ens (L.take (k + 1))).length)) := fun bi k w h hk ty => h.next hC hl hk ty
  have HND : Hid (∀ bi k w, It bi (bs (ens L)) L k w → L.length ≤ k → ∀ ty, (Instr.next (.pointer (some ⟨bi, 0, none⟩)) true ty).run Tryd.prog w = .ok (.tuple #[.bool false]) w) := fun bi k w h hk ty => h.done hl hk ty
  have HI0 : Hid (It w.heap.size (bs (ens L)) L 0 (w.iter (bs (ens L)) 0)) := It.start w _ L
  have HB0 : Hid (Below w.heap.size w (w.iter (bs (ens L)) 0)) := (Below.refl _ _).alloc (Nat.le_refl _) _
  have HPS : Hid (∀ k, k < L.length → (ens (L.take k)).length < (bs (ens L)).size ∧ (ens (L.take k)).length < (ens (L.take (k + 1))).length) := fun k h => by
    refine ⟨?_, ?_⟩
    · rw [bs_size]
      have := ens_take_lt L [] k h
      rwa [List.append_nil] at this
    · rw [ens_step L k h]
      have := en_length L[k]
      omega
  have HX1 : Hid ((bs (ens L)).extract 0 (ens (L.take 1)).length = bs (ens (L.take 1))) := by
    show _ = _
    rw [← bs_of ((bs (ens L)).extract 0 (ens (L.take 1)).length), Lib.extract_data, hl]
    congr 1
    have := ens_take L [] 1
    simpa using this
  have HX2 : Hid ((bs (ens L)).extract (ens (L.take 1)).length (bs (ens L)).size = bs (ens (L.drop 1))) := by
    show _ = _
    rw [← bs_of ((bs (ens L)).extract (ens (L.take 1)).length (bs (ens L)).size), extract_list, hl]
    congr 1
    have := ens_drop L [] 1
    simpa using this
  have HZ : Hid (L.length ≤ 1 → bs (ens L) = bs (ens (L.take 1)) ∧ (⟨#[]⟩ : ByteArray) = bs (ens (L.drop 1))) := fun h => by
    rw [List.take_of_length_le h, List.drop_eq_nil_of_le h]
    exact ⟨rfl, rfl⟩
  have H00 : Hid ((ens (L.take 0)).length = 0) := rfl
  have HSZ : (bs (ens L)).size ≤ 1000000 := by rw [bs_size]; exact hs
  have HW : Hid (Below w.heap.size w w) := Below.refl _ _
  clear hC hl hs
  change Calls _ _ _ _ (Pair2 (bs (ens (L.take 1))) (bs (ens (L.drop 1))) w)
  generalize bs (ens (L.take 1)) = R1 at *
  generalize bs (ens (L.drop 1)) = R2 at *
  generalize bs (ens L) = s at *
  go_enter Tryd.func54, Tryd.ntmps54
  go_wp2_with fail
  generalize w.iter s 0 = w1 at *
  go_loopw [4] (fun _ wr => ∃ k : Nat, k ≤ 1 ∧ k ≤ L.length ∧ Hid (Below w.heap.size w wr) ∧ Hid (It w.heap.size s L k wr)) (fun _ wr => s.size - wr.iterPos w.heap.size)
  case atStart => exact ⟨0, by omega, by omega, HB0, HI0⟩
  case round =>
    obtain ⟨k, hk1, hk, hbl, hit⟩ := hrel
    have HP0 := Lib.hid hit.out.pos
    by_cases hlt : k < L.length
    · have hnext := HNX.out _ k wr hit.out hlt
      have HME := Lib.hid (HPS.out k hlt)
      have HIT2 : Hid (It w.heap.size s L (k + 1) (wr.iterAt w.heap.size s (ens (L.take (k + 1))).length)) := hit.out.step
      have HB2 : Hid (Below w.heap.size w (wr.iterAt w.heap.size s (ens (L.take (k + 1))).length)) := Lib.below_iterAt hbl.out (Nat.le_refl _) _ _
      generalize wr.iterAt w.heap.size s (ens (L.take (k + 1))).length = wq at *
      by_cases h0 : k = 0
      · subst h0
        have HP4 := Lib.hid HIT2.out.pos
        rw [H00.out] at hnext
        generalize L[0] = c at *
        go_wp2
        go_roundw
        case rel => exact ⟨1, by omega, by omega, HB2, HIT2⟩
        case measure =>
          have h1 := HME.out
          have h2 := HP0.out
          have h3 := HP4.out
          omega
      · obtain rfl : k = 1 := by omega
        have hpos : 0 < (ens (L.take 1)).length := by
          exact Nat.lt_of_le_of_lt (Nat.zero_le _) (HPS.out 0 (by omega)).2
        have hposz : (ens (L.take 1)).length ≤ s.size := Nat.le_of_lt HME.out.1
        have hposI : (0 : Int) < ((ens (L.take 1)).length : Int) := by omega
        generalize L[1] = c at *
        generalize (ens (L.take 1)).length = a at *
        go_wp2
        go_quiet (fail)
        go_wp2
        go_ret2
        exact HP.out _ _ _ HX1.out HX2.out (bl_drewN HB2.out _)
    · have hnext := HND.out _ k wr hit.out (by omega)
      obtain ⟨hz1, hz2⟩ := HZ.out (by omega)
      have HZ1 := Lib.hid hz1
      have HZ2 := Lib.hid hz2
      clear hz1 hz2
      go_wp2
      go_ret2
      exact HP.out _ _ _ HZ1.out HZ2.out hbl.out

/-- The title form. -/
def ttM (L : List Nat) : List Nat := (L.take 1).flatMap cpC
def ttL (L : List Nat) : List Nat := (ttM L).take 1 ++ ((ttM L).drop 1 ++ L.drop 1).flatMap smF

theorem Title_bad (s : ByteArray) (hb : ckE s ≠ 0) (w : World) : Calls Tryd.prog 26 #[.string s] w (TxP [] (ckE s) w) := by
  have HK := Lib.hid (fun w => check1_any s w)
  have hn : (ckE s != 0) = true := by simpa using hb
  have HP : Hid (∀ w w', Below w.heap.size w w' → TxP [] (ckE s) w (.returned (.tuple #[.string ⟨#[]⟩, .int .i64 (ckE s)])) w') := fun w w' h => ⟨rfl, h⟩
  clear hb
  generalize ckE s = x at *
  go_enter Tryd.func26, Tryd.ntmps26
  go_wp2_with fail
  refine (HK.out _).mono ?_
  rintro e w' ⟨rfl, hb⟩
  have HB := Lib.hid hb
  clear hb
  go_wp2
  go_ret2
  exact HP.out _ _ HB.out

set_option maxHeartbeats 1000000 in
theorem Title_ok (L : List Nat) (hC : allC L) (hs : (ens L).length ≤ 4096) (w : World) : Calls Tryd.prog 26 #[.string (bs (ens L))] w (TxP (szL (ens (ttL L))) (szE (ens (ttL L))) w) := by
  have HK : Hid (∀ w, Calls Tryd.prog 34 #[.slice (some ⟨w.heap.size, 0, none⟩) 1 1] (w.alloc (.cells #[.string (bs (ens L))] 9)) (ErrP 0 w)) := fun w => by
    have := check1_any (bs (ens L)) w
    rwa [ckE_ok (by rw [bs_size]; exact hs) hC (bs_list _)] at this
  have hLL : L.length ≤ 4096 := by
    have := (ens_length_le L).1
    omega
  have hT : (L.take 1).length ≤ 1 := by rw [List.length_take]; omega
  have hMl : (ttM L).length ≤ 3 := by
    have := flat_len cpC 3 (fun c => (cpC_ne c).2) (L.take 1)
    unfold ttM
    omega
  have hMC : allC (ttM L) := flat_allC (fun c h => cpC_allC h) (allC_take hC 1)
  have hRC : allC ((ttM L).drop 1 ++ L.drop 1) := allC_append (allC_drop hMC 1) (allC_drop hC 1)
  have hRl : ((ttM L).drop 1 ++ L.drop 1).length ≤ 4100 := by
    rw [List.length_append, List.length_drop, List.length_drop]
    omega
  have HC1 := Lib.hid (fun w => cutFirst_any L hC (by omega) w)
  have HR1 : Hid (∀ w, Calls Tryd.prog 55 #[.string (bs (ens (L.take 1))), .func (.func 53) #[] #[]] w (StrP (ens (ttM L)) w)) := fun w =>
    replaced_any 53 cpC (fun c => (cpC_ne c).2) _ (L.take 1) (allC_take hC 1) (bs_list _) (by
      have := (ens_length_le (L.take 1)).2
      rw [bs_size]
      omega) w e_capital (fun c hc w => capital_any c w (allC_take hC 1 c hc))
  have HC2 := Lib.hid (fun w => cutFirst_any (ttM L) hMC (by have := (ens_length_le (ttM L)).2; omega) w)
  have HR2 : Hid (∀ w, Calls Tryd.prog 55 #[.string (bs (ens ((ttM L).drop 1)) ++ bs (ens (L.drop 1))), .func (.func 56) #[] #[]] w (StrP (ens (((ttM L).drop 1 ++ L.drop 1).flatMap smF)) w)) := fun w => by
    rw [bs_append, ← ens_append]
    exact replaced_any 56 smF (fun c => by simp [smF]) _ _ hRC (bs_list _) (by
      have := (ens_length_le ((ttM L).drop 1 ++ L.drop 1)).2
      rw [bs_size]
      omega) w e_small (fun c hc w => by
        have := small_any c w (hRC c hc)
        rw [show en (smC c) = ens (smF c) from (ens_one _).symm] at this
        exact this.mono fun e w' h => h.p)
  have hS1 : ((bs (ens ((ttM L).drop 1))).size : Int) ≤ 8388608 := by
    have h1 := (ens_length_le ((ttM L).drop 1)).2
    have h2 : ((ttM L).drop 1).length ≤ 3 := by rw [List.length_drop]; omega
    rw [bs_size]
    omega
  have hS2 : ((bs (ens (L.drop 1))).size : Int) ≤ 8388608 := by
    have h1 := (ens_length_le (L.drop 1)).2
    have h2 : (L.drop 1).length ≤ 4096 := by rw [List.length_drop]; omega
    rw [bs_size]
    omega
  have hS3 : ((bs (ens ((ttM L).take 1))).size : Int) ≤ 8388608 := by
    have h1 := (ens_length_le ((ttM L).take 1)).2
    have h2 : ((ttM L).take 1).length ≤ 1 := by rw [List.length_take]; omega
    rw [bs_size]
    omega
  have hfl : (((ttM L).drop 1 ++ L.drop 1).flatMap smF).length ≤ 13000 := by
    have := flat_len smF 1 (fun c => by simp [smF]) ((ttM L).drop 1 ++ L.drop 1)
    omega
  have hS4 : ((bs (ens (((ttM L).drop 1 ++ L.drop 1).flatMap smF))).size : Int) ≤ 8388608 := by
    have h1 := (ens_length_le (((ttM L).drop 1 ++ L.drop 1).flatMap smF)).2
    rw [bs_size]
    omega
  have HSZ : Hid (∀ w, Calls Tryd.prog 37 #[.string (bs (ens ((ttM L).take 1)) ++ bs (ens (((ttM L).drop 1 ++ L.drop 1).flatMap smF)))] w (TxS (szL (ens (ttL L))) (szE (ens (ttL L))) w)) := fun w => by
    rw [bs_append, ← ens_append]
    refine limited_any _ w ?_
    have h1 := (ens_length_le ((ttM L).take 1 ++ ((ttM L).drop 1 ++ L.drop 1).flatMap smF)).2
    rw [List.length_append, List.length_take] at h1
    omega
  have HP : Hid (∀ w', Below w.heap.size w w' → TxP (szL (ens (ttL L))) (szE (ens (ttL L))) w (.returned (.tuple #[.string (bs (szL (ens (ttL L)))), .int .i64 (szE (ens (ttL L)))])) w') := fun w' h => ⟨rfl, h⟩
  clear hC hs hLL hT hMl hMC hRC hRl hfl
  generalize szL (ens (ttL L)) = R1 at *
  generalize szE (ens (ttL L)) = R2 at *
  generalize bs (ens ((ttM L).take 1)) = T1 at *
  generalize bs (ens ((ttM L).drop 1)) = T2 at *
  generalize bs (ens (L.drop 1)) = T3 at *
  generalize bs (ens (L.take 1)) = T4 at *
  generalize ens (((ttM L).drop 1 ++ L.drop 1).flatMap smF) = T5 at *
  generalize ens (ttM L) = T6 at *
  generalize bs (ens L) = s at *
  go_enter Tryd.func26, Tryd.ntmps26
  go_wp2_with fail
  refine (HK.out _).mono ?_
  rintro e w1 ⟨rfl, hb1⟩
  have HB1 := Lib.hid hb1
  clear hb1
  go_wp2_with fail
  refine (HC1.out _).mono ?_
  rintro e w2 ⟨rfl, hb2⟩
  have HB2 : Hid (Below w.heap.size w w2) := HB1.out.trans (hb2.mono HB1.out.size)
  clear hb2
  go_wp2_with fail
  refine (HR1.out _).mono ?_
  rintro e w3 ⟨rfl, hb3⟩
  have HB3 : Hid (Below w.heap.size w w3) := HB2.out.trans (hb3.mono HB2.out.size)
  clear hb3
  go_wp2_with fail
  refine (HC2.out _).mono ?_
  rintro e w4 ⟨rfl, hb4⟩
  have HB4 : Hid (Below w.heap.size w w4) := HB3.out.trans (hb4.mono HB3.out.size)
  clear hb4
  go_wp2_with fail
  refine (HR2.out _).mono ?_
  rintro e w5 ⟨rfl, hb5⟩
  have HB5 : Hid (Below w.heap.size w w5) := HB4.out.trans (hb5.mono HB4.out.size)
  clear hb5
  go_wp2_with fail
  refine (HSZ.out _).mono ?_
  rintro e w' ⟨rfl, rfl⟩
  go_wp2
  go_ret2
  exact HP.out _ HB5.out

end Go.Proofs.YtegckpkancbnmaaDoor
