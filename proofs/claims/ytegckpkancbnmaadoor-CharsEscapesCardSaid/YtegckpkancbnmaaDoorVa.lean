/-
  How much of a text is valid: chars.Valid and the document's; what is wrong with a text: chars.check and the document's Checked. Conditions: a text of at most 2^47 bytes.
-/
import Derived.Test.YtegckpkancbnmaaDoorFi
import Derived.Lib.OthersKept
namespace Go.Proofs.YtegckpkancbnmaaDoor
open Go.RowKit

/-- A text parts into characters and a rest that begins with none. -/
def Parts (l : List UInt8) (L : List Nat) (r : List UInt8) : Prop := allC L ∧ l = ens L ++ r ∧ (r = [] ∨ Bad r)
theorem parts_of (l : List UInt8) : ∃ L r, Parts l L r := parts l.length l (Nat.le_refl _)

def ValP (n : Nat) (b : Bool) (w : World) (e : Ending) (w' : World) : Prop := e = .returned (.tuple #[.int .i64 n, .bool b]) ∧ Below w.heap.size w w'

theorem extract_list (s : ByteArray) (a : Nat) : (s.extract a s.size).data.toList = s.data.toList.drop a := by
  rw [Lib.extract_data]
  rw [List.take_of_length_le]
  rw [List.length_drop, ← size_list]
  omega
theorem extract_le (s : ByteArray) (a : Nat) : (s.extract a s.size).size ≤ s.size := by
  rw [size_list, extract_list, List.length_drop, ← size_list]
  omega
/-- Two results; the world as it was. -/
def ValS (n : Nat) (b : Bool) (w : World) (e : Ending) (w' : World) : Prop := e = .returned (.tuple #[.int .i64 n, .bool b]) ∧ w = w'
theorem fst_at {l : List UInt8} {L : List Nat} {r : List UInt8} (hP : Parts l L r) (k : Nat) (hk : k < L.length) : fstR (l.drop (ens (L.take k)).length) = (L[k], (en L[k]).length) := by
  obtain ⟨hC, rfl, _⟩ := hP
  rw [ens_drop, List.drop_eq_getElem_cons hk, ens, List.append_assoc]
  exact fst_en (hC _ (List.getElem_mem hk)) _
theorem fst_end {l : List UInt8} {L : List Nat} {r : List UInt8} (hP : Parts l L r) : fstR (l.drop (ens L).length) = (0, 0) := by
  obtain ⟨hC, rfl, hr⟩ := hP
  have := ens_drop L r L.length
  rw [List.take_length, List.drop_length] at this
  rw [this]
  simp only [ens, List.nil_append]
  rcases hr with rfl | hr
  · exact fst_nil
  · exact fst_bad hr
theorem dec_at {s : ByteArray} {L : List Nat} {r : List UInt8} (hP : Parts s.data.toList L r) (k : Nat) (hk : k < L.length) : Utf8.decode s (ens (L.take k)).length = (L[k], (en L[k]).length) := by
  obtain ⟨hC, hl, _⟩ := hP
  rw [← Lib.decodeL_drop, hl, ens_drop, List.drop_eq_getElem_cons hk, ens, List.append_assoc]
  exact decode_en (hC _ (List.getElem_mem hk)) _

theorem parts_size {s : ByteArray} {L : List Nat} {r : List UInt8} (hP : Parts s.data.toList L r) : s.size = (ens L).length + r.length := by
  rw [size_list, hP.2.1, List.length_append]
theorem take_size {s : ByteArray} {L : List Nat} {r : List UInt8} (hP : Parts s.data.toList L r) (k : Nat) (hk : k < L.length) : (ens (L.take k)).length < s.size := by
  rw [size_list, hP.2.1]
  exact ens_take_lt L r k hk

set_option maxRecDepth 100000 in
set_option maxHeartbeats 1000000 in
theorem rValid_any (s : ByteArray) (L : List Nat) (r : List UInt8) (hP : Parts s.data.toList L r) (w : World) (hs : s.size ≤ 140737488355328) :
    Calls Tryd.prog 58 #[.string s] w (ValS (ens L).length r.isEmpty w) := by
  have HSZ := Lib.hid (parts_size hP)
  have HP : Hid (∀ a b w, a = (ens L).length → b = r.isEmpty → ValS (ens L).length r.isEmpty w (.returned (.tuple #[.int .i64 (a : Nat), .bool b])) w) := fun a b w h1 h2 => by
    subst h1
    subst h2
    exact ⟨rfl, rfl⟩
  have HA : Hid (∀ k, (hk : k < L.length) → fstR (s.data.toList.drop (ens (L.take k)).length) = (L[k], (en L[k]).length)) := fun k hk => fst_at hP k hk
  have HE : Hid (fstR (s.data.toList.drop (ens L).length) = (0, 0)) := fst_end hP
  have HT : Hid (∀ k, k < L.length → (ens (L.take k)).length < s.size) := fun k hk => take_size hP k hk
  have HS : Hid (∀ k, (hk : k < L.length) → (ens (L.take (k + 1))).length = (ens (L.take k)).length + (en L[k]).length) := fun k hk => ens_step L k hk
  have HAll : Hid (∀ k, L.length ≤ k → ens (L.take k) = ens L) := fun k hk => ens_take_all L k hk
  have HW : Hid (∀ k, (hk : k < L.length) → 1 ≤ (en L[k]).length ∧ (en L[k]).length ≤ 4) := fun k hk => en_length _
  clear hP
  go_enter Tryd.func58, Tryd.ntmps58
  go_wp2
  go_loop [4] (fun a => ∃ k : Nat, k ≤ L.length ∧ a = .int .i64 (ens (L.take k)).length) (fun a => s.size + 1 - (intOf a).toNat)
  case atStart => exact ⟨0, Nat.zero_le _, rfl⟩
  case round =>
    obtain ⟨k, hk, rfl⟩ := hrel
    by_cases hlt : k < L.length
    · have hat := HT.out k hlt
      have hf := HA.out k hlt
      have hstep := HS.out k hlt
      have hw1 := HW.out k hlt
      rw [← extract_list] at hf
      generalize (en L[k]).length = W at *
      generalize hA : (ens (L.take k)).length = a at *
      have HA2 := Lib.hid hA
      have HSt := Lib.hid hstep
      have hfa := fun w => first_any (s.extract a s.size) w (Nat.le_trans (extract_le s a) hs)
      rw [hf] at hfa
      have HFA := Lib.hid hfa
      clear hA hstep hf hfa
      have hW0 : ((W : Int) == 0) = false := by rw [beq_eq_false_iff_ne]; omega
      go_wp2_with fail
      refine (HFA.out _).mono ?_
      rintro e w' ⟨rfl, rfl⟩
      go_wp2
      go_round
      case rel => exact ⟨k + 1, by omega, by rw [HSt.out]; go_num⟩
      case measure => simp [intOf]; omega
    · have hkl : L.length ≤ k := by omega
      rw [HAll.out k hkl]
      have hf := HE.out
      rw [← extract_list] at hf
      have hfa := fun w => first_any (s.extract (ens L).length s.size) w (Nat.le_trans (extract_le s _) hs)
      rw [hf] at hfa
      have HFA := Lib.hid hfa
      clear hf hfa
      generalize hA : (ens L).length = a at *
      have HA2 := Lib.hid hA
      have hsz := HSZ.out
      cases r with
      | nil =>
        have ha2 : ¬ (a < s.size) := by simp at hsz; omega
        clear hsz hA
        go_wp2
        go_ret2
        exact HP.out _ _ _ rfl rfl
      | cons c q =>
        have ha : a < s.size := by simp at hsz; omega
        clear hsz hA
        go_wp2_with fail
        refine (HFA.out _).mono ?_
        rintro e w' ⟨rfl, rfl⟩
        go_wp2
        go_ret2
        exact HP.out _ _ _ rfl rfl

theorem rest_prefix {s : ByteArray} {L : List Nat} {r : List UInt8} (hP : Parts s.data.toList L r) : Lib.hasPrefix (s.extract (ens L).length s.size).data.toList [239, 191, 189] = false := by
  obtain ⟨hC, hl, hr⟩ := hP
  have h := ens_drop L r L.length
  rw [List.take_length, List.drop_length] at h
  rw [extract_list, hl, h, Bool.eq_false_iff]
  intro hh
  have hp : [239, 191, 189] <+: (ens [] ++ r) := List.isPrefixOf_iff_prefix.1 hh
  obtain ⟨q, hq⟩ := hp
  have e3 : en 65533 = [239, 191, 189] := by rw [en3 (by decide) (by decide) (by decide)]; rfl
  simp only [ens, List.nil_append] at hq
  rw [← e3] at hq
  rcases hr with rfl | hr
  · have h2 := congrArg List.length hq
    rw [List.length_append] at h2
    have := en_length 65533
    rw [List.length_nil] at h2
    omega
  · exact hr.not_en (c := 65533) (by decide) q hq.symm
theorem at_prefix {s : ByteArray} {L : List Nat} {r : List UInt8} (hP : Parts s.data.toList L r) (k : Nat) (hk : k < L.length) (h3 : L[k] = 65533) : Lib.hasPrefix (s.extract (ens (L.take k)).length s.size).data.toList [239, 191, 189] = true := by
  obtain ⟨hC, hl, hr⟩ := hP
  have e3 : en 65533 = [239, 191, 189] := by rw [en3 (by decide) (by decide) (by decide)]; rfl
  rw [extract_list, hl, ens_drop, List.drop_eq_getElem_cons hk, ens, h3, e3]
  exact List.isPrefixOf_iff_prefix.2 ⟨ens (L.drop (k + 1)) ++ r, by simp⟩

set_option maxRecDepth 100000 in
set_option maxHeartbeats 2000000 in
theorem Valid_any (s : ByteArray) (L : List Nat) (r : List UInt8) (hP : Parts s.data.toList L r) (w : World) (_hs : s.size ≤ 140737488355328) :
    Calls Tryd.prog 60 #[.string s] w (ValP (ens L).length r.isEmpty w) := by
  have HSZ := Lib.hid (parts_size hP)
  have HP : Hid (∀ a b w', a = (ens L).length → b = r.isEmpty → Below w.heap.size w w' → ValP (ens L).length r.isEmpty w (.returned (.tuple #[.int .i64 (a : Nat), .bool b])) w') := fun a b w' h1 h2 h3 => by
    subst h1
    subst h2
    exact ⟨rfl, h3⟩
  have HB : Hid (∀ pos, Below w.heap.size w (w.iter s pos)) := fun pos => (Below.refl _ _).alloc (Nat.le_refl _) _
  have HD : Hid (∀ k, (hk : k < L.length) → Utf8.decode s (ens (L.take k)).length = (L[k], (en L[k]).length)) := fun k hk => dec_at hP k hk
  have HDE : Hid (r ≠ [] → Utf8.decode s (ens L).length = (65533, 1)) := fun h => by
    rw [← Lib.decodeL_drop, hP.2.1]
    have h2 := ens_drop L r L.length
    rw [List.take_length, List.drop_length] at h2
    rw [h2]
    rcases hP.2.2 with hr | hr
    · exact absurd hr h
    · exact hr.2
  have HPre := Lib.hid (fun k hk h3 => at_prefix hP k hk h3)
  have HPreE := Lib.hid (rest_prefix hP)
  have HT : Hid (∀ k, k < L.length → (ens (L.take k)).length < s.size) := fun k hk => take_size hP k hk
  have HS : Hid (∀ k, (hk : k < L.length) → (ens (L.take (k + 1))).length = (ens (L.take k)).length + (en L[k]).length) := fun k hk => ens_step L k hk
  have HAll : Hid (∀ k, L.length ≤ k → ens (L.take k) = ens L) := fun k hk => ens_take_all L k hk
  have HW : Hid (∀ k, (hk : k < L.length) → 1 ≤ (en L[k]).length ∧ (en L[k]).length ≤ 4) := fun k hk => en_length _
  clear hP
  go_enter Tryd.func60, Tryd.ntmps60
  go_wp2
  go_loopw [4] (fun _ wr => ∃ k : Nat, k ≤ L.length ∧ wr = w.iter s (ens (L.take k)).length) (fun _ wr => s.size - wr.iterPos w.heap.size)
  case atStart => exact ⟨0, Nat.zero_le _, rfl⟩
  case round =>
    obtain ⟨k, hk, rfl⟩ := hrel
    by_cases hlt : k < L.length
    · have hat := HT.out k hlt
      have HDk := Lib.hid (HD.out k hlt)
      have HSt := Lib.hid (HS.out k hlt)
      have hw1 := HW.out k hlt
      have HPr := Lib.hid (HPre.out k hlt)
      generalize L[k] = c at *
      generalize (en c).length = W at *
      generalize hA : (ens (L.take k)).length = a at *
      have HA2 := Lib.hid hA
      clear hA
      have hnx : ∀ ty, (Instr.next (.pointer (some ⟨w.heap.size, 0, none⟩)) true ty).run Tryd.prog (w.iter s a) = .ok (.tuple #[.bool true, .int .i64 a, .int .i32 (c : Int)]) (w.iter s (a + W)) := fun ty => by
        rw [run_next_any w s a ty hat, HDk.out]
      by_cases hc : c = 65533
      · subst hc
        have HH := Lib.hid (HPr.out rfl)
        clear HPr
        go_wp2_with fail
        refine (Tryd.strings_HasPrefix _ _ _).mono ?_
        rintro e w' ⟨rfl, rfl⟩
        rw [show Lib.hasPrefix (s.extract a s.size).data.toList (ByteArray.data ⟨#[239, 191, 189]⟩).toList = true from HH.out]
        go_wp2
        go_roundw
        case rel => exact ⟨k + 1, by omega, by rw [HSt.out]⟩
        case measure => simp; omega
      · have hcn : ((c : Int) == 65533) = false := by rw [beq_eq_false_iff_ne]; omega
        clear hc HPr
        go_wp2
        go_roundw
        case rel => exact ⟨k + 1, by omega, by rw [HSt.out]⟩
        case measure => simp; omega
    · have hkl : L.length ≤ k := by omega
      rw [HAll.out k hkl]
      generalize hA : (ens L).length = a at *
      have hsz := HSZ.out
      have HA2 := Lib.hid hA
      clear hA
      cases r with
      | nil =>
        have hz : s.size = a := by simpa using hsz
        have HZ := Lib.hid hz
        have ha2 : ¬ (a < s.size) := by omega
        have hnx : ∀ ty, (Instr.next (.pointer (some ⟨w.heap.size, 0, none⟩)) true ty).run Tryd.prog (w.iter s a) = .ok (.tuple #[.bool false]) (w.iter s a) := fun ty => run_next_end w s a ty ha2
        clear hsz hz
        go_wp2
        go_ret2
        exact HP.out _ _ _ HZ.out rfl (HB.out _)
      | cons c q =>
        have ha : a < s.size := by simp at hsz; omega
        have HD1 := Lib.hid (HDE.out (by simp))
        have hnx : ∀ ty, (Instr.next (.pointer (some ⟨w.heap.size, 0, none⟩)) true ty).run Tryd.prog (w.iter s a) = .ok (.tuple #[.bool true, .int .i64 a, .int .i32 65533]) (w.iter s (a + 1)) := fun ty => by
          rw [run_next_any w s a ty ha, HD1.out]
          rfl
        clear hsz
        go_wp2_with fail
        refine (Tryd.strings_HasPrefix _ _ _).mono ?_
        rintro e w' ⟨rfl, rfl⟩
        rw [show Lib.hasPrefix (s.extract a s.size).data.toList (ByteArray.data ⟨#[239, 191, 189]⟩).toList = false from HPreE.out]
        go_wp2
        go_ret2
        exact HP.out _ _ _ rfl rfl (HB.out _)

/-- Whether bytes are a text. -/
noncomputable def vld (l : List UInt8) : Bool := @decide (∃ L, allC L ∧ l = ens L) (Classical.propDecidable _)
theorem vld_parts {l : List UInt8} {L : List Nat} {r : List UInt8} (hP : Parts l L r) : vld l = r.isEmpty := by
  obtain ⟨hC, rfl, hr⟩ := hP
  unfold vld
  rw [Bool.eq_iff_iff, @decide_eq_true_iff _ (Classical.propDecidable _), List.isEmpty_iff]
  constructor
  · rintro ⟨M, hM, h⟩
    exact (ens_inj hC hM hr (.inl rfl) (by rw [h, List.append_nil])).2
  · rintro rfl
    exact ⟨L, hC, by simp⟩
/-- What is wrong with a text. -/
noncomputable def ckE (s : ByteArray) : Int := if 4096 < s.size then 3 else if vld s.data.toList = true then 0 else 2
/-- What is wrong with the first of some that is. -/
noncomputable def ckEs : List ByteArray → Int
  | [] => 0
  | s :: l => if ckE s = 0 then ckEs l else ckE s
def ErrP (v : Int) (w : World) (e : Ending) (w' : World) : Prop := e = .returned (.int .i64 v) ∧ Below w.heap.size w w'
def ErrS (v : Int) (w : World) (e : Ending) (w' : World) : Prop := e = .returned (.int .i64 v) ∧ w = w'

theorem Checked_any (s : ByteArray) (w : World) : Calls Tryd.prog 29 #[.string s] w (ErrS (ckE s) w) := by
  by_cases hz : 4096 < s.size
  · have HE : Hid (∀ w, ErrS (ckE s) w (.returned (.int .i64 3)) w) := fun w => by
      refine ⟨?_, rfl⟩
      unfold ckE
      rw [if_pos hz]
    go_enter Tryd.func29, Tryd.ntmps29
    go_wp2
    go_ret
    exact HE.out _
  · obtain ⟨L, r, hP⟩ := parts_of s.data.toList
    have hv := vld_parts hP
    have HV := Lib.hid (fun w => rValid_any s L r hP w (by omega))
    have HE : Hid (∀ w v, v = (if r.isEmpty then 0 else 2 : Int) → ErrS (ckE s) w (.returned (.int .i64 v)) w) := fun w v h => by
      subst h
      refine ⟨?_, rfl⟩
      unfold ckE
      rw [if_neg hz, hv]
    clear hv hP
    generalize r.isEmpty = b at *
    generalize (ens L).length = n at *
    cases b
    all_goals
      go_enter Tryd.func29, Tryd.ntmps29
      go_wp2_with fail
      refine (HV.out _).mono ?_
      rintro e w' ⟨rfl, rfl⟩
      go_wp2
      go_ret
      exact HE.out _ _ rfl

set_option maxHeartbeats 1000000 in
theorem check_any (ss : List ByteArray) (b : Nat) (w : World) (hb : b < w.heap.size) (hc : ∀ k s, ss[k]? = some s → w.cell? ⟨b, k, none⟩ = some (.string s)) (hl : ss.length ≤ 10) :
    Calls Tryd.prog 34 #[.slice (some ⟨b, 0, none⟩) ss.length ss.length] w (ErrP (ckEs ss) w) := by
  have HC : Hid (∀ k (h : k < ss.length) w', Below w.heap.size w w' → w'.cell? ⟨b, k, none⟩ = some (.string ss[k])) := fun k h w' hbl => by
    rw [hbl.cell (p := ⟨b, k, none⟩) hb]
    exact hc k _ (List.getElem?_eq_getElem h)
  have HE : Hid (∀ v w', v = ckEs ss → Below w.heap.size w w' → ErrP (ckEs ss) w (.returned (.int .i64 v)) w') := fun v w' h hbl => by
    subst h
    exact ⟨rfl, hbl⟩
  have HSt : Hid (∀ k (h : k < ss.length), ckEs (ss.drop k) = if ckE ss[k] = 0 then ckEs (ss.drop (k + 1)) else ckE ss[k]) := fun k h => by
    rw [List.drop_eq_getElem_cons h]
    rfl
  have HEnd : Hid (∀ k, ss.length ≤ k → ckEs (ss.drop k) = 0) := fun k h => by
    rw [List.drop_eq_nil_of_le h]
    rfl
  have H0 : Hid (ckEs (ss.drop 0) = ckEs ss) := rfl
  have HBR := Lib.hid (Below.refl w.heap.size w)
  clear hc
  generalize ckEs ss = R at *
  go_enter Tryd.func34, Tryd.ntmps34
  go_wp2
  go_loopw [9] (fun i wr => ∃ k : Nat, k ≤ ss.length ∧ i = .int .i64 k ∧ Hid (Below w.heap.size w wr) ∧ Hid (ckEs (ss.drop k) = R)) (fun i _ => ss.length - (intOf i).toNat)
  case atStart => exact ⟨0, Nat.zero_le _, rfl, HBR, H0⟩
  case round =>
    obtain ⟨k, hk, rfl, hbl, hr⟩ := hrel
    by_cases hlt : k < ss.length
    · have hcell := HC.out k hlt _ hbl.out
      have HSk := Lib.hid (HSt.out k hlt)
      generalize ss[k] = s at *
      by_cases hz : 4096 < s.size
      · have HF : Hid (3 = R) := by
          show _ = _
          rw [← hr.out, HSk.out]
          have : ckE s = 3 := by unfold ckE; rw [if_pos hz]
          rw [this, if_neg (by decide)]
        go_wp2
        go_ret
        exact HE.out _ _ HF.out hbl.out
      · obtain ⟨L, r, hP⟩ := parts_of s.data.toList
        have hv := vld_parts hP
        have HV := Lib.hid (fun w => Valid_any s L r hP w (by omega))
        have hce : ckE s = if r.isEmpty then 0 else 2 := by
          unfold ckE
          rw [if_neg hz, hv]
        have HCE := Lib.hid hce
        clear hv hP hce
        generalize r.isEmpty = d at *
        generalize (ens L).length = n at *
        cases d
        · have HF : Hid (2 = R) := by
            show _ = _
            rw [← hr.out, HSk.out, HCE.out]
            rfl
          clear HSk HCE
          go_wp2_with fail
          refine (HV.out _).mono ?_
          rintro e w2 ⟨rfl, hb2⟩
          have HB2 : Hid (Below w.heap.size w w2) := hbl.out.trans (hb2.mono hbl.out.size)
          clear hb2
          go_wp2
          go_ret
          exact HE.out _ _ HF.out HB2.out
        · have HF : Hid (ckEs (ss.drop (k + 1)) = R) := by
            show _ = _
            rw [← hr.out, HSk.out, HCE.out]
            rfl
          clear HSk HCE
          go_wp2_with fail
          refine (HV.out _).mono ?_
          rintro e w2 ⟨rfl, hb2⟩
          have HB2 : Hid (Below w.heap.size w w2) := hbl.out.trans (hb2.mono hbl.out.size)
          clear hb2
          go_wp2
          go_roundw
          case rel => exact ⟨k + 1, by omega, by go_num, HB2, HF⟩
          case measure => simp [intOf]; omega
    · have HF : Hid (0 = R) := by
        show _ = _
        rw [← hr.out, HEnd.out k (by omega)]
      go_wp2
      go_ret
      exact HE.out _ _ HF.out hbl.out

end Go.Proofs.YtegckpkancbnmaaDoor
