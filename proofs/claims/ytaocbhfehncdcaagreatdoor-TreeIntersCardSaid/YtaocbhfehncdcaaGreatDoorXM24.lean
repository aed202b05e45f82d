/-
  The bytes of texts that begin no variable, as package tree reads them. Conditions: the variable strconv.ErrSyntax holds an error; texts of at most 100000 bytes. Numbers, as package tree reads them. Conditions: texts of at most 100000 bytes. The place in brackets with which a text begins, as package tree reads it. Conditions: texts of at most 100000 bytes.
-/
import Derived.Test.YtaocbhfehncdcaaGreatDoorXM23
import Derived.Test.YtaocbhfehncdcaaGreatDoorXM21
import Derived.Test.YtaocbhfehncdcaaGreatDoorXM22
namespace Go.Proofs.YtaocbhfehncdcaaGreatDoor
open Go.RowKit

/-- The bytes that the model gives to a character. -/
theorem encode_en {c : Nat} (hc : isC c = true) : Utf8.encode (c : Int) = ⟨(en c).toArray⟩ := by
  have hi := isC_iff.1 hc
  have hv : Utf8.valid (c : Int) = true := by
    simp [Utf8.valid]; omega
  unfold Utf8.encode
  simp only [hv, if_true, Int.toNat_natCast]
  by_cases h1 : c < 128
  · rw [if_pos (by omega), en1 h1]
  by_cases h2 : c < 2048
  · rw [if_neg (by omega), if_pos (by omega), en2 (by omega) h2]
  by_cases h3 : c < 65536
  · rw [if_neg (by omega), if_neg (by omega), if_pos (by omega), en3 (by omega) h3 hc]
  · rw [if_neg (by omega), if_neg (by omega), if_neg (by omega), en4 (by omega) hc]
def PcP (l : List UInt8) (w : World) (e : Ending) (w' : World) : Prop := e = .returned (.tuple #[.string (bs (pcN l).1), .int .i64 (pcN l).2]) ∧ Below w.heap.size w w'
theorem PcP.of {l x : List UInt8} {n : Nat} (h : pcN l = (x, n)) {s : ByteArray} (hs : s = bs x) {m : Int} (hm : m = (n : Int)) {w w' : World} (hb : Below w.heap.size w w') : PcP l w (.returned (.tuple #[.string s, .int .i64 m])) w' := by
  subst hs hm
  exact ⟨by rw [h], hb⟩
theorem pcN_esc (c : UInt8) (r : List UInt8) : pcN (92 :: c :: r) = (if c = 110 then ([10], 2) else if c = 116 then ([9], 2) else match nbN (c :: r) with | some x => (en x.1, 1 + x.2) | none => ([c], 2)) := rfl
theorem pcN_oth {b : UInt8} (h : b ≠ 92) (c : UInt8) (r : List UInt8) : pcN (b :: c :: r) = ([b], 1) := if_neg h
theorem nbN_br (u : List UInt8) : nbN (120 :: 123 :: u) = (match brc u with | some x => some (x.1, (hxt 6 u).length + 3) | none => none) := rfl
theorem nbN_oth {c : UInt8} (h : c ≠ 120) (r : List UInt8) : nbN (c :: r) = none := by
  match r with
  | [] => rfl
  | d :: u => exact if_neg fun h2 => h h2.1
theorem nbN_nob {r : List UInt8} (h : ([123] : List UInt8).isPrefixOf r = false) (c : UInt8) : nbN (c :: r) = none := by
  match r, h with
  | [], _ => rfl
  | d :: u, h =>
    refine if_neg fun h2 => ?_
    rw [h2.2] at h
    simp [List.isPrefixOf] at h
theorem byte_ne {b : UInt8} {n : Nat} (h : b.toNat ≠ n) : ((b.toNat : Int) == (n : Int)) = false := by
  rw [beq_eq_false_iff_ne]
  omega
theorem bs_ext (l : List UInt8) (a b : Nat) : (bs l).extract a b = bs ((l.drop a).take (b - a)) := by
  rw [← bs_of ((bs l).extract a b), Lib.extract_data, bs_list]
set_option maxRecDepth 100000 in
set_option maxHeartbeats 4000000 in
theorem pieceAt_any (l : List UInt8) (hz : l.length ≤ 100000) (hne : l ≠ []) (w : World) (hE : ErrAt w) : Calls Tryz.prog 40 #[.string (bs l)] w (PcP l w) := by
  have HB0 := Lib.hid (Below.refl w.heap.size w)
  match l, hne with
  | [b], _ =>
    have hsz : (bs [b]).size = 1 := bs_size [b]
    have hpos : 0 < (bs [b]).size := by omega
    have hx1 : (1 : Int) ≤ ((bs [b]).size : Int) := by omega
    have hx2 : ((bs [b]).size : Int) ≤ 1 := by omega
    have hx3 : (((bs [b]).size : Int) == 1) = true := by rw [hsz]; rfl
    have HF : Hid (∀ w', Below w.heap.size w w' → PcP [b] w (.returned (.tuple #[.string ((bs [b]).extract 0 1), .int .i64 1])) w') := fun w' h => PcP.of (x := [b]) (n := 1) rfl (bs_ext [b] 0 1) rfl h
    have hc : (((bs [b])[0].toNat : Int) != 92) = true ∨ (((bs [b])[0].toNat : Int) != 92) = false := by
      cases (((bs [b])[0].toNat : Int) != 92) <;> simp
    clear hz hE
    generalize bs [b] = s at *
    rcases hc with hc | hc
    all_goals (
      go_enter Tryz.func40, Tryz.ntmps40
      go_wp2
      go_ret2
      exact HF.out _ HB0.out)
  | b :: c :: r, _ =>
    have hlen : (b :: c :: r).length = r.length + 2 := rfl
    have hsz : (bs (b :: c :: r)).size = r.length + 2 := bs_size _
    have hpos : 0 < (bs (b :: c :: r)).size := by omega
    have hpos1 : 1 < (bs (b :: c :: r)).size := by omega
    have hx1 : (1 : Int) ≤ ((bs (b :: c :: r)).size : Int) := by omega
    have hx2 : (2 : Int) ≤ ((bs (b :: c :: r)).size : Int) := by omega
    have hx3 : (((bs (b :: c :: r)).size : Int) == 1) = false := by rw [beq_eq_false_iff_ne]; omega
    have hx4 : 2 ≤ (bs (b :: c :: r)).size := by omega
    have hgb : (bs (b :: c :: r))[0] = b := by
      have := getElem_list2 (bs (b :: c :: r)) 0 hpos
      rw [bs_list] at this
      exact (Option.some.inj this).symm
    have hgc : (bs (b :: c :: r))[1] = c := by
      have := getElem_list2 (bs (b :: c :: r)) 1 hpos1
      rw [bs_list] at this
      exact (Option.some.inj this).symm
    by_cases h92 : b = 92
    · have f1 : (((bs (b :: c :: r))[0].toNat : Int) != 92) = false := by rw [hgb, h92]; rfl
      have g1 : (((bs (b :: c :: r))[0].toNat : Int) == 92) = true := by rw [hgb, h92]; rfl
      have HC : Hid ((bs (b :: c :: r)).extract 1 2 = bs [c]) := bs_ext (b :: c :: r) 1 2
      by_cases h110 : c = 110
      · have f2 : (((bs (b :: c :: r))[1].toNat : Int) == 110) = true := by rw [hgc, h110]; rfl
        have HF : Hid (∀ w', Below w.heap.size w w' → PcP (b :: c :: r) w (.returned (.tuple #[.string ⟨#[10]⟩, .int .i64 2])) w') := fun w' h => PcP.of (x := [10]) (n := 2) (by rw [h92, h110]; rfl) rfl rfl h
        clear hz hE hlen hsz hgb hgc h92 h110
        generalize bs (b :: c :: r) = s at *
        go_enter Tryz.func40, Tryz.ntmps40
        go_wp2
        go_ret2
        exact HF.out _ HB0.out
      have f2 : (((bs (b :: c :: r))[1].toNat : Int) == 110) = false := by rw [hgc]; exact byte_ne fun h => h110 (UInt8.toNat_inj.1 h)
      by_cases h116 : c = 116
      · have f3 : (((bs (b :: c :: r))[1].toNat : Int) == 116) = true := by rw [hgc, h116]; rfl
        have HF : Hid (∀ w', Below w.heap.size w w' → PcP (b :: c :: r) w (.returned (.tuple #[.string ⟨#[9]⟩, .int .i64 2])) w') := fun w' h => PcP.of (x := [9]) (n := 2) (by rw [h92, h116]; rfl) rfl rfl h
        clear hz hE hlen hsz hgb hgc h92 h110 h116
        generalize bs (b :: c :: r) = s at *
        go_enter Tryz.func40, Tryz.ntmps40
        go_wp2
        go_ret2
        exact HF.out _ HB0.out
      have f3 : (((bs (b :: c :: r))[1].toNat : Int) == 116) = false := by rw [hgc]; exact byte_ne fun h => h116 (UInt8.toNat_inj.1 h)
      have hpc : pcN (b :: c :: r) = (match nbN (c :: r) with | some x => (en x.1, 1 + x.2) | none => ([c], 2)) := by
        rw [h92, pcN_esc, if_neg h110, if_neg h116]
      have HD : Hid (nbN (c :: r) = none → ∀ w', Below w.heap.size w w' → PcP (b :: c :: r) w (.returned (.tuple #[.string ((bs (b :: c :: r)).extract 1 2), .int .i64 2])) w') := fun hn w' h => PcP.of (x := [c]) (n := 2) (by rw [hpc, hn]) HC.out rfl h
      by_cases h120 : c = 120
      · have f4 : (((bs (b :: c :: r))[1].toNat : Int) == 120) = true := by rw [hgc, h120]; rfl
        by_cases hp : ([123] : List UInt8).isPrefixOf r = true
        · obtain ⟨u, rfl⟩ : ∃ u, r = 123 :: u := by
            obtain ⟨u, hu⟩ := List.isPrefixOf_iff_prefix.1 hp
            exact ⟨u, hu.symm⟩
          have hnb : nbN (c :: 123 :: u) = (match brc u with | some x => some (x.1, (hxt 6 u).length + 3) | none => none) := by
            rw [h120, nbN_br]
          have HN : Hid (Calls Tryz.prog 64 #[.string (bs (b :: c :: 123 :: u))] w (NuP u w)) := by
            rw [h92, h120]
            exact numd_x u (by simp at hz; omega) w hE
          cases hbr : brc u with
          | some x =>
            obtain ⟨v, rr⟩ := x
            have hl6 : (hxt 6 u).length ≤ 6 := by
              obtain ⟨k, _, hk, _, he⟩ := hxt_pre 6 u
              rw [he, List.length_take]
              omega
            have HY : Hid (∀ s w', s = bs (en v) → Below w.heap.size w w' → PcP (b :: c :: 123 :: u) w (.returned (.tuple #[.string s, .int .i64 (4 + ((hxt 6 u).length : Int))])) w') := fun s w' hs h => PcP.of (x := en v) (n := 1 + ((hxt 6 u).length + 3)) (by rw [hpc, hnb, hbr]) hs (by omega) h
            have HIC : Hid (isC v = true) := (brc_shorter hbr).2
            unfold NuP nuW at HN
            rw [hbr] at HN
            dsimp only at HN
            have y0 : (0 : Int) < 4 + ((hxt 6 u).length : Int) := by omega
            clear hz hE hlen hsz hgb hgc h92 h110 h116 h120 hp hnb hpc HD HC hbr
            generalize bs (b :: c :: 123 :: u) = s at *
            generalize (hxt 6 u).length = n at *
            go_enter Tryz.func40, Tryz.ntmps40
            go_wp2_with fail
            refine HN.out.mono ?_
            rintro e w2 ⟨rfl, hb⟩
            have HB2 := Lib.hid hb
            clear hb
            go_wp2
            go_ret2
            refine HY.out _ _ ?_ HB2.out
            have h9 := HIC.out
            clear HN HY HIC
            exact encode_en h9
          | none =>
            have HD2 := Lib.hid (HD.out (by rw [hnb, hbr]))
            unfold NuP nuW at HN
            rw [hbr] at HN
            dsimp only at HN
            clear hz hE hlen hsz hgb hgc h92 h110 h116 h120 hp hnb hpc HD HC hbr
            generalize bs (b :: c :: 123 :: u) = s at *
            go_enter Tryz.func40, Tryz.ntmps40
            go_wp2_with fail
            refine HN.out.mono ?_
            rintro e w2 ⟨rfl, hb⟩
            have HB2 := Lib.hid hb
            clear hb
            go_wp2
            go_ret2
            exact HD2.out _ HB2.out
        · have hnb : nbN (c :: r) = none := nbN_nob (by rw [Bool.eq_false_iff]; exact hp) c
          have hpre : ([92, 120, 123] : List UInt8).isPrefixOf (b :: c :: r) = false := by
            rw [Bool.eq_false_iff]
            intro h
            apply hp
            simp only [List.isPrefixOf, Bool.and_eq_true] at h
            exact h.2.2
          have HD2 := Lib.hid (HD.out hnb)
          have HN := Lib.hid (numd_no (b :: c :: r) hpre hz w)
          clear hz hE hlen hsz hgb hgc h92 h110 h116 h120 hp hnb hpc HD HC hpre
          generalize bs (b :: c :: r) = s at *
          go_enter Tryz.func40, Tryz.ntmps40
          go_wp2_with fail
          refine HN.out.mono ?_
          rintro e w2 ⟨rfl, hb⟩
          have HB2 := Lib.hid hb
          clear hb
          go_wp2
          go_ret2
          exact HD2.out _ HB2.out
      · have f4 : (((bs (b :: c :: r))[1].toNat : Int) == 120) = false := by rw [hgc]; exact byte_ne fun h => h120 (UInt8.toNat_inj.1 h)
        have hnb : nbN (c :: r) = none := nbN_oth h120 r
        have HF := Lib.hid (HD.out hnb)
        clear hz hE hlen hsz hgb hgc h92 h110 h116 h120 hnb hpc HD HC
        generalize bs (b :: c :: r) = s at *
        go_enter Tryz.func40, Tryz.ntmps40
        go_wp2
        go_ret2
        exact HF.out _ HB0.out
    · have f1 : (((bs (b :: c :: r))[0].toNat : Int) != 92) = true := by
        rw [bne_iff_ne, hgb]
        intro h
        exact h92 (UInt8.toNat_inj.1 (by show _ = 92; omega))
      have g1 : (((bs (b :: c :: r))[0].toNat : Int) == 92) = false := by rw [hgb]; exact byte_ne fun h => h92 (UInt8.toNat_inj.1 h)
      have HF : Hid (∀ w', Below w.heap.size w w' → PcP (b :: c :: r) w (.returned (.tuple #[.string ((bs (b :: c :: r)).extract 0 1), .int .i64 1])) w') := fun w' h => PcP.of (x := [b]) (n := 1) (pcN_oth h92 c r) (bs_ext (b :: c :: r) 0 1) rfl h
      clear hz hE hlen hsz hgb hgc h92
      generalize bs (b :: c :: r) = s at *
      go_enter Tryz.func40, Tryz.ntmps40
      go_wp2
      go_ret2
      exact HF.out _ HB0.out

end Go.Proofs.YtaocbhfehncdcaaGreatDoor

namespace Go.Proofs.YtaocbhfehncdcaaGreatDoor
open Go.RowKit

theorem nuV_app (m : Int) : ∀ (d : List UInt8) (b : UInt8), nuV m (d ++ [b]) = nuV m d * 10 + ((b.toNat : Int) - 48)
  | [], b => rfl
  | a :: d, b => nuV_app _ d b
theorem dgB_val {b : UInt8} (h : dgB b = true) : 48 ≤ b.toNat ∧ b.toNat ≤ 57 := by
  simp only [dgB, dgN, Bool.and_eq_true, decide_eq_true_eq] at h
  exact h
theorem nuV_bd (d : List UInt8) : ∀ k, k ≤ d.length → (∀ j (_ : j < k) (h2 : j < d.length), dgB d[j] = true) → 0 ≤ nuV 0 (d.take k) ∧ nuV 0 (d.take k) < 10 ^ k
  | 0, _, _ => ⟨Int.le_refl _, by simp [nuV]⟩
  | k + 1, hk, hd => by
    obtain ⟨h1, h2⟩ := nuV_bd d k (by omega) fun j hj h2 => hd j (by omega) h2
    obtain ⟨h3, h4⟩ := dgB_val (hd k (by omega) (by omega))
    have e : d.take (k + 1) = d.take k ++ [d[k]] := by simp
    rw [e, nuV_app]
    have e2 : (10 : Int) ^ (k + 1) = 10 ^ k * 10 := by rw [Int.pow_succ]
    omega
theorem nuV_small (d : List UInt8) (k : Nat) (h15 : k ≤ 14) (hk : k ≤ d.length) (hd : ∀ j (_ : j < k) (h2 : j < d.length), dgB d[j] = true) : 0 ≤ nuV 0 (d.take k) ∧ nuV 0 (d.take k) < 100000000000000 := by
  obtain ⟨h1, h2⟩ := nuV_bd d k hk hd
  refine ⟨h1, Int.lt_of_lt_of_le h2 ?_⟩
  have : (10 : Nat) ^ k ≤ 10 ^ 14 := Nat.pow_le_pow_right (by omega) h15
  have h3 : ((10 ^ k : Nat) : Int) ≤ ((10 ^ 14 : Nat) : Int) := by exact_mod_cast this
  simpa using h3
theorem all_of (d : List UInt8) (h : ∀ j (_ : j < d.length) (h2 : j < d.length), dgB d[j] = true) : d.all dgB = true := by
  rw [List.all_eq_true]
  intro x hx
  obtain ⟨i, hi, rfl⟩ := List.mem_iff_getElem.1 hx
  exact h i hi hi
theorem not_all (d : List UInt8) (k : Nat) (hk : k < d.length) (h : dgB d[k] = false) : isNu d = false := by
  rw [Bool.eq_false_iff]
  intro h2
  have := List.all_eq_true.1 (isNu_all h2) _ (List.getElem_mem hk)
  rw [h] at this
  cases this
def noV (d : List UInt8) : Value := .tuple #[.int .i64 (if isNu d = true then nuV 0 d else 0), .bool (isNu d)]
set_option maxRecDepth 100000 in
set_option maxHeartbeats 4000000 in
theorem numOf_any (s : ByteArray) (d : List UInt8) (hd : s.data.toList = d) (hs : s.size ≤ 100000) (w : World) : Calls Tryz.prog 123 #[.string s] w fun e w' => e = .returned (noV d) ∧ w = w' := by
  have hsl : s.size = d.length := by rw [← hd, ← Lib.size_eq]
  have hgd : ∀ k (h : k < s.size) (h2 : k < d.length), d[k] = s[k] := fun k h h2 => by
    have := getElem_list2 s k h
    rw [hd, List.getElem?_eq_getElem h2] at this
    exact Option.some.inj this
  have HN : Hid (isNu d = false → Ending.returned (.tuple #[.int .i64 0, .bool false]) = .returned (noV d)) := fun h => by
    unfold noV
    rw [h]
    rfl
  have HY : Hid (isNu d = true → ∀ v : Int, v = nuV 0 d → Ending.returned (.tuple #[.int .i64 v, .bool true]) = .returned (noV d)) := fun h v hv => by
    unfold noV
    rw [h, hv]
    rfl
  by_cases h0 : s.size = 0
  · have hn : s.toList = [] := by rw [Lib.toList_data]; exact List.eq_nil_of_length_eq_zero (by rw [← Lib.size_eq]; exact h0)
    have hn2 : s.toList.isEmpty = true := by rw [hn]; rfl
    have HF := Lib.hid (HN.out (by
      have : d = [] := List.eq_nil_of_length_eq_zero (by omega)
      rw [this]
      rfl))
    clear HN HY hd hgd hs hsl hn
    generalize noV d = V at *
    go_enter Tryz.func123, Tryz.ntmps123
    go_wp2
    go_ret2
    exact ⟨HF.out, rfl⟩
  have hne : s.toList.isEmpty = false := by
    rw [Lib.toList_data, List.isEmpty_eq_false_iff]
    intro h
    exact h0 (by rw [Lib.size_eq, h]; rfl)
  have hpos : 0 < s.size := by omega
  by_cases h15 : 15 < s.size
  · have HF := Lib.hid (HN.out (by
      rw [Bool.eq_false_iff]
      intro h
      simp only [isNu, Bool.and_eq_true, decide_eq_true_eq] at h
      omega))
    have x1 : (15 : Int) < (s.size : Int) := by omega
    clear HN HY hd hgd hs hsl
    generalize noV d = V at *
    go_enter Tryz.func123, Tryz.ntmps123
    go_wp2
    go_ret2
    exact ⟨HF.out, rfl⟩
  have x1 : (s.size : Int) ≤ 15 := by omega
  have hz0 : d[0]? = some s[0] := by rw [List.getElem?_eq_getElem (by omega), hgd 0 hpos]
  have h256 := s[0].toNat_lt
  by_cases hz : s[0].toNat = 48 ∧ s.size ≠ 1
  · have HF := Lib.hid (HN.out (by
      rw [Bool.eq_false_iff]
      intro h
      simp only [isNu, Bool.and_eq_true, Bool.or_eq_true, decide_eq_true_eq] at h
      rcases h.2 with h | h
      · omega
      · refine h ?_
        rw [hz0]
        exact congrArg some (UInt8.toNat_inj.1 hz.1)))
    have f1 : ((s[0].toNat : Int) == 48) = true := by rw [hz.1]; rfl
    have f2 : (s.toList != [48]) = true := by
      rw [bne_iff_ne]
      intro h
      rw [Lib.toList_data] at h
      exact hz.2 (by rw [Lib.size_eq, h]; rfl)
    have f3 : (s.toList == [48]) = false := by
      rw [beq_eq_false_iff_ne]
      exact bne_iff_ne.1 f2
    clear HN HY hd hgd hs hsl hz0 hz
    generalize noV d = V at *
    go_enter Tryz.func123, Tryz.ntmps123
    go_wp2
    go_ret2
    exact ⟨HF.out, rfl⟩
  have HALL : Hid ((∀ j (_ : j < d.length) (h2 : j < d.length), dgB d[j] = true) → isNu d = true) := fun h => by
    simp only [isNu, Bool.and_eq_true, Bool.or_eq_true, decide_eq_true_eq]
    refine ⟨⟨⟨all_of d h, by omega⟩, by omega⟩, ?_⟩
    by_cases h1 : s[0].toNat = 48
    · exact .inl (by
        have : s.size = 1 := Classical.byContradiction fun h3 => hz ⟨h1, h3⟩
        omega)
    · exact .inr fun h2 => by
        rw [hz0] at h2
        injection h2 with h2
        exact h1 (by rw [h2]; rfl)
  have HSTEP : Hid (∀ k (h : k < s.size), nuV 0 (d.take (k + 1)) = nuV 0 (d.take k) * 10 + ((s[k].toNat : Int) - 48)) := fun k h => by
    have e : d.take (k + 1) = d.take k ++ [d[k]'(by omega)] := by simp
    rw [e, nuV_app, hgd k h]
  have HBD : Hid (∀ k, k < s.size → (∀ j (_ : j < k) (h2 : j < d.length), dgB d[j] = true) → 0 ≤ nuV 0 (d.take k) ∧ nuV 0 (d.take k) < 100000000000000) := fun k hk h => nuV_small d k (by omega) (by omega) h
  have HBAD : Hid (∀ k (h : k < s.size), dgB s[k] = false → isNu d = false) := fun k h h2 => not_all d k (by omega) (by rw [hgd k h]; exact h2)
  have HON : Hid (∀ k (h : k < s.size), dgB s[k] = true → (∀ j (_ : j < k) (h2 : j < d.length), dgB d[j] = true) → ∀ j (_ : j < k + 1) (h2 : j < d.length), dgB d[j] = true) := fun k h h1 hp j hj h2 => by
    by_cases hjk : j = k
    · subst hjk
      rw [hgd j h]
      exact h1
    · exact hp j (by omega) h2
  have HSL := Lib.hid hsl
  have HT : Hid (nuV 0 (d.take d.length) = nuV 0 d) := by
    show _ = _
    rw [List.take_length]
  have hcase : ((s[0].toNat : Int) == 48) = false ∨ (((s[0].toNat : Int) == 48) = true ∧ (s.toList != [48]) = false) := by
    by_cases h1 : s[0].toNat = 48
    · refine .inr ⟨by rw [h1]; rfl, ?_⟩
      have h2 : s.size = 1 := Classical.byContradiction fun h3 => hz ⟨h1, h3⟩
      have h3 : s.data.toList = [s[0]] := by
        have := drop_at s _ rfl 0 hpos
        rw [List.drop_zero] at this
        rw [this, drop_end s _ rfl 1 (by omega)]
      rw [Lib.toList_data, h3, show s[0] = 48 from UInt8.toNat_inj.1 h1]
      rfl
    · refine .inl ?_
      rw [beq_eq_false_iff_ne]
      omega
  clear hd hgd hsl hz0 hz h0
  have hcase : ((s[0].toNat : Int) == 48) = false ∨ (((s[0].toNat : Int) == 48) = true ∧ (s.toList != [48]) = false ∧ (s.toList == [48]) = true) := by
    rcases hcase with h | ⟨h1, h2⟩
    · exact .inl h
    · exact .inr ⟨h1, h2, by simpa using h2⟩
  rcases hcase with f1 | ⟨f1, f2, f3⟩
  all_goals (
    go_enter Tryz.func123, Tryz.ntmps123
    go_wp2
    go_loop [4, 24] (fun n i => ∃ k : Nat, k ≤ s.size ∧ i = .int .i64 k ∧ n = .int .i64 (nuV 0 (d.take k)) ∧ Hid (∀ j (_ : j < k) (h2 : j < d.length), dgB d[j] = true)) (fun _ i => s.size - (intOf i).toNat)
    case atStart => exact ⟨0, Nat.zero_le _, rfl, rfl, fun j h => absurd h (Nat.not_lt_zero j)⟩
    case round =>
      obtain ⟨k, hk, rfl, rfl, hp⟩ := hrel
      by_cases hlt : k < s.size
      · have y1 : (k : Int) < (s.size : Int) := by omega
        have y3 : IntKind.i64.wrap ((k : Int) + 1) = (k : Int) + 1 := IntWalk.i64_in _ (by omega)
        have hdg : dgB s[k] = dgN s[k].toNat := rfl
        have hb := HBD.out k hlt hp.out
        rcases dg_cases s[k].toNat with ⟨g1, g3⟩ | ⟨g1, g2, g3⟩ | ⟨g1, g3⟩
        · have HF := Lib.hid (HN.out (HBAD.out k hlt (hdg.trans g3)))
          clear hdg hb
          go_wp2
          go_ret2
          exact ⟨HF.out, rfl⟩
        · have HP2 := Lib.hid (HON.out k hlt (hdg.trans g3) hp.out)
          have HS2 := Lib.hid (HSTEP.out k hlt)
          clear hdg
          generalize nuV 0 (d.take k) = a at *
          have z1 : IntKind.i64.wrap (a * 10) = a * 10 := IntWalk.i64_in _ (by omega)
          have z2 : IntKind.i64.wrap (a * 10 + ((s[k].toNat : Int) - 48)) = a * 10 + ((s[k].toNat : Int) - 48) := IntWalk.i64_in _ (by omega)
          go_wp2
          go_round
          case rel => exact ⟨k + 1, hlt, by first | rfl | go_num, by rw [HS2.out], HP2⟩
          case measure => simp [intOf]; omega
        · have HF := Lib.hid (HN.out (HBAD.out k hlt (hdg.trans g3)))
          clear hdg hb
          go_wp2
          go_ret2
          exact ⟨HF.out, rfl⟩
      · have hke : k = d.length := by have := HSL.out; omega
        have y1 : (s.size : Int) ≤ (k : Int) := by omega
        have HF : Hid (Ending.returned (.tuple #[.int .i64 (nuV 0 (d.take k)), .bool true]) = .returned (noV d)) := HY.out (HALL.out fun j h h2 => hp.out j (by omega) h2) _ (by rw [hke]; exact HT.out)
        clear hke
        generalize nuV 0 (d.take k) = a at *
        go_wp2
        go_ret2
        exact ⟨HF.out, rfl⟩)

end Go.Proofs.YtaocbhfehncdcaaGreatDoor

namespace Go.Proofs.YtaocbhfehncdcaaGreatDoor
open Go.RowKit

def lfV : Nd → Value
  | .mk o s t n _ => .agg #[.int .i64 o, .string s, .string t, .int .i64 n, .slice none 0 0]
def plV : Option (Nd × Nat) → Value
  | some x => .tuple #[lfV x.1, .int .i64 x.2]
  | none => .tuple #[.agg #[.int .i64 0, .string ⟨#[]⟩, .string ⟨#[]⟩, .int .i64 0, .slice none 0 0], .int .i64 0]
def PlP (o : Option (Nd × Nat)) (w : World) (e : Ending) (w' : World) : Prop := e = .returned (plV o) ∧ Below w.heap.size w w'
set_option maxRecDepth 100000 in
set_option maxHeartbeats 4000000 in
theorem placeAt_any (l : List UInt8) (hz : l.length ≤ 100000) (w : World) : Calls Tryz.prog 94 #[.string (bs l)] w (PlP (plN l) w) := by
  have HPN : Hid (plN l = none → ∀ w', Below w.heap.size w w' → PlP (plN l) w (.returned (.tuple #[.agg #[.int .i64 0, .string ⟨#[]⟩, .string ⟨#[]⟩, .int .i64 0, .slice none 0 0], .int .i64 0])) w') := fun h w' hb => by
    rw [h]
    exact ⟨rfl, hb⟩
  have HPY : Hid (∀ (o v : Int) (s : List UInt8) (k : Nat), plN l = some (.mk o (bs s) ⟨#[]⟩ v [], k + 2) → ∀ w', Below w.heap.size w w' → PlP (plN l) w (.returned (.tuple #[.agg #[.int .i64 o, .string (bs s), .string ⟨#[]⟩, .int .i64 v, .slice none 0 0], .int .i64 ((k : Int) + 2)])) w') := fun o v s k h w' hb => by
    rw [h]
    exact ⟨by simp [plV, lfV], hb⟩
  by_cases hp : ([91] : List UInt8).isPrefixOf l = true
  · obtain ⟨r, rfl⟩ : ∃ r, l = 91 :: r := by
      obtain ⟨r, hr⟩ := List.isPrefixOf_iff_prefix.1 hp
      exact ⟨r, hr.symm⟩
    have H1 : Hid (∀ w, Calls Tryz.prog 96 #[.string (bs (91 :: r)), .string ⟨#[91]⟩] w fun e w' => e = .returned (.tuple #[.string (bs r), .bool true]) ∧ w = w') := fun w => cpre_hit [91] r w
    have hzr : r.length ≤ 100000 := by simp at hz; omega
    have hpl := plN_in r
    rcases scut_any 93 r hzr with ⟨hd, hcut⟩ | ⟨d, t, hr, hd, hcut⟩
    · have HN := Lib.hid (HPN.out (hpl.trans (plI_miss r hd)))
      have HC := Lib.hid hcut
      clear HPN HPY hd hcut hz hzr hp hpl
      generalize plN (91 :: r) = o at *
      generalize bs (91 :: r) = s at *
      generalize bs r = t at *
      have HT0 := Lib.hid (NkAt.zero w)
      have HB0 := Lib.hid ((Below.refl w.heap.size w).alloc (Nat.le_refl _) zN)
      unfold zN at HT0 HB0
      go_enter Tryz.func94, Tryz.ntmps94
      go_wp2_with fail
      generalize w.alloc _ = W0 at *
      generalize hTT : w.heap.size = T at *
      clear hTT
      refine (H1.out _).mono ?_
      rintro e w' ⟨rfl, rfl⟩
      go_wp2_with fail
      refine (HC.out _).mono ?_
      rintro e w2 ⟨rfl, hb⟩
      have HT2 := Lib.hid (HT0.out.below hb)
      have HB2 := Lib.hid (HB0.out.trans (hb.mono (Nat.le_of_lt HT0.out.lt)))
      clear hb
      obtain ⟨u0, u1, u2, u3, u4⟩ := HT2.out.cells
      have z0 := HT2.out.frozen 0
      have z1 := HT2.out.frozen 1
      have z2 := HT2.out.frozen 2
      have z3 := HT2.out.frozen 3
      have z4 := HT2.out.frozen 4
      go_wp2
      have HR := HT2.out.put (.int .i64 0) (.string ⟨#[]⟩) (.string ⟨#[]⟩) (.int .i64 0) (.slice none 0 0)
      obtain ⟨r0, r1, r2, r3, r4⟩ := HR.cells
      change bodyPost _ _ _ _ _ (ndW w2 T (.int .i64 0) (.string ⟨#[]⟩) (.string ⟨#[]⟩) (.int .i64 0) (.slice none 0 0))
      refine bodyPost_ret (v := .tuple #[.agg #[.int .i64 0, .string ⟨#[]⟩, .string ⟨#[]⟩, .int .i64 0, .slice none 0 0], .int .i64 0]) ?_ rfl (HN.out _ (HB2.out.trans (ndW_below _ _ _ _ _ _ _)))
      generalize ndW w2 T (.int .i64 0) (.string ⟨#[]⟩) (.string ⟨#[]⟩) (.int .i64 0) (.slice none 0 0) = WZ at *
      simp [results, Tryz.results94, go_sem, r0, r1, r2, r3, r4]
    · have hpi := plI_hit d t hd
      rw [← hr] at hpi
      have hdz : d.length ≤ 100000 := by rw [hr] at hzr; simp at hzr; omega
      have hsz : (bs d).size = d.length := bs_size d
      have x1 : IntKind.i64.wrap ((d.length : Int) + 2) = (d.length : Int) + 2 := IntWalk.i64_in _ (by omega)
      have HC := Lib.hid hcut
      have HNO := Lib.hid (fun w => numOf_any (bs d) d (bs_list d) (by rw [bs_size]; exact hdz) w)
      by_cases h36 : ([36] : List UInt8).isPrefixOf d = true
      · obtain ⟨f, rfl⟩ : ∃ f, d = 36 :: f := by
          obtain ⟨f, hf⟩ := List.isPrefixOf_iff_prefix.1 h36
          exact ⟨f, hf.symm⟩
        have H4 : Hid (∀ w, Calls Tryz.prog 96 #[.string (bs (36 :: f)), .string ⟨#[36]⟩] w fun e w' => e = .returned (.tuple #[.string (bs f), .bool true]) ∧ w = w') := fun w => cpre_hit [36] f w
        have HI := Lib.hid (fun w => isWord_bs f (by simp at hdz; omega) w)
        cases hw : isW f
        · have hnu : isNu (36 :: f) = false := by
            rw [Bool.eq_false_iff]
            intro h2
            have := isNu_all h2
            simp [show dgB 36 = false from by decide] at this
          have HN := Lib.hid (HPN.out (by
            rw [hpl, hpi, if_neg (by rintro ⟨_, h⟩; exact absurd (hw.symm.trans h) (by simp)), hnu]
            rfl))
          rw [hw] at HI
          have hno : noV (36 :: f) = .tuple #[.int .i64 0, .bool false] := by unfold noV; rw [hnu]; rfl
          rw [hno] at HNO
          clear HPN HPY hd hcut hz hzr hp hpl hpi hr hw hnu h36 hno
          generalize plN (91 :: r) = o at *
          generalize bs (91 :: r) = s at *
          generalize bs r = t1 at *
          generalize bs (36 :: f) = t2 at *
          generalize bs f = t3 at *
          generalize (36 :: f).length = n at *
          have HT0 := Lib.hid (NkAt.zero w)
          have HB0 := Lib.hid ((Below.refl w.heap.size w).alloc (Nat.le_refl _) zN)
          unfold zN at HT0 HB0
          go_enter Tryz.func94, Tryz.ntmps94
          go_wp2_with fail
          generalize w.alloc _ = W0 at *
          generalize hTT : w.heap.size = T at *
          clear hTT
          refine (H1.out _).mono ?_
          rintro e w' ⟨rfl, rfl⟩
          go_wp2_with fail
          refine (HC.out _).mono ?_
          rintro e w2 ⟨rfl, hb⟩
          have HT2 := Lib.hid (HT0.out.below hb)
          have HB2 := Lib.hid (HB0.out.trans (hb.mono (Nat.le_of_lt HT0.out.lt)))
          clear hb
          go_wp2_with fail
          refine (H4.out _).mono ?_
          rintro e w' ⟨rfl, rfl⟩
          go_wp2_with fail
          refine (HI.out _).mono ?_
          rintro e w' ⟨rfl, rfl⟩
          go_wp2_with fail
          refine (HNO.out _).mono ?_
          rintro e w' ⟨rfl, rfl⟩
          obtain ⟨u0, u1, u2, u3, u4⟩ := HT2.out.cells
          have z0 := HT2.out.frozen 0
          have z1 := HT2.out.frozen 1
          have z2 := HT2.out.frozen 2
          have z3 := HT2.out.frozen 3
          have z4 := HT2.out.frozen 4
          go_wp2
          have HR := HT2.out.put (.int .i64 0) (.string ⟨#[]⟩) (.string ⟨#[]⟩) (.int .i64 0) (.slice none 0 0)
          obtain ⟨r0, r1, r2, r3, r4⟩ := HR.cells
          change bodyPost _ _ _ _ _ (ndW w2 T (.int .i64 0) (.string ⟨#[]⟩) (.string ⟨#[]⟩) (.int .i64 0) (.slice none 0 0))
          refine bodyPost_ret (v := .tuple #[.agg #[.int .i64 0, .string ⟨#[]⟩, .string ⟨#[]⟩, .int .i64 0, .slice none 0 0], .int .i64 0]) ?_ rfl (HN.out _ (HB2.out.trans (ndW_below _ _ _ _ _ _ _)))
          generalize ndW w2 T (.int .i64 0) (.string ⟨#[]⟩) (.string ⟨#[]⟩) (.int .i64 0) (.slice none 0 0) = WZ at *
          simp [results, Tryz.results94, go_sem, r0, r1, r2, r3, r4]
        · have HY := Lib.hid (HPY.out 5 0 f (36 :: f).length (by
            rw [hpl, hpi, if_pos ⟨rfl, hw⟩]
            rfl))
          rw [hw] at HI
          clear HPN HPY hd hcut hz hzr hp hpl hpi hr hw h36 HNO
          generalize plN (91 :: r) = o at *
          generalize bs (91 :: r) = s at *
          generalize bs r = t1 at *
          generalize bs (36 :: f) = t2 at *
          generalize bs f = t3 at *
          generalize (36 :: f).length = n at *
          have HT0 := Lib.hid (NkAt.zero w)
          have HB0 := Lib.hid ((Below.refl w.heap.size w).alloc (Nat.le_refl _) zN)
          unfold zN at HT0 HB0
          go_enter Tryz.func94, Tryz.ntmps94
          go_wp2_with fail
          generalize w.alloc _ = W0 at *
          generalize hTT : w.heap.size = T at *
          clear hTT
          refine (H1.out _).mono ?_
          rintro e w' ⟨rfl, rfl⟩
          go_wp2_with fail
          refine (HC.out _).mono ?_
          rintro e w2 ⟨rfl, hb⟩
          have HT2 := Lib.hid (HT0.out.below hb)
          have HB2 := Lib.hid (HB0.out.trans (hb.mono (Nat.le_of_lt HT0.out.lt)))
          clear hb
          go_wp2_with fail
          refine (H4.out _).mono ?_
          rintro e w' ⟨rfl, rfl⟩
          go_wp2_with fail
          refine (HI.out _).mono ?_
          rintro e w' ⟨rfl, rfl⟩
          obtain ⟨u0, u1, u2, u3, u4⟩ := HT2.out.cells
          have z0 := HT2.out.frozen 0
          have z1 := HT2.out.frozen 1
          have z2 := HT2.out.frozen 2
          have z3 := HT2.out.frozen 3
          have z4 := HT2.out.frozen 4
          go_wp2
          have HR := HT2.out.put (.int .i64 5) (.string t3) (.string ⟨#[]⟩) (.int .i64 0) (.slice none 0 0)
          obtain ⟨r0, r1, r2, r3, r4⟩ := HR.cells
          change bodyPost _ _ _ _ _ (ndW w2 T (.int .i64 5) (.string t3) (.string ⟨#[]⟩) (.int .i64 0) (.slice none 0 0))
          refine bodyPost_ret (v := .tuple #[.agg #[.int .i64 5, .string t3, .string ⟨#[]⟩, .int .i64 0, .slice none 0 0], .int .i64 ((n : Int) + 2)]) ?_ rfl (HY.out _ (HB2.out.trans (ndW_below _ _ _ _ _ _ _)))
          generalize ndW w2 T (.int .i64 5) (.string t3) (.string ⟨#[]⟩) (.int .i64 0) (.slice none 0 0) = WZ at *
          simp [results, Tryz.results94, go_sem, r0, r1, r2, r3, r4]
      · have h36' : ([36] : List UInt8).isPrefixOf d = false := by
          rw [Bool.eq_false_iff]
          exact h36
        have H4 := Lib.hid (fun w => cpre_miss d [36] h36' w)
        have hne : ¬ (d[0]? = some 36 ∧ isW (d.drop 1) = true) := by
          rintro ⟨h, _⟩
          match d, h, h36 with
          | b :: f, h, h36 =>
            simp at h
            rw [h] at h36
            exact h36 (by simp [List.isPrefixOf])
        cases hnu : isNu d
        · have HN := Lib.hid (HPN.out (by rw [hpl, hpi, if_neg hne, hnu]; rfl))
          have hno : noV d = .tuple #[.int .i64 0, .bool false] := by unfold noV; rw [hnu]; rfl
          rw [hno] at HNO
          clear HPN HPY hd hcut hz hzr hp hpl hpi hr h36 h36' hne hnu hno
          generalize plN (91 :: r) = o at *
          generalize bs (91 :: r) = s at *
          generalize bs r = t1 at *
          generalize bs d = t2 at *
          generalize d.length = n at *
          have HT0 := Lib.hid (NkAt.zero w)
          have HB0 := Lib.hid ((Below.refl w.heap.size w).alloc (Nat.le_refl _) zN)
          unfold zN at HT0 HB0
          go_enter Tryz.func94, Tryz.ntmps94
          go_wp2_with fail
          generalize w.alloc _ = W0 at *
          generalize hTT : w.heap.size = T at *
          clear hTT
          refine (H1.out _).mono ?_
          rintro e w' ⟨rfl, rfl⟩
          go_wp2_with fail
          refine (HC.out _).mono ?_
          rintro e w2 ⟨rfl, hb⟩
          have HT2 := Lib.hid (HT0.out.below hb)
          have HB2 := Lib.hid (HB0.out.trans (hb.mono (Nat.le_of_lt HT0.out.lt)))
          clear hb
          go_wp2_with fail
          refine (H4.out _).mono ?_
          rintro e w' ⟨rfl, rfl⟩
          go_wp2_with fail
          refine (HNO.out _).mono ?_
          rintro e w' ⟨rfl, rfl⟩
          obtain ⟨u0, u1, u2, u3, u4⟩ := HT2.out.cells
          have z0 := HT2.out.frozen 0
          have z1 := HT2.out.frozen 1
          have z2 := HT2.out.frozen 2
          have z3 := HT2.out.frozen 3
          have z4 := HT2.out.frozen 4
          go_wp2
          have HR := HT2.out.put (.int .i64 0) (.string ⟨#[]⟩) (.string ⟨#[]⟩) (.int .i64 0) (.slice none 0 0)
          obtain ⟨r0, r1, r2, r3, r4⟩ := HR.cells
          change bodyPost _ _ _ _ _ (ndW w2 T (.int .i64 0) (.string ⟨#[]⟩) (.string ⟨#[]⟩) (.int .i64 0) (.slice none 0 0))
          refine bodyPost_ret (v := .tuple #[.agg #[.int .i64 0, .string ⟨#[]⟩, .string ⟨#[]⟩, .int .i64 0, .slice none 0 0], .int .i64 0]) ?_ rfl (HN.out _ (HB2.out.trans (ndW_below _ _ _ _ _ _ _)))
          generalize ndW w2 T (.int .i64 0) (.string ⟨#[]⟩) (.string ⟨#[]⟩) (.int .i64 0) (.slice none 0 0) = WZ at *
          simp [results, Tryz.results94, go_sem, r0, r1, r2, r3, r4]
        · have HY := Lib.hid (HPY.out 1 (nuV 0 d) [] d.length (by rw [hpl, hpi, if_neg hne, if_pos hnu]; rfl))
          have hno : noV d = .tuple #[.int .i64 (nuV 0 d), .bool true] := by unfold noV; rw [hnu]; rfl
          rw [hno] at HNO
          clear HPN HPY hd hcut hz hzr hp hpl hpi hr h36 h36' hne hnu hno
          generalize plN (91 :: r) = o at *
          generalize bs (91 :: r) = s at *
          generalize bs r = t1 at *
          generalize bs d = t2 at *
          generalize d.length = n at *
          generalize nuV 0 d = v at *
          have HT0 := Lib.hid (NkAt.zero w)
          have HB0 := Lib.hid ((Below.refl w.heap.size w).alloc (Nat.le_refl _) zN)
          unfold zN at HT0 HB0
          go_enter Tryz.func94, Tryz.ntmps94
          go_wp2_with fail
          generalize w.alloc _ = W0 at *
          generalize hTT : w.heap.size = T at *
          clear hTT
          refine (H1.out _).mono ?_
          rintro e w' ⟨rfl, rfl⟩
          go_wp2_with fail
          refine (HC.out _).mono ?_
          rintro e w2 ⟨rfl, hb⟩
          have HT2 := Lib.hid (HT0.out.below hb)
          have HB2 := Lib.hid (HB0.out.trans (hb.mono (Nat.le_of_lt HT0.out.lt)))
          clear hb
          go_wp2_with fail
          refine (H4.out _).mono ?_
          rintro e w' ⟨rfl, rfl⟩
          go_wp2_with fail
          refine (HNO.out _).mono ?_
          rintro e w' ⟨rfl, rfl⟩
          obtain ⟨u0, u1, u2, u3, u4⟩ := HT2.out.cells
          have z0 := HT2.out.frozen 0
          have z1 := HT2.out.frozen 1
          have z2 := HT2.out.frozen 2
          have z3 := HT2.out.frozen 3
          have z4 := HT2.out.frozen 4
          go_wp2
          have HR := HT2.out.put (.int .i64 1) (.string ⟨#[]⟩) (.string ⟨#[]⟩) (.int .i64 v) (.slice none 0 0)
          obtain ⟨r0, r1, r2, r3, r4⟩ := HR.cells
          change bodyPost _ _ _ _ _ (ndW w2 T (.int .i64 1) (.string ⟨#[]⟩) (.string ⟨#[]⟩) (.int .i64 v) (.slice none 0 0))
          refine bodyPost_ret (v := .tuple #[.agg #[.int .i64 1, .string ⟨#[]⟩, .string ⟨#[]⟩, .int .i64 v, .slice none 0 0], .int .i64 ((n : Int) + 2)]) ?_ rfl (HY.out _ (HB2.out.trans (ndW_below _ _ _ _ _ _ _)))
          generalize ndW w2 T (.int .i64 1) (.string ⟨#[]⟩) (.string ⟨#[]⟩) (.int .i64 v) (.slice none 0 0) = WZ at *
          simp [results, Tryz.results94, go_sem, r0, r1, r2, r3, r4]
  · have hp' : ([91] : List UInt8).isPrefixOf l = false := by
      rw [Bool.eq_false_iff]
      exact hp
    have HN := Lib.hid (HPN.out (plN_other hp'))
    have H1 := Lib.hid (fun w => cpre_miss l [91] hp' w)
    rcases scut_any 93 l hz with ⟨_, hcut⟩ | ⟨d, t, _, _, hcut⟩
    all_goals (
      have HC := Lib.hid hcut
      clear HPN HPY hcut hz hp hp'
      generalize plN l = o at *
      generalize bs l = s at *
      try generalize bs d = t1 at *
      try generalize bs t = t2 at *
      have HT0 := Lib.hid (NkAt.zero w)
      have HB0 := Lib.hid ((Below.refl w.heap.size w).alloc (Nat.le_refl _) zN)
      unfold zN at HT0 HB0
      go_enter Tryz.func94, Tryz.ntmps94
      go_wp2_with fail
      generalize w.alloc _ = W0 at *
      generalize hTT : w.heap.size = T at *
      clear hTT
      refine (H1.out _).mono ?_
      rintro e w' ⟨rfl, rfl⟩
      go_wp2_with fail
      refine (HC.out _).mono ?_
      rintro e w2 ⟨rfl, hb⟩
      have HT2 := Lib.hid (HT0.out.below hb)
      have HB2 := Lib.hid (HB0.out.trans (hb.mono (Nat.le_of_lt HT0.out.lt)))
      clear hb
      obtain ⟨u0, u1, u2, u3, u4⟩ := HT2.out.cells
      have z0 := HT2.out.frozen 0
      have z1 := HT2.out.frozen 1
      have z2 := HT2.out.frozen 2
      have z3 := HT2.out.frozen 3
      have z4 := HT2.out.frozen 4
      go_wp2
      have HR := HT2.out.put (.int .i64 0) (.string ⟨#[]⟩) (.string ⟨#[]⟩) (.int .i64 0) (.slice none 0 0)
      obtain ⟨r0, r1, r2, r3, r4⟩ := HR.cells
      change bodyPost _ _ _ _ _ (ndW w2 T (.int .i64 0) (.string ⟨#[]⟩) (.string ⟨#[]⟩) (.int .i64 0) (.slice none 0 0))
      refine bodyPost_ret (v := .tuple #[.agg #[.int .i64 0, .string ⟨#[]⟩, .string ⟨#[]⟩, .int .i64 0, .slice none 0 0], .int .i64 0]) ?_ rfl (HN.out _ (HB2.out.trans (ndW_below _ _ _ _ _ _ _)))
      generalize ndW w2 T (.int .i64 0) (.string ⟨#[]⟩) (.string ⟨#[]⟩) (.int .i64 0) (.slice none 0 0) = WZ at *
      simp [results, Tryz.results94, go_sem, r0, r1, r2, r3, r4])

end Go.Proofs.YtaocbhfehncdcaaGreatDoor
