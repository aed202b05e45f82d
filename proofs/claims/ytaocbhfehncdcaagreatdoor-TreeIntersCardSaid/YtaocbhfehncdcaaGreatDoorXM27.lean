/-
  The node of a text with interpolation, as package tree gives it. Conditions: the variable strconv.ErrSyntax holds an error; texts of at most 20000 bytes. Names in braces, and the scalars that are no words, as the document reads them. Conditions: texts of at most 100000 bytes. Numbers, as the document reads them; the scalars that are no words. Conditions: texts of at most 100000 bytes.
-/
import Derived.Test.YtaocbhfehncdcaaGreatDoorXIv
import Derived.Test.YtaocbhfehncdcaaGreatDoorXM25
import Derived.Test.YtaocbhfehncdcaaGreatDoorXM24
namespace Go.Proofs.YtaocbhfehncdcaaGreatDoor
open Go.RowKit

def irV (L : List UInt8) : Nd × Int := if L.length ≤ 4096 then (itN L, 0) else (.mk 0 ⟨#[]⟩ ⟨#[]⟩ 0 [], 3)
def IrP (L : List UInt8) (w : World) (e : Ending) (w' : World) : Prop :=
  ∃ (o n : Int) (s t : ByteArray) (a : Option Addr) (k c : Nat), e = .returned (.tuple #[.agg #[.int .i64 o, .string s, .string t, .int .i64 n, .slice a k c], .int .i64 (irV L).2]) ∧ Below w.heap.size w w' ∧ NdAt (fun g => w.heap.size ≤ g) w' (irV L).1 (.agg #[.int .i64 o, .string s, .string t, .int .i64 n, .slice a k c])
theorem ir_ret {L : List UInt8} {x : Nd} {m : Int} {w W : World} {T : Nat} {S : Nat → Prop} {o n : Int} {s t : ByteArray} {a : Option Addr} {k c : Nat} (hT : w.heap.size = T) (hB : Below T w W) (hN : NdAt S W x (.agg #[.int .i64 o, .string s, .string t, .int .i64 n, .slice a k c])) (hS : ∀ g, S g → T < g) (hV : irV L = (x, m)) :
    IrP L w (.returned (.tuple #[.agg #[.int .i64 o, .string s, .string t, .int .i64 n, .slice a k c], .int .i64 m])) (ndW W T (.int .i64 o) (.string s) (.string t) (.int .i64 n) (.slice a k c)) := by
  subst hT
  refine ⟨o, n, s, t, a, k, c, by rw [hV], hB.trans (ndW_below _ _ _ _ _ _ _), ?_⟩
  rw [hV]
  exact hN.move fun g h1 h2 => ⟨ndW_block _ _ _ _ _ _ _ _ (by have := hS g h1; omega), Nat.le_of_lt (hS g h1)⟩
set_option maxRecDepth 100000 in
set_option maxHeartbeats 4000000 in
theorem tInter_any (L : List UInt8) (hz : L.length ≤ 20000) (w : World) (hE : ErrAt w) : Calls Tryz.prog 11 #[.string (bs L)] w (IrP L w) := by
  have hsz : (bs L).size = L.length := bs_size L
  by_cases h : L.length ≤ 4096
  · have x1 : ((bs L).size : Int) ≤ 4096 := by omega
    have HI := Lib.hid (fun w hE => inter_any L hz w hE)
    have HV : Hid (irV L = (itN L, 0)) := if_pos h
    have HE := Lib.hid hE
    clear hsz hz h hE
    generalize bs L = s at *
    have HT0 := Lib.hid (NkAt.zero w)
    have HB0 := Lib.hid ((Below.refl w.heap.size w).alloc (Nat.le_refl _) zN)
    unfold zN at HT0 HB0
    go_enter Tryz.func11, Tryz.ntmps11
    go_wp2_with fail
    generalize w.alloc _ = W0 at *
    generalize hTT : w.heap.size = T at *
    have HTT := Lib.hid hTT
    clear hTT
    refine (HI.out _ (HE.out.later (by rw [HTT.out]; exact HB0.out))).mono ?_
    rintro e W2 ⟨v, rfl, hb, hnd⟩
    have HT2 := Lib.hid (HT0.out.below hb)
    have HB2 := Lib.hid (HB0.out.trans (hb.mono (Nat.le_of_lt HT0.out.lt)))
    have HG : Hid (T < W0.heap.size) := HT0.out.lt
    clear hb
    obtain ⟨o1, s1, t1, n1, L1, rfl⟩ := nd_form hnd
    obtain ⟨la, lk, lc, rfl⟩ := nd_slice hnd
    have HND := Lib.hid hnd
    clear hnd
    obtain ⟨u0, u1, u2, u3, u4⟩ := HT2.out.cells
    have z0 := HT2.out.frozen 0
    have z1 := HT2.out.frozen 1
    have z2 := HT2.out.frozen 2
    have z3 := HT2.out.frozen 3
    have z4 := HT2.out.frozen 4
    go_wp2
    have HR := HT2.out.put (.int .i64 o1) (.string s1) (.string t1) (.int .i64 n1) (.slice la lk lc)
    obtain ⟨r0, r1, r2, r3, r4⟩ := HR.cells
    change bodyPost _ _ _ _ _ (ndW W2 T (.int .i64 o1) (.string s1) (.string t1) (.int .i64 n1) (.slice la lk lc))
    refine bodyPost_ret (v := .tuple #[.agg #[.int .i64 o1, .string s1, .string t1, .int .i64 n1, .slice la lk lc], .int .i64 0]) ?_ rfl ?_
    · generalize ndW W2 T (.int .i64 o1) (.string s1) (.string t1) (.int .i64 n1) (.slice la lk lc) = WZ at *
      simp [results, Tryz.results11, go_sem, r0, r1, r2, r3, r4]
    · exact ir_ret HTT.out HB2.out HND.out (fun g h => Nat.lt_of_lt_of_le HG.out h) HV.out
  · have x1 : 4096 < ((bs L).size : Int) := by omega
    have HV : Hid (irV L = (.mk 0 ⟨#[]⟩ ⟨#[]⟩ 0 [], 3)) := if_neg h
    clear hsz hz h hE
    generalize bs L = s at *
    have HT0 := Lib.hid (NkAt.zero w)
    have HB0 := Lib.hid ((Below.refl w.heap.size w).alloc (Nat.le_refl _) zN)
    unfold zN at HT0 HB0
    go_enter Tryz.func11, Tryz.ntmps11
    go_upto_region 1 with fail
    generalize w.alloc _ = W0 at *
    generalize hTT : w.heap.size = T at *
    have HTT := Lib.hid hTT
    clear hTT
    obtain ⟨u0, u1, u2, u3, u4⟩ := HT0.out.cells
    have z0 := HT0.out.frozen 0
    have z1 := HT0.out.frozen 1
    have z2 := HT0.out.frozen 2
    have z3 := HT0.out.frozen 3
    have z4 := HT0.out.frozen 4
    go_wp2
    have HR := HT0.out.put (.int .i64 0) (.string ⟨#[]⟩) (.string ⟨#[]⟩) (.int .i64 0) (.slice none 0 0)
    obtain ⟨r0, r1, r2, r3, r4⟩ := HR.cells
    change bodyPost _ _ _ _ _ (ndW W0 T (.int .i64 0) (.string ⟨#[]⟩) (.string ⟨#[]⟩) (.int .i64 0) (.slice none 0 0))
    refine bodyPost_ret (v := .tuple #[.agg #[.int .i64 0, .string ⟨#[]⟩, .string ⟨#[]⟩, .int .i64 0, .slice none 0 0], .int .i64 3]) ?_ rfl ?_
    · generalize ndW W0 T (.int .i64 0) (.string ⟨#[]⟩) (.string ⟨#[]⟩) (.int .i64 0) (.slice none 0 0) = WZ at *
      simp [results, Tryz.results11, go_sem, r0, r1, r2, r3, r4]
    · exact ir_ret HTT.out HB0.out (S := fun _ => False) (.mk .none) (fun g h => h.elim) HV.out

end Go.Proofs.YtaocbhfehncdcaaGreatDoor

namespace Go.Proofs.YtaocbhfehncdcaaGreatDoor
open Go.RowKit

def BrS (o : Option (List UInt8 × Nat)) (w : World) (e : Ending) (w' : World) : Prop := e = .returned (brV o) ∧ w = w'
theorem byte_no {b : UInt8} {n : Int} (h : (b.toNat : Int) ≠ n) : ((b.toNat : Int) == n) = false ∧ ((b.toNat : Int) != n) = true := ⟨beq_eq_false_iff_ne.2 h, bne_iff_ne.2 h⟩
theorem byte_is {b : UInt8} {n : Int} (h : (b.toNat : Int) = n) : ((b.toNat : Int) == n) = true ∧ ((b.toNat : Int) != n) = false := by
  subst h
  simp
theorem byte_off {b c : UInt8} (h : b ≠ c) : (b.toNat : Int) ≠ (c.toNat : Int) := fun e => h (UInt8.toNat_inj.1 (by omega))
theorem byte_at (l : List UInt8) (k : Nat) (h : k < l.length) (h2 : k < (bs l).size) : (bs l)[k] = l[k] := by
  have := getElem_list2 (bs l) k h2
  rw [bs_list, List.getElem?_eq_getElem h] at this
  exact (Option.some.inj this).symm
theorem bs_part (l : List UInt8) (a b : Nat) : (bs l).extract a b = bs ((l.drop a).take (b - a)) := by
  rw [← bs_of ((bs l).extract a b), Lib.extract_data, bs_list]
theorem brN_short {l : List UInt8} (h : l.length < 3) : brN l = none := by
  match l with
  | [] => rfl
  | b :: r =>
    refine if_neg ?_
    rintro ⟨_, h1, h2⟩
    have h3 := (List.getElem?_eq_some_iff.1 h2).1
    have : wd r = 0 ∨ wd r ≥ 1 := by omega
    simp at h
    omega
theorem word_bs (l : List UInt8) (hz : l.length ≤ 100000) (w : World) : Calls Tryz.prog 69 #[.string (bs l)] w (InS (wd l) w) := by
  have := word4_any (bs l) w (by rw [bs_size]; omega)
  rwa [bs_list] at this
set_option maxRecDepth 100000 in
set_option maxHeartbeats 2000000 in
theorem dbr_any (l : List UInt8) (hz : l.length ≤ 100000) (w : World) : Calls Tryz.prog 68 #[.string (bs l)] w (BrS (brN l) w) := by
  have hsz : (bs l).size = l.length := bs_size l
  have HPN : Hid (brN l = none → ∀ w, BrS (brN l) w (.returned (.tuple #[.string ⟨#[]⟩, .int .i64 0])) w) := fun h w => by
    rw [h]
    exact ⟨rfl, rfl⟩
  by_cases h3 : l.length < 3
  · have HN := Lib.hid (HPN.out (brN_short h3))
    have x1 : ((bs l).size : Int) < 3 := by omega
    clear HPN hsz hz h3
    generalize brN l = o at *
    generalize bs l = s at *
    go_enter Tryz.func68, Tryz.ntmps68
    go_wp2
    go_ret2
    exact HN.out _
  have x1 : (3 : Int) ≤ ((bs l).size : Int) := by omega
  obtain ⟨b, r, rfl⟩ : ∃ b r, l = b :: r := by
    match l, h3 with
    | b :: r, _ => exact ⟨b, r, rfl⟩
  have hpos : 0 < (bs (b :: r)).size := by omega
  have hgb : (bs (b :: r))[0] = b := byte_at (b :: r) 0 (by simp) hpos
  by_cases hb : b = 123
  · have f1 := byte_is (b := (bs (b :: r))[0]) (n := 123) (by rw [hgb, hb]; rfl)
    obtain ⟨f1, f2⟩ := f1
    have hlr : (b :: r).length = r.length + 1 := rfl
    have H1 : Hid (∀ w, Calls Tryz.prog 69 #[.string ((bs (b :: r)).extract 1 (bs (b :: r)).size)] w (InS (wd r) w)) := fun w => by
      rw [bs_suf (b :: r) 1 (by simp)]
      exact word_bs r (by omega) w
    have p1 : (1 : Int) ≤ ((bs (b :: r)).size : Int) := by omega
    have hwl := wd_le r
    by_cases h0 : wd r = 0
    · have HN := Lib.hid (HPN.out (if_neg fun h => h.2.1 h0))
      rw [h0] at H1
      clear HPN hsz hz h3 hgb hb hlr hwl h0
      generalize brN (b :: r) = o at *
      generalize bs (b :: r) = s at *
      go_enter Tryz.func68, Tryz.ntmps68
      go_wp2_with fail
      refine (H1.out _).mono ?_
      rintro e w' ⟨rfl, rfl⟩
      go_wp2
      go_ret2
      exact HN.out _
    have hwp : 0 < wd r := Nat.pos_of_ne_zero h0
    have y0 : ((wd r : Int) == 0) = false := by rw [beq_eq_false_iff_ne]; omega
    have y1 : IntKind.i64.wrap ((wd r : Int) + 2) = (wd r : Int) + 2 := IntWalk.i64_in _ (by omega)
    have y2 : IntKind.i64.wrap ((wd r : Int) + 1) = (wd r : Int) + 1 := IntWalk.i64_in _ (by omega)
    by_cases hl : r.length < wd r + 1
    · have HN := Lib.hid (HPN.out (if_neg fun h => by
        have := (List.getElem?_eq_some_iff.1 h.2.2).1
        omega))
      have y3 : ((bs (b :: r)).size : Int) < (wd r : Int) + 2 := by omega
      clear HPN hsz hz h3 hgb hb hlr hwl h0 hl
      generalize brN (b :: r) = o at *
      generalize bs (b :: r) = s at *
      generalize wd r = n at *
      go_enter Tryz.func68, Tryz.ntmps68
      go_wp2_with fail
      refine (H1.out _).mono ?_
      rintro e w' ⟨rfl, rfl⟩
      go_wp2
      go_ret2
      exact HN.out _
    have y3 : (wd r : Int) + 2 ≤ ((bs (b :: r)).size : Int) := by omega
    have y4 : wd r + 1 < (bs (b :: r)).size := by omega
    have y5 : (wd r : Int) + 1 < ((bs (b :: r)).size : Int) := by omega
    have y6 : (wd r : Int) + 1 ≤ ((bs (b :: r)).size : Int) := by omega
    have y7 : wd r + 1 ≤ (bs (b :: r)).size := by omega
    have hwr : wd r < r.length := by omega
    have hgn : (bs (b :: r))[wd r + 1] = r[wd r] := byte_at (b :: r) (wd r + 1) (by simp; omega) y4
    by_cases h125 : r[wd r] = 125
    · obtain ⟨g1, g2⟩ := byte_is (b := (bs (b :: r))[wd r + 1]) (n := 125) (by rw [hgn, h125]; rfl)
      have HY : Hid (∀ w, BrS (brN (b :: r)) w (.returned (.tuple #[.string ((bs (b :: r)).extract 1 (wd r + 1)), .int .i64 ((wd r : Int) + 2)])) w) := fun w => by
        have h : brN (b :: r) = some (r.take (wd r), wd r + 2) := if_pos ⟨hb, h0, by rw [List.getElem?_eq_getElem hwr, h125]⟩
        rw [h, bs_part]
        exact ⟨by simp [brV], rfl⟩
      clear HPN hsz hz h3 hgb hb hlr hwl h0 hl hgn h125 hwr
      generalize brN (b :: r) = o at *
      generalize bs (b :: r) = s at *
      generalize wd r = n at *
      go_enter Tryz.func68, Tryz.ntmps68
      go_wp2_with fail
      refine (H1.out _).mono ?_
      rintro e w' ⟨rfl, rfl⟩
      go_wp2
      go_ret2
      exact HY.out _
    · obtain ⟨g1, g2⟩ := byte_no (b := (bs (b :: r))[wd r + 1]) (n := 125) (by rw [hgn]; exact byte_off h125)
      have HN := Lib.hid (HPN.out (if_neg fun h => by
        have := h.2.2
        rw [List.getElem?_eq_getElem hwr] at this
        exact h125 (Option.some.inj this)))
      clear HPN hsz hz h3 hgb hb hlr hwl h0 hl hgn h125 hwr
      generalize brN (b :: r) = o at *
      generalize bs (b :: r) = s at *
      generalize wd r = n at *
      go_enter Tryz.func68, Tryz.ntmps68
      go_wp2_with fail
      refine (H1.out _).mono ?_
      rintro e w' ⟨rfl, rfl⟩
      go_wp2
      go_ret2
      exact HN.out _
  · obtain ⟨f1, f2⟩ := byte_no (b := (bs (b :: r))[0]) (n := 123) (by rw [hgb]; exact byte_off hb)
    have HN := Lib.hid (HPN.out (if_neg fun h => hb h.1))
    clear HPN hsz hz h3 hgb hb
    generalize brN (b :: r) = o at *
    generalize bs (b :: r) = s at *
    go_enter Tryz.func68, Tryz.ntmps68
    go_wp2
    go_ret2
    exact HN.out _

end Go.Proofs.YtaocbhfehncdcaaGreatDoor

namespace Go.Proofs.YtaocbhfehncdcaaGreatDoor
open Go.RowKit

theorem spec_any (c : UInt8) (w : World) : Calls Tryz.prog 70 #[.string (bs [c])] w (BoS (spB c) w) := by
  have hsz : (bs [c]).size = 1 := bs_size [c]
  have hpos : 0 < (bs [c]).size := by omega
  have hg : (bs [c])[0] = c := byte_at [c] 0 (by simp) hpos
  have hl : (bs [c]).toList = [c] := by rw [Lib.toList_data, bs_list]
  have HP : Hid (∀ v w, v = spB c → BoS (spB c) w (.returned (.bool v)) w) := fun v w h => BoS.mk h w
  have h1 : ((bs [c]).toList == [64]) = decide (c = 64) := by rw [hl, Bool.eq_iff_iff]; simp
  have h2 : ((bs [c]).toList == [38]) = decide (c = 38) := by rw [hl, Bool.eq_iff_iff]; simp
  by_cases c1 : c = 64
  · rw [decide_eq_true c1] at h1
    have HX : Hid (true = spB c) := by show _ = _; rw [c1]; rfl
    clear hg hl h2 c1
    generalize bs [c] = s at *
    go_enter Tryz.func70, Tryz.ntmps70
    go_wp2
    go_ret
    exact HP.out _ _ (by first | exact HX.out | (rw [← HX.out]; simp; omega))
  rw [decide_eq_false c1] at h1
  by_cases c2 : c = 38
  · rw [decide_eq_true c2] at h2
    have HX : Hid (true = spB c) := by show _ = _; rw [c2]; rfl
    clear hg hl c1 c2
    generalize bs [c] = s at *
    go_enter Tryz.func70, Tryz.ntmps70
    go_wp2
    go_ret
    exact HP.out _ _ (by first | exact HX.out | (rw [← HX.out]; simp; omega))
  rw [decide_eq_false c2] at h2
  have hsp : spB c = (decide (49 ≤ c.toNat) && decide (c.toNat ≤ 57)) := by simp [spB, c1, c2]
  have hx : (bs [c])[0].toNat = c.toNat := by rw [hg]
  have h3 : ((bs [c]).size : Int) = 1 := by omega
  have h4 : (((bs [c]).size : Int) == 1) = true := by rw [h3]; rfl
  rcases (show c.toNat < 49 ∨ (49 ≤ c.toNat ∧ c.toNat ≤ 57) ∨ 57 < c.toNat by omega) with g | ⟨g, g2⟩ | g
  · have HX : Hid (false = spB c) := by show _ = _; rw [hsp]; simp; omega
    have x1 : (bs [c])[0].toNat < 49 := by omega
    clear hg hl c1 c2 hx hsp g h3
    generalize bs [c] = s at *
    go_enter Tryz.func70, Tryz.ntmps70
    go_wp2
    go_ret
    exact HP.out _ _ (by first | exact HX.out | (rw [← HX.out]; simp; omega))
  · have HX : Hid (true = spB c) := by show _ = _; rw [hsp]; simp; omega
    have x1 : 49 ≤ (bs [c])[0].toNat := by omega
    have x2 : (bs [c])[0].toNat ≤ 57 := by omega
    clear hg hl c1 c2 hx hsp g g2 h3
    generalize bs [c] = s at *
    go_enter Tryz.func70, Tryz.ntmps70
    go_wp2
    go_ret
    exact HP.out _ _ (by first | exact HX.out | (rw [← HX.out]; simp; omega))
  · have HX : Hid (false = spB c) := by show _ = _; rw [hsp]; simp; omega
    have x1 : 49 ≤ (bs [c])[0].toNat := by omega
    have x2 : 57 < (bs [c])[0].toNat := by omega
    clear hg hl c1 c2 hx hsp g h3
    generalize bs [c] = s at *
    go_enter Tryz.func70, Tryz.ntmps70
    go_wp2
    go_ret
    exact HP.out _ _ (by first | exact HX.out | (rw [← HX.out]; simp; omega))
theorem within_any (n : Int) (w : World) : Calls Tryz.prog 129 #[.int .i64 n, .int .i64 1, .int .i64 15] w (BoS (decide (1 ≤ n) && decide (n ≤ 15)) w) := by
  have HP : Hid (∀ v w, v = (decide (1 ≤ n) && decide (n ≤ 15)) → BoS (decide (1 ≤ n) && decide (n ≤ 15)) w (.returned (.bool v)) w) := fun v w h => BoS.mk h w
  by_cases h1 : 1 ≤ n
  · by_cases h2 : n ≤ 15
    · have HX : Hid (true = (decide (1 ≤ n) && decide (n ≤ 15))) := by show _ = _; simp [h1, h2]
      generalize (decide (1 ≤ n) && decide (n ≤ 15)) = z at *
      go_enter Tryz.func129, Tryz.ntmps129
      go_wp2
      go_ret
      exact HP.out _ _ HX.out
    · have HX : Hid (false = (decide (1 ≤ n) && decide (n ≤ 15))) := by show _ = _; simp [h2]
      have x1 : 15 < n := by omega
      generalize (decide (1 ≤ n) && decide (n ≤ 15)) = z at *
      go_enter Tryz.func129, Tryz.ntmps129
      go_wp2
      go_ret
      exact HP.out _ _ HX.out
  · have HX : Hid (false = (decide (1 ≤ n) && decide (n ≤ 15))) := by show _ = _; simp [h1]
    have x1 : n < 1 := by omega
    generalize (decide (1 ≤ n) && decide (n ≤ 15)) = z at *
    go_enter Tryz.func129, Tryz.ntmps129
    go_wp2
    go_ret
    exact HP.out _ _ HX.out
set_option maxRecDepth 100000 in
set_option maxHeartbeats 2000000 in
theorem number_any (d : List UInt8) (h15 : d.length ≤ 15) (hd : d.all dgB = true) (w : World) : Calls Tryz.prog 108 #[.string (bs d)] w (InS (nuV 0 d) w) := by
  have hsz : (bs d).size = d.length := bs_size d
  have hall : ∀ k (h : k < d.length), dgB d[k] = true := fun k h => List.all_eq_true.1 hd _ (List.getElem_mem h)
  have HSTEP : Hid (∀ k (h : k < (bs d).size), nuV 0 (d.take (k + 1)) = nuV 0 (d.take k) * 10 + (((bs d)[k].toNat : Int) - 48)) := fun k h => by
    have e : d.take (k + 1) = d.take k ++ [d[k]'(by omega)] := by simp
    have h2 := byte_at d k (by omega) h
    rw [e, nuV_app, h2]
    rfl
  have HBD : Hid (∀ k, k < (bs d).size → 0 ≤ nuV 0 (d.take k) ∧ nuV 0 (d.take k) < 100000000000000) := fun k hk => nuV_small d k (by omega) (by omega) fun j _ h2 => hall j h2
  have HDG : Hid (∀ k (h : k < (bs d).size), 48 ≤ (bs d)[k].toNat ∧ (bs d)[k].toNat ≤ 57) := fun k h => by
    rw [byte_at d k (by omega) h]
    exact dgB_val (hall k (by omega))
  have HT : Hid (nuV 0 (d.take (bs d).size) = nuV 0 d) := by
    show _ = _
    rw [hsz, List.take_length]
  have hs15 : (bs d).size ≤ 15 := by omega
  have HP : Hid (∀ v w, v = nuV 0 d → InS (nuV 0 d) w (.returned (.int .i64 v)) w) := fun v w h => by
    subst h
    exact ⟨rfl, rfl⟩
  clear hall hd hsz h15
  generalize bs d = s at *
  go_enter Tryz.func108, Tryz.ntmps108
  go_wp2
  go_loop [3, 4] (fun n i => ∃ k : Nat, k ≤ s.size ∧ i = .int .i64 k ∧ n = .int .i64 (nuV 0 (d.take k))) (fun _ i => s.size - (intOf i).toNat)
  case atStart => exact ⟨0, Nat.zero_le _, rfl, rfl⟩
  case round =>
    obtain ⟨k, hk, rfl, rfl⟩ := hrel
    by_cases hlt : k < s.size
    · have y1 : (k : Int) < (s.size : Int) := by omega
      have y3 : IntKind.i64.wrap ((k : Int) + 1) = (k : Int) + 1 := IntWalk.i64_in _ (by omega)
      have hb := HBD.out k hlt
      obtain ⟨g1, g2⟩ := HDG.out k hlt
      have HS2 := Lib.hid (HSTEP.out k hlt)
      generalize nuV 0 (d.take k) = a at *
      have z1 : IntKind.i64.wrap (a * 10) = a * 10 := IntWalk.i64_in _ (by omega)
      have z2 : IntKind.i64.wrap (a * 10 + ((s[k].toNat : Int) - 48)) = a * 10 + ((s[k].toNat : Int) - 48) := IntWalk.i64_in _ (by omega)
      go_wp2
      go_round
      case rel => exact ⟨k + 1, hlt, by first | rfl | go_num, by rw [HS2.out]⟩
      case measure => simp [intOf]; omega
    · have hke : k = s.size := by omega
      have y1 : (s.size : Int) ≤ (k : Int) := by omega
      have HF : Hid (nuV 0 (d.take k) = nuV 0 d) := by
        show _ = _
        rw [hke]
        exact HT.out
      clear hke
      generalize nuV 0 (d.take k) = a at *
      go_wp2
      go_ret
      exact HP.out _ _ HF.out
set_option maxRecDepth 100000 in
set_option maxHeartbeats 2000000 in
theorem isNumber_any (d : List UInt8) (hz : d.length ≤ 100000) (w : World) : Calls Tryz.prog 107 #[.string (bs d)] w (BoS (isNu d) w) := by
  have hsz : (bs d).size = d.length := bs_size d
  have HP : Hid (∀ v w, v = isNu d → BoS (isNu d) w (.returned (.bool v)) w) := fun v w h => BoS.mk h w
  have HD : Hid (∀ k (h : k < (bs d).size) w, Calls Tryz.prog 105 #[.int .u8 (bs d)[k].toNat] w (BoS (dgB (bs d)[k]) w)) := fun k h w => digit4_any _ w
  have HBAD : Hid (∀ k (h : k < (bs d).size), dgB (bs d)[k] = false → isNu d = false) := fun k h h2 => not_all d k (by omega) (by rwa [byte_at d k (by omega) h] at h2)
  have HW := Lib.hid (fun w => within_any (((bs d).size : Nat) : Int) w)
  have HALL : Hid ((∀ j (h : j < (bs d).size), dgB (bs d)[j] = true) → ∀ v : Bool, v = (decide (1 ≤ d.length) && decide (d.length ≤ 15) && (decide (d.length = 1) || decide (d[0]? ≠ some 48))) → v = isNu d) := fun h v hv => by
    have h1 : d.all dgB = true := all_of d fun j hj h2 => by
      have := h j (by omega)
      rwa [byte_at d j h2 (by omega)] at this
    rw [hv, isNu, h1]
    rfl
  have hz0 : ∀ h : 0 < (bs d).size, d[0]? = some (bs d)[0] := fun h => by
    rw [List.getElem?_eq_getElem (by omega), byte_at d 0 (by omega) h]
    rfl
  have HL : Hid ((bs d).size = d.length) := hsz
  have HZ := Lib.hid hz0
  have hs : (bs d).size ≤ 100000 := by omega
  clear hsz hz hz0
  generalize bs d = s at *
  go_enter Tryz.func107, Tryz.ntmps107
  go_wp2
  go_loop [3] (fun i => ∃ k : Nat, k ≤ s.size ∧ i = .int .i64 k ∧ Hid (∀ j (_ : j < k) (h : j < s.size), dgB s[j] = true)) (fun i => s.size - (intOf i).toNat)
  case atStart => exact ⟨0, Nat.zero_le _, rfl, fun j h => absurd h (Nat.not_lt_zero j)⟩
  case round =>
    obtain ⟨k, hk, rfl, hp⟩ := hrel
    by_cases hlt : k < s.size
    · have y1 : (k : Int) < (s.size : Int) := by omega
      have y3 : IntKind.i64.wrap ((k : Int) + 1) = (k : Int) + 1 := IntWalk.i64_in _ (by omega)
      have HDk := Lib.hid (HD.out k hlt)
      cases hdg : dgB s[k]
      · have HF : Hid (false = isNu d) := (HBAD.out k hlt hdg).symm
        rw [hdg] at HDk
        clear hdg
        go_wp2_with fail
        refine (HDk.out _).mono ?_
        rintro e w' ⟨rfl, rfl⟩
        go_wp2
        go_ret
        exact HP.out _ _ HF.out
      · have HN : Hid (∀ j (_ : j < k + 1) (h : j < s.size), dgB s[j] = true) := fun j hj h => by
          by_cases hjk : j = k
          · subst hjk
            exact hdg
          · exact hp.out j (by omega) h
        rw [hdg] at HDk
        clear hdg
        go_wp2_with fail
        refine (HDk.out _).mono ?_
        rintro e w' ⟨rfl, rfl⟩
        go_wp2
        go_round
        case rel => exact ⟨k + 1, hlt, by first | rfl | go_num, HN⟩
        case measure => simp [intOf]; omega
    · have y1 : (s.size : Int) ≤ (k : Int) := by omega
      have HA : Hid (∀ v : Bool, v = (decide (1 ≤ d.length) && decide (d.length ≤ 15) && (decide (d.length = 1) || decide (d[0]? ≠ some 48))) → v = isNu d) := HALL.out fun j h => hp.out j (by omega) h
      by_cases h0 : s.size = 0
      · have HF : Hid (false = isNu d) := HA.out _ (by rw [← HL.out, h0]; rfl)
        have hw0 : (decide (1 ≤ (s.size : Int)) && decide ((s.size : Int) ≤ 15)) = false := by rw [h0]; rfl
        rw [hw0] at HW
        clear hw0 h0
        go_wp2_with fail
        refine (HW.out _).mono ?_
        rintro e w' ⟨rfl, rfl⟩
        go_wp2
        go_ret
        exact HP.out _ _ HF.out
      have hpos : 0 < s.size := by omega
      by_cases h15 : 15 < s.size
      · have HF : Hid (false = isNu d) := HA.out _ (by rw [← HL.out]; simp; omega)
        have hw0 : (decide (1 ≤ (s.size : Int)) && decide ((s.size : Int) ≤ 15)) = false := by simp; omega
        rw [hw0] at HW
        clear hw0 h15
        go_wp2_with fail
        refine (HW.out _).mono ?_
        rintro e w' ⟨rfl, rfl⟩
        go_wp2
        go_ret
        exact HP.out _ _ HF.out
      have hw0 : (decide (1 ≤ (s.size : Int)) && decide ((s.size : Int) ≤ 15)) = true := by simp; omega
      rw [hw0] at HW
      by_cases hz : s[0] = 48
      · obtain ⟨f1, f2⟩ := byte_is (b := s[0]) (n := 48) (by rw [hz]; rfl)
        by_cases h1 : s.size = 1
        · have HF : Hid (true = isNu d) := HA.out _ (by rw [← HL.out, h1]; rfl)
          have f3 : ((s.size : Int) == 1) = true := by rw [h1]; rfl
          clear hw0 h15 hz h1
          go_wp2_with fail
          refine (HW.out _).mono ?_
          rintro e w' ⟨rfl, rfl⟩
          go_wp2
          go_ret
          exact HP.out _ _ HF.out
        · have HF : Hid (false = isNu d) := HA.out _ (by rw [← HL.out, HZ.out hpos, hz]; simp [h1])
          have f3 : ((s.size : Int) == 1) = false := by rw [beq_eq_false_iff_ne]; omega
          clear hw0 h15 hz h1
          go_wp2_with fail
          refine (HW.out _).mono ?_
          rintro e w' ⟨rfl, rfl⟩
          go_wp2
          go_ret
          exact HP.out _ _ HF.out
      · obtain ⟨f1, f2⟩ := byte_no (b := s[0]) (n := 48) (byte_off hz)
        have HF : Hid (true = isNu d) := HA.out _ (by
          rw [← HL.out, HZ.out hpos]
          have h1 : 1 ≤ s.size := hpos
          have h2 : s.size ≤ 15 := by omega
          simp [h1, h2, hz])
        clear hw0 h15 hz
        go_wp2_with fail
        refine (HW.out _).mono ?_
        rintro e w' ⟨rfl, rfl⟩
        go_wp2
        go_ret
        exact HP.out _ _ HF.out

end Go.Proofs.YtaocbhfehncdcaaGreatDoor
