/-
  counted, there, field of the document's heap. Conditions: counts below 2^20.
-/
import Derived.Test.YtpedaompcjaahaaRa
namespace Go.Proofs.Ytpedaompcjaahaa
open Go.RowKit

def sumTo (cs : List Cl) (n k : Nat) : Nat := ((cs.take k).map (strong n)).sum
def cntTo (fs : List (Nat × Nat)) (n m : Nat) : Nat := (fs.take m).countP (fun x => x == (1, n))
theorem cl_get (cs : List Cl) (k : Nat) (h : k < cs.length) : cl cs k = cs[k] := by
  unfold cl
  rw [List.getElem?_eq_getElem h]
  rfl
theorem sumTo_succ (cs : List Cl) (n k : Nat) (h : k < cs.length) : sumTo cs n (k + 1) = sumTo cs n k + strong n (cl cs k) := by
  unfold sumTo
  rw [List.take_succ_eq_append_getElem h, List.map_append, List.sum_append, cl_get cs k h]
  simp
theorem sumTo_all (cs : List Cl) (n : Nat) : sumTo cs n cs.length = (cs.map (strong n)).sum := by
  unfold sumTo
  rw [List.take_length]
theorem cntTo_succ (cs : List Cl) (i n m : Nat) (h : m < (cl cs i).fs.length) : cntTo (cl cs i).fs n (m + 1) = cntTo (cl cs i).fs n m + if fd cs i m = (1, n) then 1 else 0 := by
  unfold cntTo
  rw [List.take_succ_eq_append_getElem h, List.countP_append]
  have : fd cs i m = (cl cs i).fs[m] := by
    unfold fd
    rw [List.getElem?_eq_getElem h]
    rfl
  rw [this]
  simp [List.countP_cons]
theorem cntTo_all (cs : List Cl) (i n : Nat) : cntTo (cl cs i).fs n (cl cs i).fs.length = strong n (cl cs i) := by
  unfold cntTo strong
  rw [List.take_length]
theorem cntTo_le (fs : List (Nat × Nat)) (n m : Nat) : cntTo fs n m ≤ fs.countP (fun x => x == (1, n)) := by
  unfold cntTo
  exact List.Sublist.countP_le (List.take_sublist m fs)
theorem sumTo_le (cs : List Cl) (n k : Nat) (h : k < cs.length) : (cl cs n).rt + sumTo cs n k + strong n (cl cs k) ≤ cnt cs n := by
  rw [Nat.add_assoc, ← sumTo_succ cs n k h]
  unfold cnt sumTo
  have : ((cs.take (k + 1)).map (strong n)).sum ≤ (cs.map (strong n)).sum := by
    have e : cs = cs.take (k + 1) ++ cs.drop (k + 1) := (List.take_append_drop (k + 1) cs).symm
    conv => rhs; rw [e, List.map_append, List.sum_append]
    exact Nat.le_add_right _ _
  omega

set_option maxRecDepth 100000 in
set_option maxHeartbeats 4000000 in
theorem counted_any (S : Nat → Prop) (r : Nat) (cs : List Cl) (ns : List Nat) (n : Nat) (w : World) (hs : RS S r cs ns w) (hn : n < cs.length) (hk : ∀ i k, (fd cs i k).1 ≤ 2) (h0 : (cl cs n).en = true → cnt cs n = 0) (hc : cnt cs n ≤ 1000000) (few : cs.length ≤ 100) (wide : ∀ i, (cl cs i).fs.length ≤ 8) :
    Calls Try.prog 75 #[.pointer (some ⟨r, 0, none⟩), .int .i64 (n : Int)] w fun e w' => e = .returned (.int .i64 ((cnt cs n : Nat) : Int)) ∧ Below w.heap.size w w' := by
  obtain ⟨vc, vn, fv, hI⟩ := id hs
  obtain ⟨g, cap, rfl, hS, hgr, hgl, hcell, hfz⟩ := hI.cell hn
  have c0 := hI.open.1
  have hen : w.cell? ⟨g, n * 5 + 3, none⟩ = some (.bool (cl cs n).en) := hcell n 3 hn (by decide)
  have hrt : w.cell? ⟨g, n * 5 + 4, none⟩ = some (.int .i64 (((cl cs n).rt : Nat) : Int)) := hcell n 4 hn (by decide)
  by_cases he : (cl cs n).en = true
  · rw [h0 he]
    rw [he] at hen
    clear hcell hI hs
    go_enter Try.func75, Try.ntmps75
    go_wp2
    go_ret
    exact ⟨rfl, Below.refl _ _⟩
  · have he2 : (cl cs n).en = false := by
      cases e : (cl cs n).en
      · rfl
      · exact absurd e he
    rw [he2] at hen
    have HS := Lib.hid hs
    have HB := Lib.hid (Below.refl w.heap.size w)
    have hall := sumTo_all cs n
    have hcd : cnt cs n = (cl cs n).rt + (cs.map (strong n)).sum := rfl
    have hz0 : sumTo cs n 0 = 0 := rfl
    have hle := fun k h => sumTo_le cs n k h
    have HSU := Lib.hid (fun k h => sumTo_succ cs n k h)
    have HCU := Lib.hid (fun i m h => cntTo_succ cs i n m h)
    have HCA := Lib.hid (fun i => cntTo_all cs i n)
    have HCL := Lib.hid (fun i m => cntTo_le (cl cs i).fs n m)
    have HLE := Lib.hid hle
    have HEnd : Hid ((cl cs n).rt + sumTo cs n cs.length = cnt cs n) := by
      show _ = _
      rw [hall, hcd]
    have HC := Lib.hid hc
    have HK := Lib.hid hk
    have HZ := Lib.hid hz0
    clear hcell hI hs hle hall hcd hk hc hz0 h0 he he2
    generalize (cl cs n).rt = rt at *
    go_enter Try.func75, Try.ntmps75
    go_wp2
    go_loopw [5, 6] (fun cv iv wr => ∃ k : Nat, k ≤ cs.length ∧ iv = .int .i64 k ∧ cv = .int .i64 ((rt + sumTo cs n k : Nat) : Int) ∧ Hid (Below w.heap.size w wr)) (fun _ iv _ => cs.length - (intOf iv).toNat)
    case atStart => exact ⟨0, Nat.zero_le _, rfl, by rw [HZ.out]; rfl, HB⟩
    case round =>
      clear hen hrt c0 hfz hgl hgr hS
      obtain ⟨k, hk, rfl, rfl, hb⟩ := hrel
      obtain ⟨vc, vn, fv, hI⟩ := HS.out.low hb.out
      obtain ⟨g, cap, rfl, hS, hgr, hgl, hcell, hfz⟩ := hI.cell hn
      have c0 := hI.open.1
      by_cases hlt : k < cs.length
      · have hfk : wr.cell? ⟨g, k * 5, none⟩ = some (fv k) := hcell k 0 hlt (by decide)
        have hle := HLE.out k hlt
        have hce := HC.out
        have hsu := HSU.out k hlt
        have hcl := HCA.out k
        obtain ⟨ao, capf, hfv, hff⟩ := hI.field hlt
        have hL := wide k
        rw [hfv] at hfk
        clear hcell hI hff hfv
        have HN : Hid (rt + sumTo cs n k + strong n (cl cs k) = rt + sumTo cs n (k + 1)) := by
          show _ = _
          omega
        have HC0 : Hid (cntTo (cl cs k).fs n 0 = 0) := rfl
        have HCk := Lib.hid hcl
        have HB2 : Hid (rt + sumTo cs n k + strong n (cl cs k) ≤ 1000000) := by show _ ≤ _; omega
        have hbs := Lib.hid (Nat.le_refl k)
        clear hcl hsu hle hce
        generalize hLe : (cl cs k).fs.length = L at *
        generalize sumTo cs n k = s at *
        go_wp2
        go_loopw [5, 7] (fun cv iv wr => ∃ m : Nat, m ≤ L ∧ iv = .int .i64 m ∧ cv = .int .i64 ((rt + s + cntTo (cl cs k).fs n m : Nat) : Int) ∧ Hid (Below w.heap.size w wr)) (fun _ iv _ => L - (intOf iv).toNat)
        case atStart => exact ⟨0, Nat.zero_le _, rfl, by rw [HC0.out]; rfl, hb⟩
        case round =>
          clear hfk c0 hfz hgl hgr hS hb
          obtain ⟨m, hm, rfl, rfl, hb⟩ := hrel
          obtain ⟨vc, vn, fv, hI⟩ := HS.out.low hb.out
          obtain ⟨g, cap, rfl, hS, hgr, hgl, hcell, hfz⟩ := hI.cell hn
          have c0 := hI.open.1
          have hfk : wr.cell? ⟨g, k * 5, none⟩ = some (fv k) := hcell k 0 hlt (by decide)
          obtain ⟨ao, capf, hfv, hff⟩ := hI.field hlt
          rw [hLe] at hfv hff
          rw [hfv] at hfk
          by_cases hmL : m < L
          · obtain ⟨gf, rfl, _, _, hgfl, _, hfc, _⟩ := hff (by omega)
            obtain ⟨f0, f1, f2⟩ := hfc m hmL
            have hkq := HK.out k m
            have hcs := HCU.out k m (by rw [hLe]; exact hmL)
            have hcl := HCL.out k (m + 1)
            have hcb := HB2.out
            have hst : strong n (cl cs k) = (cl cs k).fs.countP (fun x => x == (1, n)) := rfl
            have n1 : ¬ gf = wr.heap.size := by omega
            have hbnd : rt + s + cntTo (cl cs k).fs n (m + 1) ≤ 1000000 := by omega
            have hw1 : IntKind.wrap .i64 (((m : Nat) : Int) + 1) = ((m : Nat) : Int) + 1 := wrap_ok (by omega) (by omega)
            clear hcell hI hff hfv hfc hcl hcb hst
            generalize cntTo (cl cs k).fs n m = x at *
            generalize hx' : cntTo (cl cs k).fs n (m + 1) = x' at *
            generalize fd cs k m = q at *
            have hb1 : ∀ o, Hid (Below w.heap.size w (wr.alloc o)) := fun o => hb.out.alloc hb.out.size o
            by_cases hq : q = (1, n)
            · have hw2 : IntKind.wrap .i64 ((rt : Int) + (s : Int) + (x : Int) + 1) = (rt : Int) + (s : Int) + (x' : Int) := by
                rw [if_pos hq] at hcs
                rw [wrap_ok (by omega) (by omega)]
                omega
              rw [hq] at f0 f1 f2
              clear hcs hkq hq hbnd
              go_wp2
              go_roundw
              case rel => exact ⟨m + 1, by omega, rfl, by rw [hx']; simp, hb1 _⟩
              case measure => simp [intOf]; omega
            · rw [if_neg hq] at hcs
              have hxx : Hid (x' = x) := by show _ = _; omega
              by_cases q0 : q.1 = 0
              · rw [q0] at f1 f2
                clear hcs hkq hbnd hq q0
                go_wp2
                go_roundw
                case rel => exact ⟨m + 1, by omega, rfl, by rw [hx', hxx.out], hb1 _⟩
                case measure => simp [intOf]; omega
              · by_cases q2 : q.1 = 2
                · rw [q2] at f1 f2
                  clear hcs hkq hbnd hq q0 q2
                  go_wp2
                  go_roundw
                  case rel => exact ⟨m + 1, by omega, rfl, by rw [hx', hxx.out], hb1 _⟩
                  case measure => simp [intOf]; omega
                · have q1 : q.1 = 1 := by omega
                  have qn : (((q.2 : Nat) : Int) == ((n : Nat) : Int)) = false := by
                    rw [beq_eq_false_iff_ne]
                    intro e
                    exact hq (Prod.ext q1 (by omega))
                  rw [q1] at f1 f2
                  clear hcs hkq hbnd hq q0 q2 q1
                  go_wp2
                  go_roundw
                  case rel => exact ⟨m + 1, by omega, rfl, by rw [hx', hxx.out], hb1 _⟩
                  case measure => simp [intOf]; omega
          · have hmL' : m = L := by omega
            subst hmL'
            have hw1 : IntKind.wrap .i64 (((k : Nat) : Int) + 1) = ((k : Nat) : Int) + 1 := wrap_ok (by omega) (by omega)
            have hfin : Hid (rt + s + cntTo (cl cs k).fs n m = rt + sumTo cs n (k + 1)) := by
              show _ = _
              rw [HCk.out]
              exact HN.out
            clear hcell hI hff hfv
            generalize cntTo (cl cs k).fs n m = x at *
            go_wp2
            go_roundw
            case rel => exact ⟨k + 1, by omega, rfl, by rw [hfin.out], hb⟩
            case measure => simp [intOf]; omega
      · have hk' : k = cs.length := by omega
        subst hk'
        clear hcell hI
        rw [HEnd.out]
        go_wp2
        go_ret
        exact ⟨rfl, hb.out⟩

end Go.Proofs.Ytpedaompcjaahaa
