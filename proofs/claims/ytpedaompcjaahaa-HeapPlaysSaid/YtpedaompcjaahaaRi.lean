/-
  end of the document's heap. Conditions: a heap's size (phi) below 2^20.
-/
import Derived.Test.YtpedaompcjaahaaRh
namespace Go.Proofs.Ytpedaompcjaahaa
open Go.RowKit

set_option maxRecDepth 100000 in
set_option maxHeartbeats 4000000 in
theorem rEnd_hp (S : Nat → Prop) (r : Nat) (h : Hp) (n : Nat) (w : World) (hs : RH S r h w) (H : Good h) (hn : n < h.cs.length) (h0 : cnt h.cs n = 0) (hp : phi h ≤ 1000000) :
    Calls Try.prog 76 #[.pointer (some ⟨r, 0, none⟩), .int .i64 (n : Int)] w (RoP S r (endF h n) (.tuple #[]) w) := by
  have few := H.few
  obtain ⟨vc, vn, fv, hI⟩ := id hs
  obtain ⟨g, cap, rfl, hS, hgr, hgl, hcell, hfz⟩ := hI.cell hn
  have c0 := hI.open.1
  have hen : w.cell? ⟨g, n * 5 + 3, none⟩ = some (.bool (cl h.cs n).en) := hcell n 3 hn (by decide)
  have a1 := hI.store (n := n) (k := 3) (c := { cl h.cs n with en := true }) (u := .bool true) hn (by decide) rfl (fun a b _ hj => rcv_setE h.cs fv n hn a b hj)
  have hA : Hid (RS S r (setE h.cs n) h.ns (w.setCell ⟨g, n * 5 + 3, none⟩ (.bool true))) := ⟨_, _, _, a1⟩
  have hK2 : Hid (Kp S w (w.setCell ⟨g, n * 5 + 3, none⟩ (.bool true))) := (Kp.refl S w).set (p := ⟨g, n * 5 + 3, none⟩) (Or.inl hS) _
  have hsz : (setE h.cs n).length = h.cs.length := setE_length _ _
  clear hcell a1 hI hs
  go_enter Try.func76, Try.ntmps76
  go_wp2
  generalize hW1 : w.setCell ⟨g, n * 5 + 3, none⟩ (.bool true) = w1 at *
  have hlenA : Hid (∀ k, (wkAll n (setE h.cs n) k).length = h.cs.length) := fun k => ((wk_all n (setE h.cs n) k).len).trans hsz
  have hwideA : Hid (∀ k j, (cl (wkAll n (setE h.cs n) k) j).fs.length ≤ 8) := fun k j => by
    rw [((wk_all n (setE h.cs n) k).cell j).2.2.2.2, cl_setE h.cs n j hn]
    split
    · exact H.wide n
    · exact H.wide j
  have hkindA : Hid (∀ k, Good ⟨wkAll n (setE h.cs n) k, h.ns⟩) := fun k => (wk_all n (setE h.cs n) k).good h.ns (Good.cell H hn rfl (fun _ => by have := rt_le_cnt h.cs n; show (cl h.cs n).rt = 0; omega) (fun _ a b e => by have := one_le_cnt e; omega))
  go_loopw [4] (fun iv wr => ∃ k : Nat, k ≤ h.cs.length ∧ iv = .int .i64 k ∧ Hid (RS S r (wkAll n (setE h.cs n) k) h.ns wr) ∧ Hid (Kp S w wr)) (fun iv _ => h.cs.length - (intOf iv).toNat)
  case atStart => exact ⟨0, Nat.zero_le _, rfl, by rw [wkAll_zero]; exact hA, hK2⟩
  case round =>
    clear hA hK2 hW1 hen c0 hgl hfz hgr hS
    obtain ⟨k, hk, rfl, hA', hK'⟩ := hrel
    have hlA := hlenA.out k
    have hnext := wkAll_succ n (setE h.cs n) k
    have hwi := hwideA.out k k
    have hki := hkindA.out k
    by_cases hlt : k < h.cs.length
    · generalize hcs : wkAll n (setE h.cs n) k = cs1 at *
      replace hcs := Lib.hid hcs
      replace hnext := Lib.hid hnext
      have hlt2 : k < cs1.length := by rw [hlA]; exact hlt
      have hLL : Hid (wkRow n cs1 k (cl cs1 k).fs.length = wkRow n cs1 k 8) := by
        have := wkRow_done n cs1 k (cl cs1 k).fs.length (Nat.le_refl _) (8 - (cl cs1 k).fs.length)
        rw [show (cl cs1 k).fs.length + (8 - (cl cs1 k).fs.length) = 8 by omega] at this
        exact this.symm
      obtain ⟨vc, vn, fv, hI⟩ := id hA'.out
      obtain ⟨c0, _, _, hrl, ao, cap, rfl⟩ := hI.open
      rw [hlA] at c0
      have hKd : Hid (∀ m, (fd cs1 k m).1 ≤ 2) := fun m => hki.kind k m
      clear hI hki
      generalize hLe : (cl cs1 k).fs.length = L at *
      go_wp2
      go_loopw [5] (fun iv wr => ∃ m : Nat, m ≤ L ∧ iv = .int .i64 m ∧ Hid (RS S r (wkRow n cs1 k m) h.ns wr) ∧ Hid (Kp S w wr)) (fun iv _ => L - (intOf iv).toNat)
      case atStart => exact ⟨0, Nat.zero_le _, rfl, by rw [wkRow_zero]; exact hA', hK'⟩
      case round =>
        clear c0 hA' hK' hrl
        obtain ⟨m, hm, rfl, hA', hK'⟩ := hrel
        have hwr := wk_row n cs1 k m
        have hlR : (wkRow n cs1 k m).length = h.cs.length := hwr.len.trans hlA
        have hfl : (cl (wkRow n cs1 k m) k).fs.length = L := (hwr.cell k).2.2.2.2.trans hLe
        obtain ⟨vc, vn, fv, hI⟩ := id hA'.out
        have hkl : k < (wkRow n cs1 k m).length := by rw [hlR]; exact hlt
        obtain ⟨g', cap', rfl, hS', hgr', hgl', hcell', hfz'⟩ := hI.cell hkl
        obtain ⟨c0, _, _, hrl, _⟩ := hI.open
        have hfk : wr.cell? ⟨g', k * 5, none⟩ = some (fv k) := hcell' k 0 hkl (by decide)
        obtain ⟨ao', capf, hfv, hff⟩ := hI.field hkl
        rw [hfl] at hfv hff
        rw [hfv] at hfk
        rw [hlR] at c0
        by_cases hm8 : m < L
        · obtain ⟨gf, rfl, hSf, hgfr, hgfl, hown, hfc, hffz, _⟩ := hff (by omega)
          obtain ⟨f0, f1, f2⟩ := hfc m hm8
          have hgg : g' ≠ gf := hI.fieldNe (g := g') hkl rfl hown
          have hfq : fd (wkRow n cs1 k m) k m = fd cs1 k m := wkRow_later n cs1 k m m (Nat.le_refl _)
          rw [hfq] at f0 f1 f2
          have hnext2 := wkRow_succ n cs1 k m
          rw [wkStep_eq, hfq] at hnext2
          have hkd := hKd.out m
          have hw1 : IntKind.wrap .i64 (((m : Nat) : Int) + 1) = ((m : Nat) : Int) + 1 := wrap_ok (by omega) (by omega)
          have a0 := hI.storeF hkl (by rw [hfl]; exact hm8) hown (0, 0)
          have A0 : RS S r (setF (wkRow n cs1 k m) k m (0, 0)) h.ns (((wr.setCell ⟨gf, m * 3, none⟩ (.int .i64 0)).setCell ⟨gf, m * 3 + 1, none⟩ (.bool false)).setCell ⟨gf, m * 3 + 2, none⟩ (.bool false)) := ⟨_, _, _, a0⟩
          have n1 : ¬ g' = gf := hgg
          have n2 : ¬ gf = g' := fun e => hgg e.symm
          have n3 : ¬ r = gf := fun e => hgfr e.symm
          have n4 : ¬ gf = r := hgfr
          have n5 : ¬ wr.heap.size = gf := by omega
          have n6 : ¬ gf = wr.heap.size := by omega
          have n7 : ¬ wr.heap.size = r := by omega
          have n8 : ¬ r = wr.heap.size := by omega
          have n9 : ¬ g' = wr.heap.size := by omega
          have n10 : ¬ wr.heap.size = g' := by omega
          clear hcell' hI hff hfc hfv a0 hwr hfq
          generalize fd cs1 k m = q at *
          by_cases hq : q = (2, n)
          · rw [if_pos hq] at hnext2
            have HA : Hid (∀ o, RS S r (wkRow n cs1 k (m + 1)) h.ns ((((wr.setCell ⟨gf, m * 3, none⟩ (.int .i64 0)).setCell ⟨gf, m * 3 + 1, none⟩ (.bool false)).setCell ⟨gf, m * 3 + 2, none⟩ (.bool false)).alloc o)) := fun o => by
              rw [hnext2]
              exact A0.move fun g a c => ⟨Below.heap_alloc _ _ g c, a⟩
            have HK : Hid (∀ o, Kp S w ((((wr.setCell ⟨gf, m * 3, none⟩ (.int .i64 0)).setCell ⟨gf, m * 3 + 1, none⟩ (.bool false)).setCell ⟨gf, m * 3 + 2, none⟩ (.bool false)).alloc o)) := fun o => (((hK'.out.set (p := ⟨gf, m * 3, none⟩) (Or.inl hSf) _).set (p := ⟨gf, m * 3 + 1, none⟩) (Or.inl hSf) _).set (p := ⟨gf, m * 3 + 2, none⟩) (Or.inl hSf) _).alloc o
            rw [hq] at f0 f1 f2
            clear hnext2 hA' hK' A0 hq hkd
            go_wp2
            go_roundw
            case rel => exact ⟨m + 1, by omega, rfl, HA.out _, HK.out _⟩
            case measure => simp [intOf]; omega
          · rw [if_neg hq] at hnext2
            have HA : Hid (∀ o, RS S r (wkRow n cs1 k (m + 1)) h.ns (wr.alloc o)) := fun o => by
              rw [hnext2]
              exact hA'.out.move fun g a c => ⟨Below.heap_alloc _ _ g c, a⟩
            have HK : Hid (∀ o, Kp S w (wr.alloc o)) := fun o => hK'.out.alloc o
            clear hnext2 hA' hK' A0
            by_cases q0 : q.1 = 0
            · rw [q0] at f1 f2
              clear hkd hq q0
              go_wp2
              go_roundw
              case rel => exact ⟨m + 1, by omega, rfl, HA.out _, HK.out _⟩
              case measure => simp [intOf]; omega
            · by_cases q1 : q.1 = 1
              · rw [q1] at f1 f2
                clear hkd hq q0 q1
                go_wp2
                go_roundw
                case rel => exact ⟨m + 1, by omega, rfl, HA.out _, HK.out _⟩
                case measure => simp [intOf]; omega
              · have q2 : q.1 = 2 := by omega
                have qn : (((q.2 : Nat) : Int) == ((n : Nat) : Int)) = false := by
                  rw [beq_eq_false_iff_ne]
                  intro e
                  exact hq (Prod.ext q2 (by omega))
                rw [q2] at f1 f2
                clear hkd hq q0 q1 q2
                go_wp2
                go_roundw
                case rel => exact ⟨m + 1, by omega, rfl, HA.out _, HK.out _⟩
                case measure => simp [intOf]; omega
        · have hmL : m = L := by omega
          subst hmL
          have HA : Hid (RS S r (wkAll n (setE h.cs n) (k + 1)) h.ns wr) := by
            show RS _ _ _ _ _
            rw [hnext.out, ← hLL.out]
            exact hA'.out
          have hw1 : IntKind.wrap .i64 (((k : Nat) : Int) + 1) = ((k : Nat) : Int) + 1 := wrap_ok (by omega) (by omega)
          clear hA' hI hcell' hff hfv hwr
          go_wp2
          go_roundw
          case rel => exact ⟨k + 1, by omega, rfl, HA, hK'⟩
          case measure => simp [intOf]; omega
    · have hk' : k = h.cs.length := by omega
      subst hk'
      have hB := end_base hn
      have hA2 : Hid (RH S r (endBase h n) wr) := hA'.out
      have hEA := Lib.hid (fun m hm => empty_all (endBase h n) n (by rw [hB.2.2.1]; exact hn) m (by rw [(hB.2.2.2.1 n).1]; exact hm))
      have hGB := Lib.hid (hB.1 h0 H)
      have hL8 := H.wide n
      have hF : Hid (endF h n = emptyAll (endBase h n) n (cl h.cs n).fs.length) := endF_eq h n
      have hlb := hB.2.2.1
      have hpb := hB.2.1
      have hwide := (hB.2.2.2.1 n).1
      obtain ⟨vc, vn, fv, hI⟩ := id hA'.out
      obtain ⟨c0, _, _, hrl, ao, cap, rfl⟩ := hI.open
      rw [hlA] at c0
      clear hB hA' hI hnext hlA hki hwi
      generalize endF h n = hE at *
      generalize (cl h.cs n).fs.length = L at *
      go_wp2
      go_loopw [7] (fun iv wr => ∃ m : Nat, m ≤ L ∧ iv = .int .i64 m ∧ Hid (RH (New S w.heap.size) r (emptyAll (endBase h n) n m) wr) ∧ Hid (Kp S w wr)) (fun iv _ => L - (intOf iv).toNat)
      case atStart => exact ⟨0, Nat.zero_le _, rfl, RS.wide hA2.out (fun g a _ => Or.inl a), hK'⟩
      case round =>
        clear hA2 hK' c0 hrl
        obtain ⟨m, hm, rfl, hA', hK'⟩ := hrel
        have hea := hEA.out m hm
        have hnm : n < (emptyAll (endBase h n) n m).cs.length := by rw [hea.2.2.1, hlb]; exact hn
        have hfm : (cl (emptyAll (endBase h n) n m).cs n).fs.length = L := by rw [(hea.2.2.2 n).1, hwide]
        obtain ⟨vc, vn, fv, hI⟩ := id hA'.out
        obtain ⟨g', cap', rfl, hS', hgr', hgl', hcell', hfz'⟩ := hI.cell hnm
        obtain ⟨c0, _, _, hrl, _⟩ := hI.open
        have hfk : wr.cell? ⟨g', n * 5, none⟩ = some (fv n) := hcell' n 0 hnm (by decide)
        obtain ⟨ao', capf, hfv, _⟩ := hI.field hnm
        rw [hfm] at hfv
        rw [hfv] at hfk
        rw [hea.2.2.1, hlb] at c0
        have hw1 : IntKind.wrap .i64 (((m : Nat) : Int) + 1) = ((m : Nat) : Int) + 1 := wrap_ok (by omega) (by omega)
        by_cases hmL : m < L
        · have hm1 := emptyAll_succ (endBase h n) n m
          have hEm := rEmpty_hp (New S w.heap.size) r (emptyAll (endBase h n) n m) n m wr hA'.out (hea.1 hGB.out) hnm (by rw [hfm]; exact hmL) (by omega)
          rw [← hm1] at hEm
          replace hm1 := Lib.hid hm1
          clear hea hI hcell' hfv
          go_wp2_with fail
          refine hEm.mono ?_
          rintro e w' ⟨rfl, q1, q2⟩
          have HA : Hid (RH (New S w.heap.size) r (emptyAll (endBase h n) n (m + 1)) w') := RS.wide q1 (fun g a _ => a.elim id fun a => Or.inr (Nat.le_trans hK'.out.size a))
          have HK : Hid (Kp S w w') := hK'.out.then q2
          clear q1 q2 hEm
          go_wp2
          go_roundw
          case rel => exact ⟨m + 1, by omega, rfl, HA, HK⟩
          case measure => simp [intOf]; omega
        · have hmL' : m = L := by omega
          subst hmL'
          clear hea hI hcell' hfv
          go_wp2
          go_end0
          refine ⟨rfl, ?_, hK'.out⟩
          rw [hF.out]
          exact hA'.out

end Go.Proofs.Ytpedaompcjaahaa
