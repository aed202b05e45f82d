/-
  end of the program's heap. Conditions: at most 100 cells; a heap's size (phi) below 2^20.
-/
import Derived.Test.YtpedaompcjaahaaHy
namespace Go.Proofs.Ytpedaompcjaahaa
open Go.RowKit

/-- The sixteen places of a cell's fields. -/
theorem fields_at {cs : List Cl} {ct : Nat → Int} {w : World} {g i : Nat} (hi : i < cs.length) (hcell : ∀ i j, i < cs.length → j < 22 → w.cell? ⟨g, i * 22 + j, none⟩ = some (pcv cs ct i j)) (k : Nat) (hk : k < 8) :
    w.cell? ⟨g, i * 22 + k * 2, none⟩ = some (.int .i64 ((fd cs i k).1 : Nat)) ∧ w.cell? ⟨g, i * 22 + k * 2 + 1, none⟩ = some (.int .i64 ((fd cs i k).2 : Nat)) := by
  rw [hcell i (k * 2) hi (by omega), pcv_kind _ _ _ _ hk, Nat.add_assoc, hcell i (k * 2 + 1) hi (by omega), pcv_to _ _ _ _ hk]
  exact ⟨rfl, rfl⟩
theorem wkRow_zero (n : Nat) (cs : List Cl) (i : Nat) : wkRow n cs i 0 = cs := rfl
theorem wkAll_zero (n : Nat) (cs : List Cl) : wkAll n cs 0 = cs := rfl
/-- A field out of the copy of a cell's fields. -/
theorem index_at (A : Array Value) (hA : A.size = 16) (m : Nat) (hm : m < 8) (w : World) (x y : Value) (hx : A[m * 2]? = some x) (hy : A[m * 2 + 1]? = some y) : (Instr.index 83 (.agg A) (.int .i64 (m : Nat))).run Try.prog w = .ok (.agg #[x, y]) w := by
  simp [Instr.index, run_underlying Try.underlying83, asIntOf, go_sem]
  rw [if_pos hm]
  have h1 : A.extract (m * 2) (m * 2 + 2) = #[x, y] := by
    apply Array.ext
    · simp
      omega
    · intro i h1 h2
      have h3 : i = 0 ∨ i = 1 := by
        simp at h2
        omega
      have h4 : m * 2 < A.size := by omega
      have h5 : m * 2 + 1 < A.size := by omega
      rw [Array.getElem?_eq_getElem h4] at hx
      rw [Array.getElem?_eq_getElem h5] at hy
      rcases h3 with rfl | rfl
      · simpa using Option.some.inj hx
      · simpa using Option.some.inj hy
  rw [h1]
theorem index_fd (cs1 : List Cl) (k m : Nat) (hm : m < 8) (w : World) : (Instr.index 83 (.agg #[.int .i64 ((fd cs1 k 0).1 : Nat), .int .i64 ((fd cs1 k 0).2 : Nat), .int .i64 ((fd cs1 k 1).1 : Nat), .int .i64 ((fd cs1 k 1).2 : Nat), .int .i64 ((fd cs1 k 2).1 : Nat), .int .i64 ((fd cs1 k 2).2 : Nat), .int .i64 ((fd cs1 k 3).1 : Nat), .int .i64 ((fd cs1 k 3).2 : Nat), .int .i64 ((fd cs1 k 4).1 : Nat), .int .i64 ((fd cs1 k 4).2 : Nat), .int .i64 ((fd cs1 k 5).1 : Nat), .int .i64 ((fd cs1 k 5).2 : Nat), .int .i64 ((fd cs1 k 6).1 : Nat), .int .i64 ((fd cs1 k 6).2 : Nat), .int .i64 ((fd cs1 k 7).1 : Nat), .int .i64 ((fd cs1 k 7).2 : Nat)]) (.int .i64 (m : Nat))).run Try.prog w = .ok (.agg #[.int .i64 ((fd cs1 k m).1 : Nat), .int .i64 ((fd cs1 k m).2 : Nat)]) w := by
  refine index_at _ rfl m hm w _ _ ?_ ?_
  all_goals
    have h8 : m = 0 ∨ m = 1 ∨ m = 2 ∨ m = 3 ∨ m = 4 ∨ m = 5 ∨ m = 6 ∨ m = 7 := by omega
    rcases h8 with rfl | rfl | rfl | rfl | rfl | rfl | rfl | rfl <;> rfl
theorem St.block {S : Nat → Prop} {b : Nat} {s1 s2 : Int} {cs : List Cl} {ct : Nat → Int} {ns : List Nat} {w : World} (h : St S b s1 s2 cs ct ns w) {g n cap : Nat} (h4 : w.cell? ⟨b, 4, none⟩ = some (.slice (some ⟨g, 0, none⟩) n cap)) : ∃ cur, w.heap[g]? = some (.cells cur 85 (0, 0)) := by
  obtain ⟨_, vc, vn, h1, ⟨xs, r1, _⟩, _⟩ := h
  have : w.cell? ⟨b, 4, none⟩ = some vc := by simp [World.cell?, h1]
  rw [this] at h4
  have e := Option.some.inj h4
  subst e
  exact row_type r1 rfl
/-- The block of the weak reference that is sought. -/
def Wb (wb n : Nat) (w : World) : Prop := w.heap[wb]? = some (.cells #[.int .i64 2, .int .i64 (n : Nat)] 82 (0, 0))

set_option maxRecDepth 100000 in
set_option maxHeartbeats 4000000 in
theorem end_hp (S : Nat → Prop) (b : Nat) (s1 s2 : Int) (h : Hp) (n : Nat) (w : World) (hs : SH S b s1 s2 h w) (H : Good h) (hn : n < h.cs.length) (h0 : cnt h.cs n = 0) (hp : phi h ≤ 1000000) :
    Calls Try.prog 79 #[.pointer (some ⟨b, 4, none⟩), .int .i64 (n : Int)] w (HtP S b s1 s2 (endF h n) w) := by
  have few := H.few
  obtain ⟨g, cap, h4, hS, hgb, hlt, hcell, hfz⟩ := hs.cell hn
  obtain ⟨_, _, _, _, _, _, hfb, hbl, _⟩ := hs.open
  have hen : w.cell? ⟨g, n * 22 + 19, none⟩ = some (.bool (cl h.cs n).en) := hcell n 19 hn (by decide)
  have a1 := hs.store (cs' := setE h.cs n) (ct' := cn h.cs) h4 (n := n) (k := 19) (u := .bool true) (by decide) (setE_length _ _) (fun i j _ _ => pcv_setE h.cs (cn h.cs) n hn i j)
  have k1 : Kp S w (w.setCell ⟨g, n * 22 + 19, none⟩ (.bool true)) := (Kp.refl S w).set (Or.inl hS) _
  have hsz : (setE h.cs n).length = h.cs.length := setE_length _ _
  have hne1 : ¬ g = b := hgb
  have hne2 : ¬ b = g := fun e => hgb e.symm
  have hK := Lib.hid k1
  have hA : Hid (St S b s1 s2 (setE h.cs n) (cn h.cs) h.ns ((w.setCell ⟨g, n * 22 + 19, none⟩ (.bool true)).alloc (.cells #[.int .i64 2, .int .i64 (n : Nat)] 82))) := a1.move fun g a c => ⟨Below.heap_alloc _ _ g c, a⟩
  have hK2 : Hid (Kp S w ((w.setCell ⟨g, n * 22 + 19, none⟩ (.bool true)).alloc (.cells #[.int .i64 2, .int .i64 (n : Nat)] 82))) := k1.alloc _
  have hWb : Hid (Wb w.heap.size n ((w.setCell ⟨g, n * 22 + 19, none⟩ (.bool true)).alloc (.cells #[.int .i64 2, .int .i64 (n : Nat)] 82))) := by
    have := heap_alloc_new (w.setCell ⟨g, n * 22 + 19, none⟩ (.bool true)) (.cells #[.int .i64 2, .int .i64 (n : Nat)] 82)
    rw [World.size_setCell] at this
    exact this
  have hnb : ¬ w.heap.size = b := by omega
  have hnb2 : ¬ b = w.heap.size := by omega
  clear hcell a1 k1 hK hs
  go_enter Try.func79, Try.ntmps79
  go_wp2
  generalize hW1 : (w.setCell ⟨g, n * 22 + 19, none⟩ (.bool true)).alloc (.cells #[.int .i64 2, .int .i64 (n : Nat)] 82) = w1 at *
  have hlenA : Hid (∀ k, (wkAll n (setE h.cs n) k).length = h.cs.length) := fun k => ((wk_all n (setE h.cs n) k).len).trans hsz
  go_loopw [23] (fun iv wr => ∃ k : Nat, k ≤ h.cs.length ∧ iv = .int .i64 k ∧ Hid (St S b s1 s2 (wkAll n (setE h.cs n) k) (cn h.cs) h.ns wr) ∧ Hid (Kp S w wr) ∧ Hid (Wb w.heap.size n wr)) (fun iv _ => h.cs.length - (intOf iv).toNat)
  case atStart => exact ⟨0, Nat.zero_le _, rfl, by rw [wkAll_zero]; exact hA, hK2, hWb⟩
  case round =>
    clear hA hK2 hWb hW1 hen h4 hlt hfz hgb hS
    obtain ⟨k, hk, rfl, hA', hK', hW'⟩ := hrel
    have hlA := hlenA.out k
    have hnext := wkAll_succ n (setE h.cs n) k
    by_cases hlt : k < h.cs.length
    · generalize hcs : wkAll n (setE h.cs n) k = cs1 at *
      replace hcs := Lib.hid hcs
      replace hnext := Lib.hid hnext
      obtain ⟨g', cap', h4', hS', hgb', hlt', hcell', hfz'⟩ := hA'.out.cell (n := k) (by rw [hlA]; exact hlt)
      have hff := fields_at (cs := cs1) (i := k) (by rw [hlA]; exact hlt) hcell'
      have f0 := hff 0 (by decide)
      have f1 := hff 1 (by decide)
      have f2 := hff 2 (by decide)
      have f3 := hff 3 (by decide)
      have f4 := hff 4 (by decide)
      have f5 := hff 5 (by decide)
      have f6 := hff 6 (by decide)
      have f7 := hff 7 (by decide)
      simp only [Nat.zero_mul, Nat.add_zero, Nat.one_mul, Nat.reduceMul, Nat.add_assoc, Nat.reduceAdd] at f0 f1 f2 f3 f4 f5 f6 f7
      rw [hlA] at h4'
      clear hcell' hff
      have hlt2 : k < cs1.length := by rw [hlA]; exact hlt
      go_wp2
      go_loopw [34] (fun iv wq => ∃ m : Nat, m ≤ 8 ∧ iv = .int .i64 m ∧ Hid (St S b s1 s2 (wkRow n cs1 k m) (cn h.cs) h.ns wq) ∧ Hid (Kp S w wq) ∧ Hid (Wb w.heap.size n wq)) (fun iv _ => 8 - (intOf iv).toNat)
      case atStart => exact ⟨0, Nat.zero_le _, rfl, by rw [wkRow_zero]; exact hA', hK', hW'⟩
      case round =>
        clear f0 f1 f2 f3 f4 f5 f6 f7 hA' hK' hW' hS' hgb' hlt' hfz' h4'
        obtain ⟨m, hm, rfl, hA', hK', hW'⟩ := hrel
        by_cases hm8 : m < 8
        · have hlR : (wkRow n cs1 k m).length = h.cs.length := ((wk_row n cs1 k m).len).trans hlA
          obtain ⟨g', cap', h4', hS', hgb', hlt', hcell', hfz'⟩ := hA'.out.cell (n := k) (by rw [hlR]; exact hlt)
          rw [hlR] at h4'
          have hwb0 : wr.cell? ⟨w.heap.size, 0, none⟩ = some (.int .i64 2) := by
            rw [cell_of_row _ _ _ _ _ _ hW'.out]
            rfl
          have hwb1 : wr.cell? ⟨w.heap.size, 1, none⟩ = some (.int .i64 (n : Nat)) := by
            rw [cell_of_row _ _ _ _ _ _ hW'.out]
            rfl
          have hwlt : w.heap.size < wr.heap.size := (Array.getElem?_eq_some_iff.1 hW'.out).1
          have hI := fun w => index_fd cs1 k m hm8 w
          have hfq : fd (wkRow n cs1 k m) k m = fd cs1 k m := wkRow_later n cs1 k m m (Nat.le_refl _)
          have hfields := fields_at (cs := wkRow n cs1 k m) (i := k) (by rw [hlR]; exact hlt) hcell' m hm8
          rw [hfq] at hfields
          obtain ⟨e1, e2⟩ := hfields
          have hnext2 := wkRow_succ n cs1 k m
          rw [wkStep_eq, hfq] at hnext2
          clear hcell'
          generalize fd cs1 k m = q at *
          have hbr : b < wr.heap.size := by
            obtain ⟨_, _, _, _, _, _, _, x, _⟩ := hA'.out.open
            exact x
          have n1 : ¬ b = wr.heap.size := by omega
          have n2 : ¬ wr.heap.size = b := by omega
          have n3 : ¬ g' = wr.heap.size := by omega
          have n4 : ¬ wr.heap.size = g' := by omega
          have n5 : ¬ w.heap.size = wr.heap.size := by omega
          have n6 : ¬ wr.heap.size = w.heap.size := by omega
          have n7 : ¬ g' = b := hgb'
          have n8 : ¬ b = g' := fun e => hgb' e.symm
          have hm8i : ((m : Nat) : Int) < 8 := by omega
          by_cases hq : q = (2, n)
          · have hq1 : (((q.1 : Nat) : Int) == 2) = true := by rw [hq]; rfl
            have hq2 : (((q.2 : Nat) : Int) == ((n : Nat) : Int)) = true := by
              rw [hq]
              exact beq_self_eq_true _
            have hin := fd_in (cs := wkRow n cs1 k m) (i := k) (k := m) (by rw [hfq, hq]; simp)
            rw [if_pos hq] at hnext2
            have HA : Hid (St S b s1 s2 (wkRow n cs1 k (m + 1)) (cn h.cs) h.ns (((wr.setCell ⟨g', k * 22 + m * 2, none⟩ (.int .i64 0)).setCell ⟨g', k * 22 + m * 2 + 1, none⟩ (.int .i64 0)).alloc (.cells #[.int .i64 2, .int .i64 (n : Nat)] 82))) := by
              show St _ _ _ _ _ _ _ _
              rw [hnext2]
              exact (hA'.out.storeF (by rw [hlR]; exact h4') hgb' hin.1 hin.2 hm8 (0, 0)).move fun g a c => ⟨Below.heap_alloc _ _ g c, a⟩
            have HK : Hid (Kp S w (((wr.setCell ⟨g', k * 22 + m * 2, none⟩ (.int .i64 0)).setCell ⟨g', k * 22 + m * 2 + 1, none⟩ (.int .i64 0)).alloc (.cells #[.int .i64 2, .int .i64 (n : Nat)] 82))) := ((hK'.out.set (Or.inl hS') _).set (Or.inl hS') _).alloc _
            have HW : Hid (Wb w.heap.size n (((wr.setCell ⟨g', k * 22 + m * 2, none⟩ (.int .i64 0)).setCell ⟨g', k * 22 + m * 2 + 1, none⟩ (.int .i64 0)).alloc (.cells #[.int .i64 2, .int .i64 (n : Nat)] 82))) := by
              obtain ⟨cur, hcur⟩ := hA'.out.block h4'
              have hne := blocks_ne hcur hW'.out (by decide)
              show _ = _
              rw [Below.heap_alloc _ _ _ (by rw [World.size_setCell, World.size_setCell]; exact hwlt), Below.heap_setCell _ _ _ _ hne.symm, Below.heap_setCell _ _ _ _ hne.symm]
              exact hW'.out
            clear hnext2 hin hA' hK' hW'
            go_wp2
            go_roundw
            case rel => exact ⟨m + 1, by omega, rfl, HA, HK, HW⟩
            case measure => simp [intOf]; omega
          · rw [if_neg hq] at hnext2
            have HA : Hid (St S b s1 s2 (wkRow n cs1 k (m + 1)) (cn h.cs) h.ns (wr.alloc (.cells #[.int .i64 (q.1 : Nat), .int .i64 (q.2 : Nat)] 82))) := by
              show St _ _ _ _ _ _ _ _
              rw [hnext2]
              exact hA'.out.move fun g a c => ⟨Below.heap_alloc _ _ g c, a⟩
            have HK : Hid (Kp S w (wr.alloc (.cells #[.int .i64 (q.1 : Nat), .int .i64 (q.2 : Nat)] 82))) := hK'.out.alloc _
            have HW : Hid (Wb w.heap.size n (wr.alloc (.cells #[.int .i64 (q.1 : Nat), .int .i64 (q.2 : Nat)] 82))) := by
              show _ = _
              rw [Below.heap_alloc _ _ _ hwlt]
              exact hW'.out
            clear hnext2 hA' hK' hW'
            by_cases h1 : q.1 = 2
            · have hq1 : (((q.1 : Nat) : Int) == 2) = true := by rw [h1]; rfl
              have hq2 : (((q.2 : Nat) : Int) == ((n : Nat) : Int)) = false := by
                rw [beq_eq_false_iff_ne]
                intro e
                exact hq (Prod.ext h1 (by omega))
              clear hq h1
              go_wp2
              go_roundw
              case rel => exact ⟨m + 1, by omega, rfl, HA, HK, HW⟩
              case measure => simp [intOf]; omega
            · have hq1 : (((q.1 : Nat) : Int) == 2) = false := by
                rw [beq_eq_false_iff_ne]
                omega
              clear hq h1
              go_wp2
              go_roundw
              case rel => exact ⟨m + 1, by omega, rfl, HA, HK, HW⟩
              case measure => simp [intOf]; omega
        · have hm8' : m = 8 := by omega
          subst hm8'
          have HA : Hid (St S b s1 s2 (wkAll n (setE h.cs n) (k + 1)) (cn h.cs) h.ns wr) := by
            show St _ _ _ _ _ _ _ _
            rw [hnext.out]
            exact hA'.out
          have hw1 : IntKind.wrap .i64 (((k : Nat) : Int) + 1) = ((k : Nat) : Int) + 1 := wrap_ok (by omega) (by omega)
          clear hA'
          go_wp2
          go_roundw
          case rel => exact ⟨k + 1, by omega, rfl, HA, hK', hW'⟩
          case measure => simp [intOf]; omega
    · have hk' : k = h.cs.length := by omega
      subst hk'
      have hB := end_base hn
      have hA2 : Hid (SH S b s1 s2 (endBase h n) wr) := by
        refine St.count (ct := cn h.cs) hA'.out fun i _ => ?_
        show ((cnt (endBase h n).cs i : Nat) : Int) = ((cnt h.cs i : Nat) : Int)
        rw [hB.2.2.2.2]
      obtain ⟨g', cap', h4', hS', hgb', hlt', hcell', hfz'⟩ := hA2.out.cell (n := n) (by rw [hB.2.2.1]; exact hn)
      have hL : wr.cell? ⟨g', n * 22 + 16, none⟩ = some (.int .i64 (((cl h.cs n).fs.length : Nat) : Int)) := by
        rw [hcell' n 16 (by rw [hB.2.2.1]; exact hn) (by decide)]
        show some (Value.int .i64 (((cl (endBase h n).cs n).fs.length : Nat) : Int)) = _
        rw [(hB.2.2.2.1 n).1]
      rw [hB.2.2.1] at h4'
      have hEA := Lib.hid (fun m hm => empty_all (endBase h n) n (by rw [hB.2.2.1]; exact hn) m (by rw [(hB.2.2.2.1 n).1]; exact hm))
      have hGB := Lib.hid (hB.1 h0 H)
      have hL8 := H.wide n
      have hF : Hid (endF h n = emptyAll (endBase h n) n (cl h.cs n).fs.length) := endF_eq h n
      have hlb := hB.2.2.1
      have hpb := hB.2.1
      have hwide := (hB.2.2.2.1 n).1
      clear hB hA' hcell' hnext hlA hW'
      generalize endF h n = hE at *
      generalize (cl h.cs n).fs.length = L at *
      go_wp2
      go_loopw [61] (fun iv wr => ∃ m : Nat, m ≤ L ∧ iv = .int .i64 m ∧ Hid (SH (New S w.heap.size) b s1 s2 (emptyAll (endBase h n) n m) wr) ∧ Hid (Kp S w wr)) (fun iv _ => L - (intOf iv).toNat)
      case atStart => exact ⟨0, Nat.zero_le _, rfl, St.wide hA2.out (fun g a _ => Or.inl a), hK'⟩
      case round =>
        clear hA2 hK' h4' hL hS' hgb' hlt' hfz'
        obtain ⟨m, hm, rfl, hA', hK'⟩ := hrel
        by_cases hmL : m < L
        · have hea := hEA.out m hm
          have hm1 := emptyAll_succ (endBase h n) n m
          have hEm := empty_hp (New S w.heap.size) b s1 s2 (emptyAll (endBase h n) n m) n m wr hA'.out (hea.1 hGB.out) (by rw [hea.2.2.1, hlb]; exact hn) (by rw [(hea.2.2.2 n).1, hwide]; exact hmL) (by omega)
          rw [← hm1] at hEm
          replace hm1 := Lib.hid hm1
          have hw1 : IntKind.wrap .i64 (((m : Nat) : Int) + 1) = ((m : Nat) : Int) + 1 := wrap_ok (by omega) (by omega)
          clear hea
          go_wp2_with fail
          refine hEm.mono ?_
          rintro e w' ⟨rfl, q1, q2⟩
          have HA : Hid (SH (New S w.heap.size) b s1 s2 (emptyAll (endBase h n) n (m + 1)) w') := St.wide q1 (fun g a _ => a.elim id fun a => Or.inr (Nat.le_trans hK'.out.size a))
          have HK : Hid (Kp S w w') := hK'.out.then q2
          clear q1 q2 hEm
          go_wp2
          go_roundw
          case rel => exact ⟨m + 1, by omega, rfl, HA, HK⟩
          case measure => simp [intOf]; omega
        · have hmL' : m = L := by omega
          subst hmL'
          go_wp2
          go_end0
          refine ⟨rfl, ?_, hK'.out⟩
          rw [hF.out]
          exact hA'.out

end Go.Proofs.Ytpedaompcjaahaa
