/-
  root, release, drop, empty, refer of the program's heap. Conditions: counts below 2^40, few notes.
-/
import Derived.Test.YtpedaompcjaahaaHu
namespace Go.Proofs.Ytpedaompcjaahaa
open Go.RowKit

def up (ct : Nat → Int) (n : Nat) (x : Int) : Nat → Int := fun i => if i = n then x else ct i
theorem pcv_up (cs : List Cl) (ct : Nat → Int) (n : Nat) (x : Int) (i j : Nat) (hj : j < 22) : pcv cs (up ct n x) i j = if i = n ∧ j = 21 then .int .i64 x else pcv cs ct i j := by
  by_cases h : j = 21
  · subst h
    unfold pcv up
    by_cases hi : i = n
    · simp [hi]
    · simp [hi]
  · rw [if_neg (c := i = n ∧ j = 21) (fun e => h e.2)]
    unfold pcv up
    by_cases h1 : j < 16
    · rw [if_pos h1, if_pos h1]
    · rw [if_neg h1, if_neg h1]
      by_cases h2 : j = 16
      · rw [if_pos h2, if_pos h2]
      · rw [if_neg h2, if_neg h2]
        by_cases h3 : j = 17
        · rw [if_pos h3, if_pos h3]
        · rw [if_neg h3, if_neg h3]
          by_cases h4 : j = 18
          · rw [if_pos h4, if_pos h4]
          · rw [if_neg h4, if_neg h4]
            by_cases h5 : j = 19
            · rw [if_pos h5, if_pos h5]
            · rw [if_neg h5, if_neg h5, if_pos (by omega), if_pos (by omega)]
theorem pcv_set (cs : List Cl) (ct : Nat → Int) (n : Nat) (c : Cl) (hn : n < cs.length) (hf : c.fs = (cl cs n).fs) (i j : Nat) : pcv (cs.set n c) ct i j =
    if i = n ∧ j = 17 then .bool c.wt else if i = n ∧ j = 18 then .bool c.td else if i = n ∧ j = 19 then .bool c.en else if i = n ∧ j = 20 then .int .i64 (c.rt : Nat) else pcv cs ct i j := by
  have hfd : ∀ k, fd (cs.set n c) i k = fd cs i k := by
    intro k
    unfold fd
    rw [cl_set cs n i c hn]
    split
    · rename_i e
      rw [e, hf]
    · rfl
  unfold pcv
  rw [hfd, cl_set cs n i c hn]
  by_cases hi : i = n
  · subst hi
    simp only [if_true, true_and, hf]
    by_cases h1 : j < 16
    · rw [if_pos h1, if_pos h1, if_neg (c := j = 17) (by omega), if_neg (c := j = 18) (by omega), if_neg (c := j = 19) (by omega), if_neg (c := j = 20) (by omega)]
    · rw [if_neg h1, if_neg h1]
      by_cases h2 : j = 16
      · simp [h2]
      · rw [if_neg h2, if_neg h2]
        by_cases h3 : j = 17
        · simp [h3]
        · by_cases h4 : j = 18
          · simp [h4]
          · by_cases h5 : j = 19
            · simp [h5]
            · by_cases h6 : j = 20
              · simp [h6]
              · simp [h3, h4, h5, h6]
  · simp [hi]
theorem pcv_setR (cs : List Cl) (ct : Nat → Int) (n r : Nat) (hn : n < cs.length) (i j : Nat) : pcv (setR cs n r) ct i j = if i = n ∧ j = 20 then .int .i64 (r : Nat) else pcv cs ct i j := by
  refine (pcv_set cs ct n { cl cs n with rt := r } hn rfl i j).trans ?_
  dsimp only
  by_cases hi : i = n
  · subst hi
    simp only [true_and]
    by_cases h3 : j = 17
    · subst h3
      rfl
    · by_cases h4 : j = 18
      · subst h4
        rfl
      · by_cases h5 : j = 19
        · subst h5
          rfl
        · rw [if_neg h3, if_neg h4, if_neg h5]
  · simp [hi]
theorem pcv_setT (cs : List Cl) (ct : Nat → Int) (n : Nat) (hn : n < cs.length) (i j : Nat) : pcv (setT cs n) ct i j = if i = n ∧ j = 18 then .bool true else pcv cs ct i j := by
  refine (pcv_set cs ct n { cl cs n with td := true } hn rfl i j).trans ?_
  dsimp only
  by_cases hi : i = n
  · subst hi
    simp only [true_and]
    by_cases h3 : j = 17
    · subst h3
      rfl
    · by_cases h4 : j = 18
      · simp [h4]
      · by_cases h5 : j = 19
        · subst h5
          rfl
        · by_cases h6 : j = 20
          · subst h6
            rfl
          · simp [h3, h4, h5, h6]
  · simp [hi]
theorem pcv_setE (cs : List Cl) (ct : Nat → Int) (n : Nat) (hn : n < cs.length) (i j : Nat) : pcv (setE cs n) ct i j = if i = n ∧ j = 19 then .bool true else pcv cs ct i j := by
  refine (pcv_set cs ct n { cl cs n with en := true } hn rfl i j).trans ?_
  dsimp only
  by_cases hi : i = n
  · subst hi
    simp only [true_and]
    by_cases h3 : j = 17
    · subst h3
      rfl
    · by_cases h4 : j = 18
      · subst h4
        rfl
      · by_cases h5 : j = 19
        · simp [h5]
        · by_cases h6 : j = 20
          · subst h6
            rfl
          · simp [h3, h4, h5, h6]
  · simp [hi]
theorem pcv_setF (cs : List Cl) (ct : Nat → Int) (n k : Nat) (v : Nat × Nat) (hn : n < cs.length) (hk : k < (cl cs n).fs.length) (h8 : k < 8) (i j : Nat) :
    pcv (setF cs n k v) ct i j = if i = n ∧ j = k * 2 then .int .i64 (v.1 : Nat) else if i = n ∧ j = k * 2 + 1 then .int .i64 (v.2 : Nat) else pcv cs ct i j := by
  have hp := setF_keeps cs n k i v hn
  unfold pcv
  rw [hp.1, hp.2.1, hp.2.2.1, hp.2.2.2.1, hp.2.2.2.2, fd_setF cs n k v hn hk]
  by_cases hi : i = n
  · subst hi
    simp only [true_and]
    by_cases h1 : j < 16
    · rw [if_pos h1, if_pos h1]
      by_cases h2 : j % 2 = 0
      · rw [if_pos h2, if_pos h2]
        by_cases h3 : j / 2 = k
        · rw [if_pos h3, if_pos (c := j = k * 2) (by omega)]
        · rw [if_neg h3, if_neg (c := j = k * 2) (by omega), if_neg (c := j = k * 2 + 1) (by omega)]
      · rw [if_neg h2, if_neg h2]
        by_cases h3 : j / 2 = k
        · rw [if_pos h3, if_neg (c := j = k * 2) (by omega), if_pos (c := j = k * 2 + 1) (by omega)]
        · rw [if_neg h3, if_neg (c := j = k * 2) (by omega), if_neg (c := j = k * 2 + 1) (by omega)]
    · rw [if_neg h1, if_neg h1, if_neg (c := j = k * 2) (by omega), if_neg (c := j = k * 2 + 1) (by omega)]
  · simp [hi]

def MtP (S : Nat → Prop) (b : Nat) (s1 s2 : Int) (cs : List Cl) (ct : Nat → Int) (ns : List Nat) (w : World) (e : Ending) (w' : World) : Prop :=
  e = .returned (.tuple #[]) ∧ St (New S w.heap.size) b s1 s2 cs ct ns w' ∧ Kp S w w'

theorem wrap_ok {x : Int} (h1 : -1000000000000 ≤ x) (h2 : x ≤ 1000000000000) : IntKind.wrap .i64 x = x := by
  exact IntWalk.i64_in _ (by omega)
set_option maxRecDepth 100000 in
set_option maxHeartbeats 1600000 in
theorem root_any (S : Nat → Prop) (b : Nat) (s1 s2 : Int) (cs : List Cl) (ct : Nat → Int) (ns : List Nat) (n : Nat) (w : World) (h : St S b s1 s2 cs ct ns w) (hn : n < cs.length) (hr : (cl cs n).rt < 1000000000000) (h0 : 0 ≤ ct n) (h1 : ct n < 1000000000000) :
    Calls Try.prog 61 #[.pointer (some ⟨b, 4, none⟩), .int .i64 (n : Int)] w (MtP S b s1 s2 (setR cs n ((cl cs n).rt + 1)) (up ct n (ct n + 1)) ns w) := by
  obtain ⟨g, cap, h4, hS, hgb, hlt, hcell, hfz⟩ := h.cell hn
  have hrt : w.cell? ⟨g, n * 22 + 20, none⟩ = some (.int .i64 (((cl cs n).rt : Nat) : Int)) := hcell n 20 hn (by decide)
  have hct : w.cell? ⟨g, n * 22 + 21, none⟩ = some (.int .i64 (ct n)) := hcell n 21 hn (by decide)
  have hP : Hid (∀ w', w' = (w.setCell ⟨g, n * 22 + 20, none⟩ (.int .i64 (((cl cs n).rt : Nat) + 1))).setCell ⟨g, n * 22 + 21, none⟩ (.int .i64 (ct n + 1)) → MtP S b s1 s2 (setR cs n ((cl cs n).rt + 1)) (up ct n (ct n + 1)) ns w (.returned (.tuple #[])) w') := by
    rintro w' rfl
    have a1 := h.store (cs' := setR cs n ((cl cs n).rt + 1)) (ct' := ct) h4 (n := n) (k := 20) (by decide) (setR_length _ _ _) (fun i j _ _ => pcv_setR cs ct n _ hn i j)
    have a2 := a1.store (cs' := setR cs n ((cl cs n).rt + 1)) (ct' := up ct n (ct n + 1)) (g := g) (cap := cap) (by rw [World.cell?_setCell_other _ _ _ _ (by simp), setR_length]; exact h4) (n := n) (k := 21) (by decide) rfl (fun i j _ hj => pcv_up _ ct n _ i j hj)
    exact ⟨rfl, a2.wide fun g a _ => Or.inl a, ((Kp.refl S w).set (Or.inl hS) _).set (Or.inl hS) _⟩
  have hne : ¬ g = b := hgb
  have hw1 : IntKind.wrap .i64 ((((cl cs n).rt : Nat) : Int) + 1) = (((cl cs n).rt : Nat) : Int) + 1 := wrap_ok (by omega) (by omega)
  have hw2 : IntKind.wrap .i64 (ct n + 1) = ct n + 1 := wrap_ok (by omega) (by omega)
  clear hcell h
  generalize (cl cs n).rt = r at *
  generalize ct n = q at *
  go_enter Try.func61, Try.ntmps61
  go_wp2
  go_end0
  exact hP.out _ rfl

/-- An append of which the run is known. -/
theorem wpList_append_is {P : Program} (w : World) {ops : Array Oper} {rest : List Oper} {o : Oper} {a : Act} {Q : Exit → Act → World → Prop} (hg : o.guard = none) (s x : Operand) (t : TypeId)
    (hop : o.op = Op.call { callee := Callee.builtin Builtin.append, args := #[s, x], argTypes := #[t, t] }) (v u v' : Value) (w' : World) (hs : a.eval s = v) (hx : a.eval x = u) (hr : (Builtin.append_ #[t, t] o.type #[v, u]).run P w = .ok v' w')
    (hK : wpList P ops Q rest (a.put o.dst v') w') : wpList P ops Q (o :: rest) a w := by
  refine wpList_plain hg fun K hK' => ?_
  unfold Oper.wp
  simp [execOp, hop, resolve, invoke, builtin, hs, hx, hr, Result.andThen]
  exact hK' _ _ hK
/-- A note more, at the end of a walk. -/
theorem at_note {S : Nat → Prop} {b : Nat} {s1 s2 : Int} {cs : List Cl} {ct : Nat → Int} {ns : List Nat} {w : World} (h : St S b s1 s2 cs ct ns w) {vn : Value} (hc : w.cell? ⟨b, 5, none⟩ = some vn) (x : Nat) (hl : ns.length ≤ 1000000) (H : Nat) (hH : w.heap.size = H) :
    ∃ ao m c w', (Builtin.append_ #[28, 28] 28 #[vn, .slice (some ⟨H, 0, none⟩) 1 1]).run Try.prog (w.alloc (.cells #[.int .i64 (x : Nat)] 3)) = .ok (.slice ao m c) w' ∧ w'.cell? ⟨b, 5, none⟩ = some vn ∧ w'.frozen? ⟨b, 5, none⟩ = false ∧
      St (New S w.heap.size) b s1 s2 cs ct (ns ++ [x]) (w'.setCell ⟨b, 5, none⟩ (.slice ao m c)) ∧ Kp S w (w'.setCell ⟨b, 5, none⟩ (.slice ao m c)) := by
  subst hH
  have ha : St S b s1 s2 cs ct ns (w.alloc (.cells #[.int .i64 (x : Nat)] 3)) := h.move fun g a c => ⟨Below.heap_alloc w _ g c, a⟩
  obtain ⟨hb, vc, vn', h1, h2, h3⟩ := id ha
  have hcv : (w.alloc (.cells #[.int .i64 (x : Nat)] 3)).cell? ⟨b, 5, none⟩ = some vn := by
    rw [World.cell?_of_block (w := w) (Below.heap_alloc w _ b (by obtain ⟨_, _, _, k, _⟩ := h; exact (Array.getElem?_eq_some_iff.1 k).1))]
    exact hc
  have e : vn' = vn := by
    have : (w.alloc (.cells #[.int .i64 (x : Nat)] 3)).cell? ⟨b, 5, none⟩ = some vn' := by simp [World.cell?, h1]
    rw [this] at hcv
    exact Option.some.inj hcv
  subst e
  obtain ⟨v', w', hr, hn, hg⟩ := rn_append S vn' ns x _ h3 ⟨w.heap.size, 0, none⟩ 1 (by simp [World.cell?_alloc_new]) hl
  have hne : some b ≠ vn'.ownBlock := fun e => h3.ne h1 (by decide) e.symm rfl
  have hlt : b < (w.alloc (.cells #[.int .i64 (x : Nat)] 3)).heap.size := (Array.getElem?_eq_some_iff.1 h1).1
  have hb1 := hg.block b hlt hne
  obtain ⟨q1, q2⟩ := ha.noted hcv hg hn
  obtain ⟨ao, c, rfl⟩ := hn.form
  refine ⟨ao, _, c, w', hr, (World.cell?_of_block (a := ⟨b, 5, none⟩) hb1).trans hcv, (World.frozen?_of_block (a := ⟨b, 5, none⟩) hb1).trans (by simp [World.frozen?, h1]), ?_, ?_⟩
  · exact q1.wide fun g a c => a.elim Or.inl (fun a => Or.inr (by simp at a; omega))
  · exact ((Kp.refl S w).alloc _).trans q2 fun _ _ a => a
set_option maxRecDepth 100000 in
set_option maxHeartbeats 1600000 in
theorem release_any (S : Nat → Prop) (b : Nat) (s1 s2 : Int) (cs : List Cl) (ct : Nat → Int) (ns : List Nat) (n : Nat) (w : World) (h : St S b s1 s2 cs ct ns w) (hn : n < cs.length) (h0 : 0 < ct n) (h1 : ct n < 1000000000000) (hl : ns.length ≤ 1000000) :
    Calls Try.prog 80 #[.pointer (some ⟨b, 4, none⟩), .int .i64 (n : Int)] w (MtP S b s1 s2 cs (up ct n (ct n - 1)) (if ct n - 1 = 0 then ns ++ [n] else ns) w) := by
  obtain ⟨g, cap, h4, hS, hgb, hlt, hcell, hfz⟩ := h.cell hn
  obtain ⟨_, vn, _, _, _, h5, hf, hbl, _⟩ := h.open
  have hct : w.cell? ⟨g, n * 22 + 21, none⟩ = some (.int .i64 (ct n)) := hcell n 21 hn (by decide)
  have a1 := h.store (cs' := cs) (ct' := up ct n (ct n - 1)) h4 (n := n) (k := 21) (by decide) rfl (fun i j _ hj => pcv_up cs ct n (ct n - 1) i j hj)
  have k1 : Kp S w (w.setCell ⟨g, n * 22 + 21, none⟩ (.int .i64 (ct n - 1))) := (Kp.refl S w).set (Or.inl hS) _
  have h5' : (w.setCell ⟨g, n * 22 + 21, none⟩ (.int .i64 (ct n - 1))).cell? ⟨b, 5, none⟩ = some vn := by
    rw [World.cell?_setCell_other _ _ _ _ (by simp)]
    exact h5
  have hne : ¬ g = b := hgb
  have hw1 : IntKind.wrap .i64 (ct n - 1) = ct n - 1 := wrap_ok (by omega) (by omega)
  clear hcell
  by_cases hz : ct n - 1 = 0
  · rw [if_pos hz]
    obtain ⟨ao, m, c, w', hr, hq5, hqf, q1, q2⟩ := at_note a1 h5' n hl w.heap.size (by simp [World.setCell])
    have hP : Hid (MtP S b s1 s2 cs (up ct n (ct n - 1)) (ns ++ [n]) w (.returned (.tuple #[])) (w'.setCell ⟨b, 5, none⟩ (.slice ao m c))) := ⟨rfl, q1.wide (fun g a _ => a.elim Or.inl (fun a => Or.inr (by simpa [World.setCell] using a))), k1.trans q2 (fun _ _ a => a)⟩
    clear q1 q2 a1 k1 h
    have hzb : (ct n - 1 == 0) = true := by rw [hz]; rfl
    generalize up ct n (ct n - 1) = ct' at *
    clear hz
    generalize ct n = q at *
    go_enter Try.func80, Try.ntmps80
    go_wp2_with (at_builtin; refine wpList_append_is _ rfl _ _ 28 rfl vn _ (.slice ao m c) w' rfl rfl hr ?_)
    go_end0
    exact hP.out
  · rw [if_neg hz]
    have hP : Hid (MtP S b s1 s2 cs (up ct n (ct n - 1)) ns w (.returned (.tuple #[])) (w.setCell ⟨g, n * 22 + 21, none⟩ (.int .i64 (ct n - 1)))) := ⟨rfl, a1.wide (fun g a _ => Or.inl a), k1⟩
    clear a1 k1 h
    have hzb : (ct n - 1 == 0) = false := by rw [beq_eq_false_iff_ne]; exact hz
    generalize up ct n (ct n - 1) = ct' at *
    clear hz
    generalize ct n = q at *
    go_enter Try.func80, Try.ntmps80
    go_wp2
    go_end0
    exact hP.out

end Go.Proofs.Ytpedaompcjaahaa
