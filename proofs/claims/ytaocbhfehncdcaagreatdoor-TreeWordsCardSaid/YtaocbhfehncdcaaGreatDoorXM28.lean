/-
  How many nodes there are, and how many are in each other; the rows of trees, cell by cell. Conditions: at most 1000000 nodes. Programs of the law's texts, and what catches a token that does not fit. Conditions: none beside those stated.
-/
import Derived.Test.YtaocbhfehncdcaaGreatDoorXM27
import Derived.Recover
import Derived.Defers
namespace Go.Proofs.YtaocbhfehncdcaaGreatDoor
open Go.RowKit

mutual
def szN : Nd → Nat
  | .mk _ _ _ _ l => 1 + szL l
def szL : List Nd → Nat
  | [] => 0
  | t :: r => szN t + szL r
end
mutual
def dpN : Nd → Nat
  | .mk _ _ _ _ l => 1 + dpL l
def dpL : List Nd → Nat
  | [] => 0
  | t :: r => max (dpN t) (dpL r)
end
/-- What stands at a place of a row. -/
structure El (S : Nat → Prop) (w : World) (g p : Nat) (t : Nd) where
  op : Int
  s : ByteArray
  u : ByteArray
  n : Int
  l : List Nd
  a : Option Addr
  k : Nat
  c : Nat
  eq : t = .mk op s u n l
  c0 : w.cell? ⟨g, p, none⟩ = some (.int .i64 op)
  c1 : w.cell? ⟨g, p + 1, none⟩ = some (.string s)
  c2 : w.cell? ⟨g, p + 2, none⟩ = some (.string u)
  c3 : w.cell? ⟨g, p + 3, none⟩ = some (.int .i64 n)
  c4 : w.cell? ⟨g, p + 4, none⟩ = some (.slice a k c)
  ns : NsAt S w l (.slice a k c)
theorem NcAt.el {S : Nat → Prop} {w : World} {g : Nat} : ∀ {l : List Nd} {cs : List Value} (p : Nat), NcAt S w l cs → (∀ j x, cs[j]? = some x → w.cell? ⟨g, p + j, none⟩ = some x) → ∀ (i : Nat) (h : i < l.length), Nonempty (El S w g (p + i * 5) l[i])
  | _, _, p, .nil, _, i, h => absurd h (by simp)
  | _, _, p, .cons (op := op) (s := s) (t := u) (n := n) (l := l) (L := L) (ls := ls) (cs := cs) hL hr, hc, 0, h => by
    obtain ⟨a, k, c, rfl⟩ := hL.val
    refine ⟨⟨op, s, u, n, l, a, k, c, rfl, ?_, ?_, ?_, ?_, ?_, hL⟩⟩
    · simpa using hc 0 _ rfl
    · simpa using hc 1 _ rfl
    · simpa using hc 2 _ rfl
    · simpa using hc 3 _ rfl
    · simpa using hc 4 _ rfl
  | _, _, p, .cons hL hr, hc, i + 1, h => by
    have := hr.el (p + 5) (fun j x hx => by
      have h2 := hc (j + 5) x (by simpa using hx)
      rwa [show p + (j + 5) = p + 5 + j by omega] at h2) i (by simpa using h)
    rw [show p + (i + 1) * 5 = p + 5 + i * 5 by omega]
    exact this
/-- A row of trees: its slice, and what stands at each place. -/
theorem NsAt.row {S : Nat → Prop} {w : World} {l : List Nd} {L : Value} (h : NsAt S w l L) : ∃ a c, L = .slice a l.length c ∧ l.length ≤ maxLen ∧ (0 < l.length → ∃ g o, a = Option.some ⟨g, o, Option.none⟩ ∧ g < w.heap.size ∧ ∀ (i : Nat) (h : i < l.length), Nonempty (El S w g (o + i * 5) l[i])) := by
  cases h with
  | none => exact ⟨_, _, rfl, by simp, fun h => absurd h (by simp)⟩
  | some hS hg hc hn hm =>
    subst hn
    refine ⟨_, _, rfl, hm, fun _ => ⟨_, _, rfl, (Array.getElem?_eq_some_iff.1 hg).1, hc.el _ fun j x hx => ?_⟩⟩
    rw [Lib.cell_of_heap hg]
    rw [List.getElem?_drop] at hx
    simpa using hx
theorem sz_take (l : List Nd) (i : Nat) (h : i < l.length) : szL (l.take (i + 1)) = szL (l.take i) + szN l[i] := by
  induction l generalizing i with
  | nil => exact absurd h (by simp)
  | cons t r ih =>
    cases i with
    | zero => simp [szL]
    | succ i =>
      have := ih i (by simpa using h)
      simp only [List.take_succ_cons, szL, List.getElem_cons_succ]
      omega
theorem sz_el (l : List Nd) (i : Nat) (h : i < l.length) : szN l[i] ≤ szL l := by
  induction l generalizing i with
  | nil => exact absurd h (by simp)
  | cons t r ih =>
    cases i with
    | zero => simp [szL]
    | succ i =>
      have := ih i (by simpa using h)
      simp only [szL, List.getElem_cons_succ]
      omega
theorem len_sz (l : List Nd) : l.length ≤ szL l := by
  induction l with
  | nil => simp
  | cons t r ih =>
    obtain ⟨o, s, u, n, k⟩ := t
    simp only [szL, szN, List.length_cons]
    omega
theorem szL_le (l : List Nd) (i : Nat) (h : i < l.length) : szL (l.take i) + szN l[i] ≤ szL l := by
  induction l generalizing i with
  | nil => exact absurd h (by simp)
  | cons t r ih =>
    cases i with
    | zero => simp [szL]
    | succ i =>
      have := ih i (by simpa using h)
      simp only [List.take_succ_cons, szL, List.getElem_cons_succ]
      omega

theorem El.sz {S : Nat → Prop} {w : World} {g p : Nat} {t : Nd} (h : El S w g p t) : szN t = 1 + szL h.l := (congrArg szN h.eq).trans (by simp [szN])
theorem El.dp {S : Nat → Prop} {w : World} {g p : Nat} {t : Nd} (h : El S w g p t) : dpN t = 1 + dpL h.l := (congrArg dpN h.eq).trans (by simp [dpN])
def El.later {S : Nat → Prop} {w w' : World} {g p : Nat} {t : Nd} (h : El S w g p t) (hg : g < w.heap.size) (hb : Below w.heap.size w w') : El S w' g p t :=
  have hc : ∀ q, w'.cell? ⟨g, q, none⟩ = w.cell? ⟨g, q, none⟩ := fun q => World.cell?_of_block (w := w) (a := ⟨g, q, none⟩) (hb.block g hg)
  ⟨h.op, h.s, h.u, h.n, h.l, h.a, h.k, h.c, h.eq, (hc _).trans h.c0, (hc _).trans h.c1, (hc _).trans h.c2, (hc _).trans h.c3, (hc _).trans h.c4, h.ns.move fun g h1 h2 => ⟨hb.block g h2, h1⟩⟩
set_option maxRecDepth 100000 in
set_option maxHeartbeats 8000000 in
theorem size_any (S : Nat → Prop) : ∀ (m : Nat) (l : List Nd) (L : Value) (w : World), szL l ≤ m → m ≤ 1000000 → NsAt S w l L → Calls Tryz.prog 77 #[L] w (LkP (.int .i64 (szL l : Int)) w)
  | m, l, L, w, hm, hM, h => by
    obtain ⟨a, c, rfl, hmax, hrow⟩ := h.row
    have HP : Hid (∀ w' (n : Int), n = (szL l : Int) → Below w.heap.size w w' → LkP (.int .i64 (szL l : Int)) w (.returned (.int .i64 n)) w') := fun w' n h1 h2 => ⟨by rw [h1], h2⟩
    have HROW := Lib.hid hrow
    have HM := Lib.hid hm
    have HIH : Hid (∀ i (h : i < l.length) (k : List Nd) (K : Value) (W : World), szL k < szN l[i] → NsAt S W k K → Calls Tryz.prog 77 #[K] W (LkP (.int .i64 (szL k : Int)) W)) := fun i h k K W hk hK => by
      have h1 := sz_el l i h
      have : m ≠ 0 := by omega
      exact size_any S (m - 1) k K W (by omega) (by omega) hK
    have HLS := Lib.hid (len_sz l)
    clear hrow h hm
    go_enter Tryz.func77, Tryz.ntmps77
    go_wp2
    go_loopw [3, 10] (fun n i wr => ∃ k : Nat, k ≤ l.length ∧ i = .int .i64 (k : Int) ∧ n = .int .i64 ((l.length : Int) + (szL (l.take k) : Int) - (k : Int)) ∧ Hid (Below w.heap.size w wr)) (fun _ i _ => l.length - (intOf i).toNat)
    case atStart => exact ⟨0, Nat.zero_le _, rfl, by simp [szL], Lib.hid (Below.refl _ _)⟩
    case round =>
      obtain ⟨k, hk, rfl, rfl, hb⟩ := hrel
      by_cases hlt : k < l.length
      · obtain ⟨g, o, rfl, hg, hel⟩ := HROW.out (by omega)
        obtain ⟨e⟩ := hel k hlt
        have e := e.later hg hb.out
        have hz := szL_le l k hlt
        have hsm := HM.out
        have hls := HLS.out
        have hse := e.sz
        have HT : Hid (szL (l.take (k + 1)) = szL (l.take k) + (1 + szL e.l)) := by
          show _ = _
          rw [sz_take l k hlt, hse]
        have HSE : Hid (szL e.l < szN l[k]) := by
          show _ < _
          omega
        have HNS : Hid (NsAt S wr e.l (.slice e.a e.k e.c)) := e.ns
        have q0 := e.c0
        have q1 := e.c1
        have q2 := e.c2
        have q3 := e.c3
        have q4 := e.c4
        have x1 : (k : Int) < (l.length : Int) := by omega
        have x2 : IntKind.i64.wrap ((l.length : Int) + (szL (l.take k) : Int) - (k : Int) + (szL e.l : Int)) = (l.length : Int) + (szL (l.take k) : Int) - (k : Int) + (szL e.l : Int) := IntWalk.i64_in _ (by omega)
        have x3 : IntKind.i64.wrap ((k : Int) + 1) = (k : Int) + 1 := IntWalk.i64_in _ (by omega)
        clear hz hsm hls hse hel
        generalize e.l = el at *
        generalize e.a = ea at *
        generalize e.k = ek at *
        generalize e.c = ec at *
        generalize e.op = eo at *
        generalize e.s = es at *
        generalize e.u = eu at *
        generalize e.n = en at *
        have hba : Below wr.heap.size wr (wr.alloc (.cells #[.int .i64 eo, .string es, .string eu, .int .i64 en, .slice ea ek ec] 28)) := (Below.refl _ _).alloc (Nat.le_refl _) _
        have HNA := Lib.hid (HNS.out.move (S' := S) fun g h1 h2 => ⟨hba.block g h2, h1⟩)
        have HBA := Lib.hid (hb.out.trans (hba.mono hb.out.size))
        clear hba HNS hb
        go_wp2_with fail
        refine (HIH.out k hlt el _ _ HSE.out HNA.out).mono ?_
        rintro e1 W2 ⟨rfl, hb2⟩
        have HB2 := Lib.hid (HBA.out.trans (hb2.mono HBA.out.size))
        clear hb2 HNA HBA
        go_wp2
        go_roundw
        case rel => exact ⟨k + 1, hlt, by first | rfl | go_num, by have := HT.out; simp only [Value.int.injEq, true_and]; omega, HB2⟩
        case measure => simp [intOf]; omega
      · have hke : k = l.length := by omega
        have x1 : (l.length : Int) ≤ (k : Int) := by omega
        have HE : Hid ((l.length : Int) + (szL (l.take k) : Int) - (k : Int) = (szL l : Int)) := by
          show _ = _
          rw [hke, List.take_length]
          omega
        clear hke
        go_wp2
        go_ret
        exact HP.out _ _ HE.out hb.out
termination_by m => m
decreasing_by omega

mutual
theorem dp_szN : ∀ t : Nd, dpN t ≤ szN t
  | .mk _ _ _ _ l => by
    have := dp_szL l
    simp only [dpN, szN]
    omega
theorem dp_szL : ∀ l : List Nd, dpL l ≤ szL l
  | [] => by simp [dpL]
  | t :: r => by
    have h1 := dp_szN t
    have h2 := dp_szL r
    simp only [dpL, szL]
    omega
end
theorem dp_take (l : List Nd) (i : Nat) (h : i < l.length) : dpL (l.take (i + 1)) = max (dpL (l.take i)) (dpN l[i]) := by
  induction l generalizing i with
  | nil => exact absurd h (by simp)
  | cons t r ih =>
    cases i with
    | zero => simp [dpL]
    | succ i =>
      have := ih i (by simpa using h)
      simp only [List.take_succ_cons, dpL, List.getElem_cons_succ]
      omega

set_option maxRecDepth 100000 in
set_option maxHeartbeats 8000000 in
theorem depth_any (S : Nat → Prop) : ∀ (m : Nat) (l : List Nd) (L : Value) (w : World), szL l ≤ m → m ≤ 1000000 → NsAt S w l L → Calls Tryz.prog 78 #[L] w (LkP (.int .i64 (dpL l : Int)) w)
  | m, l, L, w, hm, hM, h => by
    obtain ⟨a, c, rfl, hmax, hrow⟩ := h.row
    have HP : Hid (∀ w' (n : Int), n = (dpL l : Int) → Below w.heap.size w w' → LkP (.int .i64 (dpL l : Int)) w (.returned (.int .i64 n)) w') := fun w' n h1 h2 => ⟨by rw [h1], h2⟩
    have HROW := Lib.hid hrow
    have HM := Lib.hid hm
    have HIH : Hid (∀ i (h : i < l.length) (k : List Nd) (K : Value) (W : World), szL k < szN l[i] → NsAt S W k K → Calls Tryz.prog 78 #[K] W (LkP (.int .i64 (dpL k : Int)) W)) := fun i h k K W hk hK => by
      have h1 := sz_el l i h
      have : m ≠ 0 := by omega
      exact depth_any S (m - 1) k K W (by omega) (by omega) hK
    have HLS := Lib.hid (len_sz l)
    clear hrow h hm
    go_enter Tryz.func78, Tryz.ntmps78
    go_wp2
    go_loopw [3, 8] (fun n i wr => ∃ k : Nat, k ≤ l.length ∧ i = .int .i64 (k : Int) ∧ n = .int .i64 (dpL (l.take k) : Int) ∧ Hid (Below w.heap.size w wr)) (fun _ i _ => l.length - (intOf i).toNat)
    case atStart => exact ⟨0, Nat.zero_le _, rfl, by simp [dpL], Lib.hid (Below.refl _ _)⟩
    case round =>
      obtain ⟨k, hk, rfl, rfl, hb⟩ := hrel
      by_cases hlt : k < l.length
      · obtain ⟨g, o, rfl, hg, hel⟩ := HROW.out (by omega)
        obtain ⟨e⟩ := hel k hlt
        have e := e.later hg hb.out
        have hz := szL_le l k hlt
        have hsm := HM.out
        have hls := HLS.out
        have hse := e.sz
        have hds := dp_szL e.l
        have HT : Hid (dpL (l.take (k + 1)) = max (dpL (l.take k)) (1 + dpL e.l)) := by
          show _ = _
          rw [dp_take l k hlt, e.dp]
        have HSE : Hid (szL e.l < szN l[k]) := by
          show _ < _
          omega
        have HNS : Hid (NsAt S wr e.l (.slice e.a e.k e.c)) := e.ns
        have q0 := e.c0
        have q1 := e.c1
        have q2 := e.c2
        have q3 := e.c3
        have q4 := e.c4
        have x1 : (k : Int) < (l.length : Int) := by omega
        have x2 : IntKind.i64.wrap (1 + (dpL e.l : Int)) = 1 + (dpL e.l : Int) := IntWalk.i64_in _ (by omega)
        have x3 : IntKind.i64.wrap ((k : Int) + 1) = (k : Int) + 1 := IntWalk.i64_in _ (by omega)
        clear hz hsm hls hse hel hds
        generalize e.l = el at *
        generalize e.a = ea at *
        generalize e.k = ek at *
        generalize e.c = ec at *
        generalize e.op = eo at *
        generalize e.s = es at *
        generalize e.u = eu at *
        generalize e.n = en at *
        have hba : Below wr.heap.size wr (wr.alloc (.cells #[.int .i64 eo, .string es, .string eu, .int .i64 en, .slice ea ek ec] 28)) := (Below.refl _ _).alloc (Nat.le_refl _) _
        have HNA := Lib.hid (HNS.out.move (S' := S) fun g h1 h2 => ⟨hba.block g h2, h1⟩)
        have HBA := Lib.hid (hb.out.trans (hba.mono hb.out.size))
        clear hba HNS hb
        go_wp2_with fail
        refine (HIH.out k hlt el _ _ HSE.out HNA.out).mono ?_
        rintro e1 W2 ⟨rfl, hb2⟩
        have HB2 := Lib.hid (HBA.out.trans (hb2.mono HBA.out.size))
        clear hb2 HNA HBA
        go_wp2
        all_goals go_roundw
        case rel => exact ⟨k + 1, hlt, by first | rfl | go_num, by have := HT.out; simp only [Value.int.injEq, true_and]; omega, HB2⟩
        case measure => simp [intOf]; omega
      · have hke : k = l.length := by omega
        have x1 : (l.length : Int) ≤ (k : Int) := by omega
        have HE : Hid ((dpL (l.take k) : Int) = (dpL l : Int)) := by
          show _ = _
          rw [hke, List.take_length]
        clear hke
        go_wp2
        go_ret
        exact HP.out _ _ HE.out hb.out
termination_by m => m
decreasing_by omega

end Go.Proofs.YtaocbhfehncdcaaGreatDoor

namespace Go.Proofs.YtaocbhfehncdcaaGreatDoor
open Go.RowKit

set_option maxRecDepth 100000 in
set_option maxHeartbeats 8000000 in
theorem isLarge_no (S : Nat → Prop) (l : List Nd) (L : Value) (w : World) (h : NsAt S w l L) (h1 : szL l ≤ 400) (h2 : dpL l ≤ 16) : Calls Tryz.prog 52 #[L] w (LkP (.bool false) w) := by
  have HP : Hid (∀ b w', b = false → Below w.heap.size w w' → LkP (.bool false) w (.returned (.bool b)) w') := fun b w' h1 h => ⟨by rw [h1], h⟩
  have H1 := Lib.hid (size_any S 400 l L w h1 (by omega) h)
  have H2 : Hid (∀ W, Below w.heap.size w W → Calls Tryz.prog 78 #[L] W (LkP (.int .i64 (dpL l : Int)) W)) := fun W hb => depth_any S 400 l L W h1 (by omega) (h.move fun g h1 h2 => ⟨hb.block g h2, h1⟩)
  have x1 : (szL l : Int) ≤ 400 := by omega
  have x2 : (dpL l : Int) ≤ 16 := by omega
  clear h h1 h2
  go_enter Tryz.func52, Tryz.ntmps52
  go_wp2_with fail
  refine H1.out.mono ?_
  rintro e1 W1 ⟨rfl, hb1⟩
  have HB1 := Lib.hid hb1
  clear hb1
  go_wp2_with fail
  refine (H2.out _ HB1.out).mono ?_
  rintro e1 W2 ⟨rfl, hb2⟩
  have HB2 := Lib.hid (HB1.out.trans (hb2.mono HB1.out.size))
  clear hb2
  have x3 : decide ((400 : Int) < (szL l : Int)) = false := decide_eq_false (by omega)
  have x4 : decide ((16 : Int) < (dpL l : Int)) = false := decide_eq_false (by omega)
  go_wp2
  go_ret
  refine HP.out _ _ ?_ HB2.out
  first | rfl | (simp; omega)
set_option maxRecDepth 100000 in
set_option maxHeartbeats 8000000 in
theorem single_a (κ : Pc) (P : Nat) (w : World) (h : PsAt κ tsA P 0 w) : Calls Tryz.prog 35 #[.pointer (some ⟨P, 0, none⟩)] w (OcL κ tsA P 8 [nI (nI nX (nN 1)) (nN 2)] w) := by
  have HM := Lib.hid (text_a κ P w h)
  clear h
  go_enter Tryz.func35, Tryz.ntmps35
  go_wp2_with fail
  refine HM.out.mono ?_
  rintro e1 W1 ⟨v, rfl, hn, hs, hb⟩
  obtain ⟨la, ln, lc, rfl⟩ := nd_val hn
  have hba : Below W1.heap.size W1 (W1.alloc (.cells #[.int .i64 8, .string ⟨#[]⟩, .string ⟨#[]⟩, .int .i64 0, .slice la ln lc] 28)) := (Below.refl _ _).alloc (Nat.le_refl _) _
  have HX : Hid (OcL κ tsA P 8 [nI (nI nX (nN 1)) (nN 2)] w (.returned (.slice (some ⟨W1.heap.size, 0, none⟩) 1 1)) (W1.alloc (.cells #[.int .i64 8, .string ⟨#[]⟩, .string ⟨#[]⟩, .int .i64 0, .slice la ln lc] 28))) := by
    cases hn with
    | mk hL =>
      exact ⟨_, rfl, .some hb.size (last_at rfl rfl) (.cons (hL.move fun g h1 h2 => ⟨hba.block g h2, h1⟩) .nil) rfl (by decide), hs.later hba, hb.trans (But.of hba)⟩
  clear hn hs hb hba
  go_wp2
  go_ret
  exact HX.out
set_option maxRecDepth 100000 in
set_option maxHeartbeats 8000000 in
theorem program_c (κ : Pc) (P : Nat) (w : World) (h : PsAt κ tsC P 0 w) : Calls Tryz.prog 36 #[.pointer (some ⟨P, 0, none⟩)] w (BadP P 3 w) := by
  have H0 := Lib.hid h
  have HST := Lib.hid (statement_c κ P)
  clear h
  go_enter Tryz.func36, Tryz.ntmps36
  go_wp2
  go_loopw [3, 4] (fun l _ wr => l = .slice none 0 0 ∧ wr = w) (fun _ _ _ => 0)
  case atStart => exact ⟨rfl, rfl⟩
  case round =>
    obtain ⟨rfl, rfl⟩ := hrel
    go_wp2_with fail
    refine (done_any κ tsC P 0 _ H0.out (by omega)).mono ?_
    rintro e1 W1 ⟨rfl, hb⟩
    rw [show decide (0 = tsC.length) = false from rfl]
    have H1 := Lib.hid (H0.out.later hb)
    have HB1 : Hid (But P wr W1) := But.of hb
    clear hb
    go_wp2_with fail
    refine (HST.out _ H1.out).mono ?_
    rintro e1 W2 ⟨rfl, hb⟩
    have HB2 := Lib.hid (HB1.out.trans hb)
    clear hb
    go_wp2
    exact ⟨rfl, rfl, HB2.out⟩
def nEx : Nd := .mk 40 ⟨#[]⟩ ⟨#[]⟩ 0 [.mk 27 ⟨#[]⟩ ⟨#[]⟩ 0 [nMy, .mk 6 ⟨#[95]⟩ ⟨#[]⟩ 0 []]]
set_option maxRecDepth 100000 in
set_option maxHeartbeats 8000000 in
theorem program_b (κ : Pc) (P : Nat) (w : World) (h : PsAt κ tsB P 0 w) : Calls Tryz.prog 36 #[.pointer (some ⟨P, 0, none⟩)] w (OcL κ tsB P 9 [nEx] w) := by
  have H0 := Lib.hid h
  have HST := Lib.hid (statement_b κ P)
  clear h
  go_enter Tryz.func36, Tryz.ntmps36
  go_wp2
  go_loopw [3, 4] (fun l _ wr => (l = .slice none 0 0 ∧ wr = w) ∨ (NsAt (fun g => w.heap.size ≤ g) wr [nEx] l ∧ Hid (PsAt κ tsB P 9 wr) ∧ Hid (But P w wr))) (fun _ _ wr => 10 - atP P wr)
  case atStart => exact .inl ⟨rfl, rfl⟩
  case round =>
    rcases hrel with ⟨rfl, rfl⟩ | ⟨hn, hs, hb⟩
    · have HAT := Lib.hid H0.out.pos
      go_wp2_with fail
      refine (done_any κ tsB P 0 _ H0.out (by omega)).mono ?_
      rintro e1 W1 ⟨rfl, hb⟩
      rw [show decide (0 = tsB.length) = false from rfl]
      have H1 := Lib.hid (H0.out.later hb)
      have HB1 : Hid (But P wr W1) := But.of hb
      have HSZ : Hid (wr.heap.size ≤ W1.heap.size) := hb.size
      clear hb
      go_wp2_with fail
      refine (HST.out _ H1.out).mono ?_
      rintro e1 W2 ⟨v, rfl, hn, hs, hb⟩
      have HN2 : Hid (NsAt (fun g => wr.heap.size ≤ g) W2 [nEx] v) := hn.move fun g h1 h2 => ⟨rfl, Nat.le_trans HSZ.out h1⟩
      have HS2 := Lib.hid hs
      have HB2 := Lib.hid (HB1.out.trans hb)
      have HM2 := Lib.hid hs.pos
      clear hn hs hb
      go_wp2
      go_roundw
      case rel => exact .inr ⟨HN2.out, HS2, HB2⟩
      case measure =>
        have h1 := HAT.out
        have h2 := HM2.out
        omega
    · have HN := Lib.hid hn
      clear hn
      go_wp2_with fail
      refine (done_any κ tsB P 9 _ hs.out (by omega)).mono ?_
      rintro e1 W1 ⟨rfl, hb1⟩
      rw [show decide (9 = tsB.length) = true from rfl]
      have HX : Hid (∀ v, Hid (NsAt (fun g => w.heap.size ≤ g) wr [nEx] v) → OcL κ tsB P 9 [nEx] w (.returned v) W1) := fun v hv => ⟨_, rfl, hv.out.move fun g h1 h2 => ⟨hb1.block g h2, h1⟩, hs.out.later hb1, hb.out.trans (But.of hb1)⟩
      clear hb1
      go_wp2
      go_ret
      exact HX.out _ HN

theorem assert_misfit (b : Int) (w : World) : (Instr.typeAssert (.iface 97 (.int .i64 b)) 20 97 true).run Tryz.prog w = .ok (.tuple #[.int .i64 b, .bool true]) w := by kernel_rfl
theorem assert_nil2 (w : World) : (Instr.typeAssert Value.nilIface 20 97 true).run Tryz.prog w = .ok (.tuple #[.int .i64 0, .bool false]) w := by kernel_rfl
set_option maxRecDepth 100000 in
theorem catch_misfit (p q : Addr) (x y : Value) (b : Nat) (w : World) (hc : w.cell? p = some x) (hz : w.frozen? p = false) (hd : (w.setCell p (.slice none 0 0)).cell? q = some y) (hy : (w.setCell p (.slice none 0 0)).frozen? q = false) :
    CallsD Tryz.prog 75 #[.pointer (some p), .pointer (some q)] (.panicking [{ v := .iface 97 (.int .i64 (b : Int)), recovered := false }]) w fun e u' w' =>
      e = .returned (.tuple #[]) ∧ u' = .panicking [{ v := .iface 97 (.int .i64 (b : Int)), recovered := true }] ∧ w' = (w.setCell p (.slice none 0 0)).setCell q (.int .i64 (b : Int)) := by
  refine callsD_of_wpS Tryz.func75 rfl fun c₀ cs hu => ?_
  apply wpS_seq
  apply wpS_region
  simp [wpOpsS, go_sem, recoverD, hu, assert_misfit, Tryz.ntmps75, Exit.thenS]
  apply wpS_seq
  apply wpS_region
  simp [wpOpsS, go_sem, Exit.thenS]
  refine wpS_cond (t := true) (by simp [Act.eval, Array.replicate]) ?_
  simp only [if_true]
  apply wpS_region
  simp [wpOpsS, go_sem, hc, hz, hd, hy, bodyPostS, results, Tryz.results75]
set_option maxRecDepth 100000 in
theorem catch_none (p q : Addr) (w : World) :
    CallsD Tryz.prog 75 #[.pointer (some p), .pointer (some q)] .returning w fun e u' w' => e = .returned (.tuple #[]) ∧ u' = .returning ∧ w' = w := by
  refine callsD_of_wpS Tryz.func75 rfl fun c₀ cs hu => ?_
  apply wpS_seq
  apply wpS_region
  simp [wpOpsS, go_sem, recoverD, hu, assert_nil2, Tryz.ntmps75, Exit.thenS]
  apply wpS_seq
  apply wpS_region
  simp [wpOpsS, go_sem, Exit.thenS]
  refine wpS_cond (t := false) (by simp [Act.eval, Array.replicate]) ?_
  simp only [Bool.false_eq_true, if_false]
  refine wpS_of_wp (wp_skip ?_)
  cases c₀
  simp_all [bodyPostS, results, Tryz.results75]

end Go.Proofs.YtaocbhfehncdcaaGreatDoor
