/-
  Slices of tokens that a function is handed: alike. Conditions: none beside those stated.
-/
import Derived.Test.YtnfoafcpcabpmaaDoorWd
import Derived.StillTailTactics
import Derived.BigRegion
import Derived.RegionTactic
namespace Go.Proofs.YtnfoafcpcabpmaaDoor
open Go.RowKit

/-- A token, field by field. -/
structure Tkc where
  k : Int
  a : Int
  x : ByteArray
  y : ByteArray
  z : ByteArray
  o : Int
/-- Equal but for the place. -/
def eqT (s t : Tkc) : Bool := s.k == t.k && (s.x.toList == t.x.toList && (s.y.toList == t.y.toList && (s.z.toList == t.z.toList && s.o == t.o)))
/-- The cells of a token in block g from offset p on. -/
structure TkCells (g p : Nat) (t : Tkc) (w : World) : Prop where
  c0 : w.cell? ⟨g, p, none⟩ = some (.int .i64 t.k)
  c1 : w.cell? ⟨g, p + 1, none⟩ = some (.int .i64 t.a)
  c2 : w.cell? ⟨g, p + 2, none⟩ = some (.string t.x)
  c3 : w.cell? ⟨g, p + 3, none⟩ = some (.string t.y)
  c4 : w.cell? ⟨g, p + 4, none⟩ = some (.string t.z)
  c5 : w.cell? ⟨g, p + 5, none⟩ = some (.int .i64 t.o)
/-- A slice of n tokens at an address. -/
structure TkRow (sa : Option Addr) (n : Nat) (f : Nat → Tkc) (w : World) : Prop where
  small : n ≤ maxLen
  row : 0 < n → ∃ g p, sa = some ⟨g, p, none⟩ ∧ g < w.heap.size ∧ ∀ i, i < n → TkCells g (p + i * 6) (f i) w
theorem TkCells.later {g p : Nat} {t : Tkc} {w w' : World} (h : TkCells g p t w) (hb : w'.heap[g]? = w.heap[g]?) : TkCells g p t w' := by
  have hc : ∀ q, w'.cell? ⟨g, q, none⟩ = w.cell? ⟨g, q, none⟩ := fun q => World.cell?_of_block (w := w) (a := ⟨g, q, none⟩) hb
  exact ⟨(hc _).trans h.c0, (hc _).trans h.c1, (hc _).trans h.c2, (hc _).trans h.c3, (hc _).trans h.c4, (hc _).trans h.c5⟩
theorem TkRow.later {sa : Option Addr} {n : Nat} {f : Nat → Tkc} {w w' : World} (h : TkRow sa n f w) (hb : Below w.heap.size w w') : TkRow sa n f w' := by
  refine ⟨h.small, fun hn => ?_⟩
  obtain ⟨g, p, h1, h2, h3⟩ := h.row hn
  exact ⟨g, p, h1, Nat.lt_of_lt_of_le h2 hb.size, fun i hi => (h3 i hi).later (hb.block g h2)⟩
/-- How many tokens from place i on are equal, of k. -/
def preF (f h : Nat → Tkc) (i : Nat) : Nat → Nat
  | 0 => i
  | k + 1 => if eqT (f i) (h i) then preF f h (i + 1) k else i
theorem preF_le (f h : Nat → Tkc) : ∀ (k i : Nat), i ≤ preF f h i k ∧ preF f h i k ≤ i + k
  | 0, i => ⟨Nat.le_refl _, Nat.le_refl _⟩
  | k + 1, i => by
    have := preF_le f h k (i + 1)
    unfold preF
    split <;> omega
theorem eqT_self (t : Tkc) : eqT t t = true := by simp [eqT]
theorem preF_self (f : Nat → Tkc) : ∀ (k i : Nat), preF f f i k = i + k
  | 0, i => rfl
  | k + 1, i => by
    unfold preF
    rw [eqT_self, if_pos rfl, preF_self f k (i + 1)]
    omega

def AkP (q : Nat) (w : World) (e : Ending) (w' : World) : Prop := e = .returned (.int .i64 (q : Int)) ∧ Below w.heap.size w w'
theorem preF_on {f h : Nat → Tkc} {i k : Nat} (he : eqT (f i) (h i) = true) : preF f h i (k + 1) = preF f h (i + 1) k := by
  show (if eqT (f i) (h i) then _ else _) = _
  rw [he]
  rfl
theorem preF_off {f h : Nat → Tkc} {i k : Nat} (he : eqT (f i) (h i) = false) : preF f h i k = i := by
  cases k with
  | zero => rfl
  | succ k =>
    show (if eqT (f i) (h i) then _ else _) = _
    rw [he]
    rfl
set_option maxRecDepth 100000 in
set_option maxHeartbeats 8000000 in
theorem alike_any (sa sb : Option Addr) (n m c d : Nat) (f h : Nat → Tkc) (w : World) (hk : TkRow sa n f w) (hl : TkRow sb m h w) :
    Calls Tryd.prog 19 #[.slice sa n c, .slice sb m d] w (AkP (preF f h 0 (min n m)) w) := by
  have HK := Lib.hid hk
  have HL := Lib.hid hl
  have HB0 := Lib.hid (Below.refl w.heap.size w)
  have H0 : Hid (preF f h 0 (min n m) = preF f h 0 (min n m - 0)) := rfl
  have hns := hk.small
  have hms := hl.small
  unfold maxLen at hns hms
  clear hk hl
  generalize hN : min n m = N at *
  have HP : Hid (∀ q w', preF f h 0 N = q → Below w.heap.size w w' → AkP (preF f h 0 N) w (.returned (.int .i64 (q : Int))) w') := fun q w' h1 h2 => by
    subst h1
    exact ⟨rfl, h2⟩
  have hNn : N ≤ n := by omega
  have hNm : N ≤ m := by omega
  have hNe : (N = n ∧ n ≤ m) ∨ (N = m ∧ m < n) := by omega
  clear hN
  go_enter Tryd.func19, Tryd.ntmps19
  go_wp2
  go_loopw [5] (fun v wr => ∃ i : Nat, v = .int .i64 i ∧ i ≤ N ∧ Hid (preF f h 0 N = preF f h i (N - i)) ∧ Hid (Below w.heap.size w wr)) (fun v _ => N - (intOf v).toNat)
  case atStart => exact ⟨0, rfl, Nat.zero_le _, H0, HB0⟩
  case round =>
    obtain ⟨i, rfl, hi, hp, hb⟩ := hrel
    by_cases hlt : i < N
    · have hin : i < n := by omega
      have him : i < m := by omega
      have hini : (i : Int) < (n : Int) := by omega
      have himi : (i : Int) < (m : Int) := by omega
      obtain ⟨g1, p1, rfl, hg1, hr1⟩ := HK.out.row (by omega)
      obtain ⟨g2, p2, rfl, hg2, hr2⟩ := HL.out.row (by omega)
      have k1 := (hr1 i hin).later (hb.out.block g1 hg1)
      have k2 := (hr2 i him).later (hb.out.block g2 hg2)
      obtain ⟨a0, a1, a2, a3, a4, a5⟩ := k1
      obtain ⟨b0, b1, b2, b3, b4, b5⟩ := k2
      have q1 : g1 < wr.heap.size := Nat.lt_of_lt_of_le hg1 hb.out.size
      have q2 : g2 < wr.heap.size := Nat.lt_of_lt_of_le hg2 hb.out.size
      have q3 : g1 < wr.heap.size + 1 := by omega
      have q4 : g2 < wr.heap.size + 1 := by omega
      have q5 : g1 ≠ wr.heap.size := by omega
      have q6 : g2 ≠ wr.heap.size := by omega
      have q7 : g1 ≠ wr.heap.size + 1 := by omega
      have q8 : g2 ≠ wr.heap.size + 1 := by omega
      clear hr1 hr2 HK HL hg1 hg2
      obtain ⟨j, hj⟩ : ∃ j, N - i = j + 1 := ⟨N - i - 1, by omega⟩
      have hj2 : N - (i + 1) = j := by omega
      go_wp2
      cases heq : eqT (f i) (h i) with
      | true =>
        have HN : Hid (preF f h 0 N = preF f h (i + 1) (N - (i + 1))) := by
          show _ = _
          rw [hp.out, hj, preF_on heq, hj2]
        clear hj hj2 hNe
        go_region
        · have hsz : (wr.alloc (.cells #[.int .i64 (f i).k, .int .i64 (f i).a, .string (f i).x, .string (f i).y, .string (f i).z, .int .i64 (f i).o] 33)).heap.size = wr.heap.size + 1 := by simp
          have h1 : TkAt wr.heap.size (.int .i64 (f i).k) (.int .i64 (f i).a) (.string (f i).x) (.string (f i).y) (.string (f i).z) (.int .i64 (f i).o) (((wr.alloc (.cells #[.int .i64 (f i).k, .int .i64 (f i).a, .string (f i).x, .string (f i).y, .string (f i).z, .int .i64 (f i).o] 33)).alloc (.cells #[.int .i64 (h i).k, .int .i64 (h i).a, .string (h i).x, .string (h i).y, .string (h i).z, .int .i64 (h i).o] 33)).drew) := (Below.heap_alloc _ _ _ (by omega)).trans (Go.MapKept.heap_alloc wr _).1
          have h2 : TkAt (wr.heap.size + 1) (.int .i64 (h i).k) (.int .i64 (h i).a) (.string (h i).x) (.string (h i).y) (.string (h i).z) (.int .i64 (h i).o) (((wr.alloc (.cells #[.int .i64 (f i).k, .int .i64 (f i).a, .string (f i).x, .string (f i).y, .string (f i).z, .int .i64 (f i).o] 33)).alloc (.cells #[.int .i64 (h i).k, .int .i64 (h i).a, .string (h i).x, .string (h i).y, .string (h i).z, .int .i64 (h i).o] 33)).drew) := by
            have := (Go.MapKept.heap_alloc (wr.alloc (.cells #[.int .i64 (f i).k, .int .i64 (f i).a, .string (f i).x, .string (f i).y, .string (f i).z, .int .i64 (f i).o] 33)) (.cells #[.int .i64 (h i).k, .int .i64 (h i).a, .string (h i).x, .string (h i).y, .string (h i).z, .int .i64 (h i).o] 33)).1
            rw [hsz] at this
            exact this
          have HBW : Hid (Below w.heap.size w (((wr.alloc (.cells #[.int .i64 (f i).k, .int .i64 (f i).a, .string (f i).x, .string (f i).y, .string (f i).z, .int .i64 (f i).o] 33)).alloc (.cells #[.int .i64 (h i).k, .int .i64 (h i).a, .string (h i).x, .string (h i).y, .string (h i).z, .int .i64 (h i).o] 33)).drew)) := ((hb.out.alloc hb.out.size _).alloc (by rw [hsz]; exact Nat.le_succ_of_le hb.out.size) _).drew
          have HT6 := Lib.hid h1
          have HT7 := Lib.hid h2
          have hT6 : w.heap.size ≤ wr.heap.size := by have := hb.out.size; omega
          have hTT : wr.heap.size ≠ (wr.heap.size + 1) := by omega
          clear h1 h2 hsz q1 q2 q3 q4 q5 q6 q7 q8 a0 a1 a2 a3 a4 a5 b0 b1 b2 b3 b4 b5
          generalize (((wr.alloc (.cells #[.int .i64 (f i).k, .int .i64 (f i).a, .string (f i).x, .string (f i).y, .string (f i).z, .int .i64 (f i).o] 33)).alloc (.cells #[.int .i64 (h i).k, .int .i64 (h i).a, .string (h i).x, .string (h i).y, .string (h i).z, .int .i64 (h i).o] 33)).drew) = W at *
          generalize hBB : wr.heap.size + 1 = TB at *
          clear hBB
          generalize wr.heap.size = TA at *
          obtain ⟨s0, s1, s2, s3, s4, s5⟩ := HT6.out.cells
          obtain ⟨r0, r1, r2, r3, r4, r5⟩ := HT7.out.cells
          have z1 := HT6.out.frozen 1
          have HBs : Hid (Below w.heap.size w (W.setCell ⟨TA, 1, none⟩ (.int .i64 (h i).a))) := HBW.out.setCell (p := ⟨TA, 1, none⟩) hT6 _
          have he := heq
          unfold eqT at he
          simp only [Bool.and_eq_true] at he
          obtain ⟨e0, e1, e2, e3, e4⟩ := he
          go_wp2
          go_roundw
          case rel => exact ⟨i + 1, by go_num, by omega, HN, HBs⟩
          case measure => simp [intOf]; omega
        · have hsz : (wr.alloc (.cells #[.int .i64 (h i).k, .int .i64 (h i).a, .string (h i).x, .string (h i).y, .string (h i).z, .int .i64 (h i).o] 33)).heap.size = wr.heap.size + 1 := by simp
          have h1 : TkAt wr.heap.size (.int .i64 (h i).k) (.int .i64 (h i).a) (.string (h i).x) (.string (h i).y) (.string (h i).z) (.int .i64 (h i).o) (((wr.alloc (.cells #[.int .i64 (h i).k, .int .i64 (h i).a, .string (h i).x, .string (h i).y, .string (h i).z, .int .i64 (h i).o] 33)).alloc (.cells #[.int .i64 (f i).k, .int .i64 (f i).a, .string (f i).x, .string (f i).y, .string (f i).z, .int .i64 (f i).o] 33)).drew) := (Below.heap_alloc _ _ _ (by omega)).trans (Go.MapKept.heap_alloc wr _).1
          have h2 : TkAt (wr.heap.size + 1) (.int .i64 (f i).k) (.int .i64 (f i).a) (.string (f i).x) (.string (f i).y) (.string (f i).z) (.int .i64 (f i).o) (((wr.alloc (.cells #[.int .i64 (h i).k, .int .i64 (h i).a, .string (h i).x, .string (h i).y, .string (h i).z, .int .i64 (h i).o] 33)).alloc (.cells #[.int .i64 (f i).k, .int .i64 (f i).a, .string (f i).x, .string (f i).y, .string (f i).z, .int .i64 (f i).o] 33)).drew) := by
            have := (Go.MapKept.heap_alloc (wr.alloc (.cells #[.int .i64 (h i).k, .int .i64 (h i).a, .string (h i).x, .string (h i).y, .string (h i).z, .int .i64 (h i).o] 33)) (.cells #[.int .i64 (f i).k, .int .i64 (f i).a, .string (f i).x, .string (f i).y, .string (f i).z, .int .i64 (f i).o] 33)).1
            rw [hsz] at this
            exact this
          have HBW : Hid (Below w.heap.size w (((wr.alloc (.cells #[.int .i64 (h i).k, .int .i64 (h i).a, .string (h i).x, .string (h i).y, .string (h i).z, .int .i64 (h i).o] 33)).alloc (.cells #[.int .i64 (f i).k, .int .i64 (f i).a, .string (f i).x, .string (f i).y, .string (f i).z, .int .i64 (f i).o] 33)).drew)) := ((hb.out.alloc hb.out.size _).alloc (by rw [hsz]; exact Nat.le_succ_of_le hb.out.size) _).drew
          have HT6 := Lib.hid h2
          have HT7 := Lib.hid h1
          have hT6 : w.heap.size ≤ (wr.heap.size + 1) := by have := hb.out.size; omega
          have hTT : (wr.heap.size + 1) ≠ wr.heap.size := by omega
          clear h1 h2 hsz q1 q2 q3 q4 q5 q6 q7 q8 a0 a1 a2 a3 a4 a5 b0 b1 b2 b3 b4 b5
          generalize (((wr.alloc (.cells #[.int .i64 (h i).k, .int .i64 (h i).a, .string (h i).x, .string (h i).y, .string (h i).z, .int .i64 (h i).o] 33)).alloc (.cells #[.int .i64 (f i).k, .int .i64 (f i).a, .string (f i).x, .string (f i).y, .string (f i).z, .int .i64 (f i).o] 33)).drew) = W at *
          generalize hBB : wr.heap.size + 1 = TB at *
          clear hBB
          generalize wr.heap.size = TA at *
          obtain ⟨s0, s1, s2, s3, s4, s5⟩ := HT6.out.cells
          obtain ⟨r0, r1, r2, r3, r4, r5⟩ := HT7.out.cells
          have z1 := HT6.out.frozen 1
          have HBs : Hid (Below w.heap.size w (W.setCell ⟨TB, 1, none⟩ (.int .i64 (h i).a))) := HBW.out.setCell (p := ⟨TB, 1, none⟩) hT6 _
          have he := heq
          unfold eqT at he
          simp only [Bool.and_eq_true] at he
          obtain ⟨e0, e1, e2, e3, e4⟩ := he
          go_wp2
          go_roundw
          case rel => exact ⟨i + 1, by go_num, by omega, HN, HBs⟩
          case measure => simp [intOf]; omega
      | false =>
        have HX : Hid (preF f h 0 N = i) := by
          show _ = _
          rw [hp.out, preF_off heq]
        clear hj hj2 hNe
        go_region
        · have hsz : (wr.alloc (.cells #[.int .i64 (f i).k, .int .i64 (f i).a, .string (f i).x, .string (f i).y, .string (f i).z, .int .i64 (f i).o] 33)).heap.size = wr.heap.size + 1 := by simp
          have h1 : TkAt wr.heap.size (.int .i64 (f i).k) (.int .i64 (f i).a) (.string (f i).x) (.string (f i).y) (.string (f i).z) (.int .i64 (f i).o) (((wr.alloc (.cells #[.int .i64 (f i).k, .int .i64 (f i).a, .string (f i).x, .string (f i).y, .string (f i).z, .int .i64 (f i).o] 33)).alloc (.cells #[.int .i64 (h i).k, .int .i64 (h i).a, .string (h i).x, .string (h i).y, .string (h i).z, .int .i64 (h i).o] 33)).drew) := (Below.heap_alloc _ _ _ (by omega)).trans (Go.MapKept.heap_alloc wr _).1
          have h2 : TkAt (wr.heap.size + 1) (.int .i64 (h i).k) (.int .i64 (h i).a) (.string (h i).x) (.string (h i).y) (.string (h i).z) (.int .i64 (h i).o) (((wr.alloc (.cells #[.int .i64 (f i).k, .int .i64 (f i).a, .string (f i).x, .string (f i).y, .string (f i).z, .int .i64 (f i).o] 33)).alloc (.cells #[.int .i64 (h i).k, .int .i64 (h i).a, .string (h i).x, .string (h i).y, .string (h i).z, .int .i64 (h i).o] 33)).drew) := by
            have := (Go.MapKept.heap_alloc (wr.alloc (.cells #[.int .i64 (f i).k, .int .i64 (f i).a, .string (f i).x, .string (f i).y, .string (f i).z, .int .i64 (f i).o] 33)) (.cells #[.int .i64 (h i).k, .int .i64 (h i).a, .string (h i).x, .string (h i).y, .string (h i).z, .int .i64 (h i).o] 33)).1
            rw [hsz] at this
            exact this
          have HBW : Hid (Below w.heap.size w (((wr.alloc (.cells #[.int .i64 (f i).k, .int .i64 (f i).a, .string (f i).x, .string (f i).y, .string (f i).z, .int .i64 (f i).o] 33)).alloc (.cells #[.int .i64 (h i).k, .int .i64 (h i).a, .string (h i).x, .string (h i).y, .string (h i).z, .int .i64 (h i).o] 33)).drew)) := ((hb.out.alloc hb.out.size _).alloc (by rw [hsz]; exact Nat.le_succ_of_le hb.out.size) _).drew
          have HT6 := Lib.hid h1
          have HT7 := Lib.hid h2
          have hT6 : w.heap.size ≤ wr.heap.size := by have := hb.out.size; omega
          have hTT : wr.heap.size ≠ (wr.heap.size + 1) := by omega
          clear h1 h2 hsz q1 q2 q3 q4 q5 q6 q7 q8 a0 a1 a2 a3 a4 a5 b0 b1 b2 b3 b4 b5
          generalize (((wr.alloc (.cells #[.int .i64 (f i).k, .int .i64 (f i).a, .string (f i).x, .string (f i).y, .string (f i).z, .int .i64 (f i).o] 33)).alloc (.cells #[.int .i64 (h i).k, .int .i64 (h i).a, .string (h i).x, .string (h i).y, .string (h i).z, .int .i64 (h i).o] 33)).drew) = W at *
          generalize hBB : wr.heap.size + 1 = TB at *
          clear hBB
          generalize wr.heap.size = TA at *
          obtain ⟨s0, s1, s2, s3, s4, s5⟩ := HT6.out.cells
          obtain ⟨r0, r1, r2, r3, r4, r5⟩ := HT7.out.cells
          have z1 := HT6.out.frozen 1
          have HBs : Hid (Below w.heap.size w (W.setCell ⟨TA, 1, none⟩ (.int .i64 (h i).a))) := HBW.out.setCell (p := ⟨TA, 1, none⟩) hT6 _
          cases e0 : ((f i).k == (h i).k) with
          | false =>
            go_wp2
            go_ret
            exact HP.out _ _ HX.out HBs.out
          | true =>
          cases e1 : ((f i).x.toList == (h i).x.toList) with
          | false =>
            go_wp2
            go_ret
            exact HP.out _ _ HX.out HBs.out
          | true =>
          cases e2 : ((f i).y.toList == (h i).y.toList) with
          | false =>
            go_wp2
            go_ret
            exact HP.out _ _ HX.out HBs.out
          | true =>
          cases e3 : ((f i).z.toList == (h i).z.toList) with
          | false =>
            go_wp2
            go_ret
            exact HP.out _ _ HX.out HBs.out
          | true =>
          cases e4 : ((f i).o == (h i).o) with
          | false =>
            go_wp2
            go_ret
            exact HP.out _ _ HX.out HBs.out
          | true =>
          exact absurd heq (by unfold eqT; rw [e0, e1, e2, e3, e4]; decide)
        · have hsz : (wr.alloc (.cells #[.int .i64 (h i).k, .int .i64 (h i).a, .string (h i).x, .string (h i).y, .string (h i).z, .int .i64 (h i).o] 33)).heap.size = wr.heap.size + 1 := by simp
          have h1 : TkAt wr.heap.size (.int .i64 (h i).k) (.int .i64 (h i).a) (.string (h i).x) (.string (h i).y) (.string (h i).z) (.int .i64 (h i).o) (((wr.alloc (.cells #[.int .i64 (h i).k, .int .i64 (h i).a, .string (h i).x, .string (h i).y, .string (h i).z, .int .i64 (h i).o] 33)).alloc (.cells #[.int .i64 (f i).k, .int .i64 (f i).a, .string (f i).x, .string (f i).y, .string (f i).z, .int .i64 (f i).o] 33)).drew) := (Below.heap_alloc _ _ _ (by omega)).trans (Go.MapKept.heap_alloc wr _).1
          have h2 : TkAt (wr.heap.size + 1) (.int .i64 (f i).k) (.int .i64 (f i).a) (.string (f i).x) (.string (f i).y) (.string (f i).z) (.int .i64 (f i).o) (((wr.alloc (.cells #[.int .i64 (h i).k, .int .i64 (h i).a, .string (h i).x, .string (h i).y, .string (h i).z, .int .i64 (h i).o] 33)).alloc (.cells #[.int .i64 (f i).k, .int .i64 (f i).a, .string (f i).x, .string (f i).y, .string (f i).z, .int .i64 (f i).o] 33)).drew) := by
            have := (Go.MapKept.heap_alloc (wr.alloc (.cells #[.int .i64 (h i).k, .int .i64 (h i).a, .string (h i).x, .string (h i).y, .string (h i).z, .int .i64 (h i).o] 33)) (.cells #[.int .i64 (f i).k, .int .i64 (f i).a, .string (f i).x, .string (f i).y, .string (f i).z, .int .i64 (f i).o] 33)).1
            rw [hsz] at this
            exact this
          have HBW : Hid (Below w.heap.size w (((wr.alloc (.cells #[.int .i64 (h i).k, .int .i64 (h i).a, .string (h i).x, .string (h i).y, .string (h i).z, .int .i64 (h i).o] 33)).alloc (.cells #[.int .i64 (f i).k, .int .i64 (f i).a, .string (f i).x, .string (f i).y, .string (f i).z, .int .i64 (f i).o] 33)).drew)) := ((hb.out.alloc hb.out.size _).alloc (by rw [hsz]; exact Nat.le_succ_of_le hb.out.size) _).drew
          have HT6 := Lib.hid h2
          have HT7 := Lib.hid h1
          have hT6 : w.heap.size ≤ (wr.heap.size + 1) := by have := hb.out.size; omega
          have hTT : (wr.heap.size + 1) ≠ wr.heap.size := by omega
          clear h1 h2 hsz q1 q2 q3 q4 q5 q6 q7 q8 a0 a1 a2 a3 a4 a5 b0 b1 b2 b3 b4 b5
          generalize (((wr.alloc (.cells #[.int .i64 (h i).k, .int .i64 (h i).a, .string (h i).x, .string (h i).y, .string (h i).z, .int .i64 (h i).o] 33)).alloc (.cells #[.int .i64 (f i).k, .int .i64 (f i).a, .string (f i).x, .string (f i).y, .string (f i).z, .int .i64 (f i).o] 33)).drew) = W at *
          generalize hBB : wr.heap.size + 1 = TB at *
          clear hBB
          generalize wr.heap.size = TA at *
          obtain ⟨s0, s1, s2, s3, s4, s5⟩ := HT6.out.cells
          obtain ⟨r0, r1, r2, r3, r4, r5⟩ := HT7.out.cells
          have z1 := HT6.out.frozen 1
          have HBs : Hid (Below w.heap.size w (W.setCell ⟨TB, 1, none⟩ (.int .i64 (h i).a))) := HBW.out.setCell (p := ⟨TB, 1, none⟩) hT6 _
          cases e0 : ((f i).k == (h i).k) with
          | false =>
            go_wp2
            go_ret
            exact HP.out _ _ HX.out HBs.out
          | true =>
          cases e1 : ((f i).x.toList == (h i).x.toList) with
          | false =>
            go_wp2
            go_ret
            exact HP.out _ _ HX.out HBs.out
          | true =>
          cases e2 : ((f i).y.toList == (h i).y.toList) with
          | false =>
            go_wp2
            go_ret
            exact HP.out _ _ HX.out HBs.out
          | true =>
          cases e3 : ((f i).z.toList == (h i).z.toList) with
          | false =>
            go_wp2
            go_ret
            exact HP.out _ _ HX.out HBs.out
          | true =>
          cases e4 : ((f i).o == (h i).o) with
          | false =>
            go_wp2
            go_ret
            exact HP.out _ _ HX.out HBs.out
          | true =>
          exact absurd heq (by unfold eqT; rw [e0, e1, e2, e3, e4]; decide)
    · have hiN : i = N := by omega
      have HX : Hid (preF f h 0 N = i) := by
        show _ = _
        rw [hp.out, hiN, Nat.sub_self]
        rfl
      rcases hNe with ⟨h1, h2⟩ | ⟨h1, h2⟩
      · have hni : (n : Int) ≤ (i : Int) := by omega
        clear hiN h1 h2 hlt
        go_wp2
        go_ret
        exact HP.out _ _ HX.out hb.out
      · have hni : (i : Int) < (n : Int) := by omega
        have hmi : (m : Int) ≤ (i : Int) := by omega
        clear hiN h1 h2 hlt
        go_wp2
        go_ret
        exact HP.out _ _ HX.out hb.out

end Go.Proofs.YtnfoafcpcabpmaaDoor
