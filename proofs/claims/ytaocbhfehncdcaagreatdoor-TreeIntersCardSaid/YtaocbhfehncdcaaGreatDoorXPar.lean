/-
  parse, Parse and ParseExpr at the law's three texts. Conditions: the row of signs holds what the program's text lays.
-/
import Derived.Test.YtaocbhfehncdcaaGreatDoorXLv
namespace Go.Proofs.YtaocbhfehncdcaaGreatDoor
open Go.RowKit

def Tt.cs (t : Tt) : List Value := [.int .i64 t.k, .int .i64 t.a, .string t.x, .string ⟨#[]⟩, .string ⟨#[]⟩, .int .i64 t.o]
theorem tt_row {g : Nat} {w : World} : ∀ (ts : List Tt) (p : Nat), (∀ i x, (ts.flatMap Tt.cs)[i]? = some x → w.cell? ⟨g, p + i, none⟩ = some x) → ∀ i, i < ts.length → TtC g (p + i * 6) (tAt ts i) w
  | [], _, _, i, h => absurd h (by simp)
  | t :: r, p, hc, 0, _ => by
    show TtC g (p + 0 * 6) t w
    refine ⟨?_, ?_, ?_, ?_, ?_, ?_⟩
    · simpa using hc 0 _ rfl
    · simpa using hc 1 _ rfl
    · simpa using hc 2 _ rfl
    · simpa using hc 3 _ rfl
    · simpa using hc 4 _ rfl
    · simpa using hc 5 _ rfl
  | t :: r, p, hc, i + 1, h => by
    have := tt_row r (p + 6) (fun j x hx => by
      have h2 := hc (j + 6) x (by simpa [List.flatMap_cons, Tt.cs] using hx)
      rwa [show p + (j + 6) = p + 6 + j by omega] at h2) i (by simpa using h)
    rw [show p + (i + 1) * 6 = p + 6 + i * 6 by omega]
    exact this
/-- What Lex leaves of a text with known tokens. -/
def LaP (ts : List Tt) (w : World) (e : Ending) (w' : World) : Prop := ∃ g c, e = .returned (.tuple #[.slice (some ⟨g, 0, none⟩) ts.length c, .int .i64 (ts.length : Int), .int .i64 0]) ∧ Below w.heap.size w w' ∧ (∀ i, i < ts.length → TtC g (i * 6) (tAt ts i) w') ∧ w.heap.size ≤ g ∧ g < w'.heap.size ∧ ts.length ≤ c
theorem la_of (p : Plan) (ts : List Tt) (w : World) (hn : (p.R p.k).n = ts.length) (h0 : ts.length ≠ 0) (ht : (p.R p.k).tc = ts.flatMap Tt.cs) (e : Ending) (w' : World) (h : LxP p w e w') : LaP ts w e w' := by
  obtain ⟨a, c, rfl, ho, hb⟩ := h
  rw [hn, ht] at ho
  rw [hn]
  obtain ⟨g, rfl, hcap, hc⟩ := row_cell ho h0
  refine ⟨g, c, rfl, hb, fun i hi => ?_, (own_lt ho rfl).2, (own_lt ho rfl).1, hcap⟩
  have := tt_row (g := g) (w := w') ts 0 (fun i x hx => by simpa using hc i x hx) i hi
  simpa using this
/-- A parser that begins. -/
theorem ps_new {ts : List Tt} {g c m0 m1 m2 m3 m4 m5 m6 m7 : Nat} {w : World} (hr : ∀ i, i < ts.length → TtC g (i * 6) (tAt ts i) w) (hg : g < w.heap.size) (hc : ts.length ≤ c) (hf : ts.length ≤ 1000) (h0 : SMap w m0 (lvM 0)) (h1 : SMap w m1 (lvM 1)) (h2 : SMap w m2 (lvM 2)) (h3 : SMap w m3 (lvM 3)) (h4 : SMap w m4 (lvM 4)) (h5 : SMap w m5 (lvM 5)) (h6 : SMap w m6 (lvM 6)) (h7 : SMap w m7 (lvM 7)) :
    PsAt ⟨g, c, m0, m1, m2, m3, m4, m5, m6, m7⟩ ts w.heap.size 0 (w.alloc (.cells #[.slice (some ⟨g, 0, none⟩) ts.length c, .int .i64 0, .map (some m0), .map (some m1), .map (some m2), .map (some m3), .map (some m4), .map (some m5), .map (some m6), .map (some m7)] 76)) := by
  have hb := (Below.refl w.heap.size w).alloc (Nat.le_refl _) (.cells #[.slice (some ⟨g, 0, none⟩) ts.length c, .int .i64 0, .map (some m0), .map (some m1), .map (some m2), .map (some m3), .map (some m4), .map (some m5), .map (some m6), .map (some m7)] 76)
  refine ⟨(Go.MapKept.heap_alloc w _).1, fun i hi => (hr i hi).later (hb.block g hg), Nat.lt_of_lt_of_le hg hb.size, by show g ≠ _; omega, hc, fun n hn => ?_, fun n hn => ?_, hf⟩
  · match n, hn with
    | 0, _ => exact h0.block (hb.block _ h0.lt)
    | 1, _ => exact h1.block (hb.block _ h1.lt)
    | 2, _ => exact h2.block (hb.block _ h2.lt)
    | 3, _ => exact h3.block (hb.block _ h3.lt)
    | 4, _ => exact h4.block (hb.block _ h4.lt)
    | 5, _ => exact h5.block (hb.block _ h5.lt)
    | 6, _ => exact h6.block (hb.block _ h6.lt)
    | 7, _ => exact h7.block (hb.block _ h7.lt)
  · match n, hn with
    | 0, _ => exact Nat.ne_of_lt h0.lt
    | 1, _ => exact Nat.ne_of_lt h1.lt
    | 2, _ => exact Nat.ne_of_lt h2.lt
    | 3, _ => exact Nat.ne_of_lt h3.lt
    | 4, _ => exact Nat.ne_of_lt h4.lt
    | 5, _ => exact Nat.ne_of_lt h5.lt
    | 6, _ => exact Nat.ne_of_lt h6.lt
    | 7, _ => exact Nat.ne_of_lt h7.lt
theorem lax_a (w : World) (hg : SigAt w) : Calls Tryz.prog 49 #[.string ⟨#[36, 120, 45, 62, 91, 49, 93, 91, 50, 93]⟩] w (LaP tsA w) := (lex_pa w hg).mono fun e w' h => la_of pa tsA w rfl (by decide) rfl e w' h
theorem lax_b (w : World) (hg : SigAt w) : Calls Tryz.prog 49 #[.string ⟨#[109, 121, 32, 40, 36, 97, 44, 32, 64, 98, 41, 32, 61, 32, 64, 95, 59]⟩] w (LaP tsB w) := (lex_pb w hg).mono fun e w' h => la_of pb tsB w rfl (by decide) rfl e w' h
theorem lax_c (w : World) (hg : SigAt w) : Calls Tryz.prog 49 #[.string ⟨#[102, 40, 49, 59]⟩] w (LaP tsC w) := (lex_pc w hg).mono fun e w' h => la_of pc tsC w rfl (by decide) rfl e w' h
/-- What parse leaves: a row of trees. -/
def PaP (l : List Nd) (n : Int) (w : World) (e : Ending) (w' : World) : Prop := ∃ v, e = .returned (.tuple #[v, .int .i64 n, .int .i64 0]) ∧ NsAt (fun g => w.heap.size ≤ g) w' l v ∧ Below w.heap.size w w'
def PaB (m : Int) (w : World) (e : Ending) (w' : World) : Prop := e = .returned (.tuple #[.slice none 0 0, .int .i64 m, .int .i64 2]) ∧ Below w.heap.size w w'

set_option maxRecDepth 100000 in
set_option maxHeartbeats 16000000 in
theorem parse_a (w : World) (hg : SigAt w) : Calls Tryz.prog 34 #[.string ⟨#[36, 120, 45, 62, 91, 49, 93, 91, 50, 93]⟩, .func (.func 35) #[] #[]] w (PaP [nI (nI nX (nN 1)) (nN 2)] 8 w) := by
  have HLX := Lib.hid (lax_a w hg)
  clear hg
  go_enter Tryz.func34, Tryz.ntmps34
  go_wp2_with fail
  refine HLX.out.mono ?_
  rintro e1 W1 ⟨g, c, rfl, hb1, hr, hg1, hg2, hc⟩
  have HB1 := Lib.hid hb1
  have HR1 := Lib.hid hr
  have HG1 := Lib.hid hg1
  have HG2 := Lib.hid hg2
  have HC := Lib.hid hc
  clear hb1 hr hg1 hg2 hc HLX
  have hlen : tsA.length = 8 := rfl
  rw [hlen] at HR1 HC
  try rw [hlen]
  clear hlen
  go_wp2_with fail
  refine (levels_any _).mono ?_
  rintro e1 W2 ⟨m0, m1, m2, m3, m4, m5, m6, m7, rfl, hb2, h0, h1, h2, h3, h4, h5, h6, h7⟩
  have HPS := Lib.hid (ps_new (ts := tsA) (fun i hi => (HR1.out i hi).later (hb2.block g HG2.out)) (Nat.lt_of_lt_of_le HG2.out hb2.size) HC.out (by decide) h0 h1 h2 h3 h4 h5 h6 h7)
  have HB3 := Lib.hid ((HB1.out.trans (hb2.mono HB1.out.size)).alloc (Nat.le_trans HB1.out.size hb2.size) (.cells #[.slice (some ⟨g, 0, none⟩) tsA.length c, .int .i64 0, .map (some m0), .map (some m1), .map (some m2), .map (some m3), .map (some m4), .map (some m5), .map (some m6), .map (some m7)] 76))
  have HWP : Hid (w.heap.size ≤ W2.heap.size) := Nat.le_trans HB1.out.size hb2.size
  have hlen : tsA.length = 8 := rfl
  rw [hlen] at HPS HB3
  clear hlen
  clear hb2 h0 h1 h2 h3 h4 h5 h6 h7 HR1 HG1 HG2 HC HB1
  go_wp2_with fail
  generalize W2.alloc _ = W3 at *
  generalize W2.heap.size = P at *
  refine (all_a _ P _ HPS.out).mono ?_
  rintro e1 W4 ⟨v, rfl, hn, hb4⟩
  have HB4 : Hid (Below w.heap.size w W4) := HB3.out.trans (hb4.below HWP.out HB3.out.size)
  have HN4 : Hid (NsAt (fun g => w.heap.size ≤ g) W4 [nI (nI nX (nN 1)) (nN 2)] v) := hn.move fun g h1 h2 => ⟨rfl, Nat.le_trans HB3.out.size h1⟩
  clear hn hb4
  go_wp2_with fail
  refine (isLarge_no _ _ _ _ HN4.out (by decide) (by decide)).mono ?_
  rintro e1 W5 ⟨rfl, hb5⟩
  have HP : Hid (PaP [nI (nI nX (nN 1)) (nN 2)] 8 w (.returned (.tuple #[v, .int .i64 8, .int .i64 0])) W5) := ⟨_, rfl, HN4.out.move fun g h1 h2 => ⟨hb5.block g h2, h1⟩, HB4.out.trans (hb5.mono HB4.out.size)⟩
  clear hb5
  go_wp2
  refine bodyPost_ret (v := .tuple #[v, .int .i64 8, .int .i64 0]) ?_ rfl HP.out
  simp [results, Tryz.results34, go_sem]

set_option maxRecDepth 100000 in
set_option maxHeartbeats 16000000 in
theorem parse_b (w : World) (hg : SigAt w) : Calls Tryz.prog 34 #[.string ⟨#[109, 121, 32, 40, 36, 97, 44, 32, 64, 98, 41, 32, 61, 32, 64, 95, 59]⟩, .func (.func 36) #[] #[]] w (PaP [nEx] 9 w) := by
  have HLX := Lib.hid (lax_b w hg)
  clear hg
  go_enter Tryz.func34, Tryz.ntmps34
  go_wp2_with fail
  refine HLX.out.mono ?_
  rintro e1 W1 ⟨g, c, rfl, hb1, hr, hg1, hg2, hc⟩
  have HB1 := Lib.hid hb1
  have HR1 := Lib.hid hr
  have HG1 := Lib.hid hg1
  have HG2 := Lib.hid hg2
  have HC := Lib.hid hc
  clear hb1 hr hg1 hg2 hc HLX
  have hlen : tsB.length = 9 := rfl
  rw [hlen] at HR1 HC
  try rw [hlen]
  clear hlen
  go_wp2_with fail
  refine (levels_any _).mono ?_
  rintro e1 W2 ⟨m0, m1, m2, m3, m4, m5, m6, m7, rfl, hb2, h0, h1, h2, h3, h4, h5, h6, h7⟩
  have HPS := Lib.hid (ps_new (ts := tsB) (fun i hi => (HR1.out i hi).later (hb2.block g HG2.out)) (Nat.lt_of_lt_of_le HG2.out hb2.size) HC.out (by decide) h0 h1 h2 h3 h4 h5 h6 h7)
  have HB3 := Lib.hid ((HB1.out.trans (hb2.mono HB1.out.size)).alloc (Nat.le_trans HB1.out.size hb2.size) (.cells #[.slice (some ⟨g, 0, none⟩) tsB.length c, .int .i64 0, .map (some m0), .map (some m1), .map (some m2), .map (some m3), .map (some m4), .map (some m5), .map (some m6), .map (some m7)] 76))
  have HWP : Hid (w.heap.size ≤ W2.heap.size) := Nat.le_trans HB1.out.size hb2.size
  have hlen : tsB.length = 9 := rfl
  rw [hlen] at HPS HB3
  clear hlen
  clear hb2 h0 h1 h2 h3 h4 h5 h6 h7 HR1 HG1 HG2 HC HB1
  go_wp2_with fail
  generalize W2.alloc _ = W3 at *
  generalize W2.heap.size = P at *
  refine (all_b _ P _ HPS.out).mono ?_
  rintro e1 W4 ⟨v, rfl, hn, hb4⟩
  have HB4 : Hid (Below w.heap.size w W4) := HB3.out.trans (hb4.below HWP.out HB3.out.size)
  have HN4 : Hid (NsAt (fun g => w.heap.size ≤ g) W4 [nEx] v) := hn.move fun g h1 h2 => ⟨rfl, Nat.le_trans HB3.out.size h1⟩
  clear hn hb4
  go_wp2_with fail
  refine (isLarge_no _ _ _ _ HN4.out (by decide) (by decide)).mono ?_
  rintro e1 W5 ⟨rfl, hb5⟩
  have HP : Hid (PaP [nEx] 9 w (.returned (.tuple #[v, .int .i64 9, .int .i64 0])) W5) := ⟨_, rfl, HN4.out.move fun g h1 h2 => ⟨hb5.block g h2, h1⟩, HB4.out.trans (hb5.mono HB4.out.size)⟩
  clear hb5
  go_wp2
  refine bodyPost_ret (v := .tuple #[v, .int .i64 9, .int .i64 0]) ?_ rfl HP.out
  simp [results, Tryz.results34, go_sem]

set_option maxRecDepth 100000 in
set_option maxHeartbeats 16000000 in
theorem parse_c (w : World) (hg : SigAt w) : Calls Tryz.prog 34 #[.string ⟨#[102, 40, 49, 59]⟩, .func (.func 36) #[] #[]] w (PaB 3 w) := by
  have HLX := Lib.hid (lax_c w hg)
  clear hg
  go_enter Tryz.func34, Tryz.ntmps34
  go_wp2_with fail
  refine HLX.out.mono ?_
  rintro e1 W1 ⟨g, c, rfl, hb1, hr, hg1, hg2, hc⟩
  have HB1 := Lib.hid hb1
  have HR1 := Lib.hid hr
  have HG1 := Lib.hid hg1
  have HG2 := Lib.hid hg2
  have HC := Lib.hid hc
  clear hb1 hr hg1 hg2 hc HLX
  have hlen : tsC.length = 4 := rfl
  rw [hlen] at HR1 HC
  try rw [hlen]
  clear hlen
  go_wp2_with fail
  refine (levels_any _).mono ?_
  rintro e1 W2 ⟨m0, m1, m2, m3, m4, m5, m6, m7, rfl, hb2, h0, h1, h2, h3, h4, h5, h6, h7⟩
  have HPS := Lib.hid (ps_new (ts := tsC) (fun i hi => (HR1.out i hi).later (hb2.block g HG2.out)) (Nat.lt_of_lt_of_le HG2.out hb2.size) HC.out (by decide) h0 h1 h2 h3 h4 h5 h6 h7)
  have HB3 := Lib.hid ((HB1.out.trans (hb2.mono HB1.out.size)).alloc (Nat.le_trans HB1.out.size hb2.size) (.cells #[.slice (some ⟨g, 0, none⟩) tsC.length c, .int .i64 0, .map (some m0), .map (some m1), .map (some m2), .map (some m3), .map (some m4), .map (some m5), .map (some m6), .map (some m7)] 76))
  have HWP : Hid (w.heap.size ≤ W2.heap.size) := Nat.le_trans HB1.out.size hb2.size
  have hlen : tsC.length = 4 := rfl
  rw [hlen] at HPS HB3
  clear hlen
  clear hb2 h0 h1 h2 h3 h4 h5 h6 h7 HR1 HG1 HG2 HC HB1
  go_wp2_with fail
  generalize W2.alloc _ = W3 at *
  generalize W2.heap.size = P at *
  refine (all_c _ P _ HPS.out).mono ?_
  rintro e1 W4 ⟨rfl, hb4⟩
  have HP : Hid (PaB 3 w (.returned (.tuple #[.slice none 0 0, .int .i64 3, .int .i64 2])) W4) := ⟨rfl, HB3.out.trans (hb4.below HWP.out HB3.out.size)⟩
  clear hb4
  go_wp2
  refine bodyPost_ret (v := .tuple #[.slice none 0 0, .int .i64 3, .int .i64 2]) ?_ rfl HP.out
  simp [results, Tryz.results34, go_sem]

set_option maxRecDepth 100000 in
set_option maxHeartbeats 16000000 in
theorem Parse_b (w : World) (hg : SigAt w) : Calls Tryz.prog 20 #[.string ⟨#[109, 121, 32, 40, 36, 97, 44, 32, 64, 98, 41, 32, 61, 32, 64, 95, 59]⟩] w (PaP [nEx] 9 w) := by
  have HM := Lib.hid (parse_b w hg)
  clear hg
  go_enter Tryz.func20, Tryz.ntmps20
  go_wp2_with fail
  refine HM.out.mono ?_
  rintro e1 W1 ⟨v, rfl, hn, hb⟩
  have HP : Hid ((PaP [nEx] 9 w) (.returned (.tuple #[v, .int .i64 9, .int .i64 0])) W1) := ⟨_, rfl, hn, hb⟩
  clear hn hb
  go_wp2
  refine bodyPost_ret (v := .tuple #[v, .int .i64 9, .int .i64 0]) ?_ rfl HP.out
  simp [results, Tryz.results20, go_sem]

set_option maxRecDepth 100000 in
set_option maxHeartbeats 16000000 in
theorem Parse_c (w : World) (hg : SigAt w) : Calls Tryz.prog 20 #[.string ⟨#[102, 40, 49, 59]⟩] w (PaB 3 w) := by
  have HM := Lib.hid (parse_c w hg)
  clear hg
  go_enter Tryz.func20, Tryz.ntmps20
  go_wp2_with fail
  refine HM.out.mono ?_
  rintro e1 W1 ⟨rfl, hb⟩
  have HP : Hid ((PaB 3 w) (.returned (.tuple #[.slice none 0 0, .int .i64 3, .int .i64 2])) W1) := ⟨rfl, hb⟩
  clear hb
  go_wp2
  refine bodyPost_ret (v := .tuple #[.slice none 0 0, .int .i64 3, .int .i64 2]) ?_ rfl HP.out
  simp [results, Tryz.results20, go_sem]

/-- What ParseExpr leaves of the first text. -/
def PeP (t : Nd) (n : Int) (w : World) (e : Ending) (w' : World) : Prop := ∃ v, e = .returned (.tuple #[v, .int .i64 n, .int .i64 0]) ∧ NdAt (fun g => w.heap.size ≤ g) w' t v ∧ Below w.heap.size w w'
set_option maxRecDepth 100000 in
set_option maxHeartbeats 16000000 in
theorem ParseExpr_a (w : World) (hg : SigAt w) : Calls Tryz.prog 19 #[.string ⟨#[36, 120, 45, 62, 91, 49, 93, 91, 50, 93]⟩] w (PeP (nI (nI nX (nN 1)) (nN 2)) 8 w) := by
  have hb0 : Below w.heap.size w (w.alloc zN) := (Below.refl _ _).alloc (Nat.le_refl _) _
  have HT0 := Lib.hid (NkAt.zero w)
  have HM := Lib.hid (parse_a (w.alloc zN) (hg.block (hb0.block _ hg.lt)))
  have HB0 := Lib.hid hb0
  unfold zN at HT0 HM HB0
  clear hg hb0
  go_enter Tryz.func19, Tryz.ntmps19
  go_wp2_with fail
  generalize w.alloc _ = W0 at *
  generalize hTT : w.heap.size = T at *
  have HTT : Hid (w.heap.size = T) := hTT
  clear hTT
  refine HM.out.mono ?_
  rintro e1 W1 ⟨v, rfl, hn, hb⟩
  have HT1 := Lib.hid (HT0.out.below hb)
  have HB1 := Lib.hid (HB0.out.trans (hb.mono (Nat.le_of_lt HT0.out.lt)))
  obtain ⟨a, c, rfl, _, hrow⟩ := hn.row
  obtain ⟨g, o, rfl, hg, hel⟩ := hrow (by decide)
  obtain ⟨e⟩ := hel 0 (by decide)
  have HNS : Hid (NsAt (fun g => T < g) W1 e.l (.slice e.a e.k e.c)) := e.ns.move fun g h1 h2 => ⟨rfl, Nat.lt_of_lt_of_le HT0.out.lt h1⟩
  have HEQ := Lib.hid e.eq
  have q0 := e.c0
  have q1 := e.c1
  have q2 := e.c2
  have q3 := e.c3
  have q4 := e.c4
  generalize e.l = el at *
  generalize e.a = ea at *
  generalize e.k = ek at *
  generalize e.c = ec at *
  generalize e.op = eo at *
  generalize e.s = es at *
  generalize e.u = eu at *
  generalize e.n = en at *
  clear hn hb hel hrow e HM HT0 HB0
  obtain ⟨u0, u1, u2, u3, u4⟩ := HT1.out.cells
  have z0 := HT1.out.frozen 0
  have z1 := HT1.out.frozen 1
  have z2 := HT1.out.frozen 2
  have z3 := HT1.out.frozen 3
  have z4 := HT1.out.frozen 4
  simp only [Nat.zero_mul, Nat.add_zero] at q0 q1 q2 q3 q4
  go_wp2
  have HR := HT1.out.put (.int .i64 eo) (.string es) (.string eu) (.int .i64 en) (.slice ea ek ec)
  obtain ⟨r0, r1, r2, r3, r4⟩ := HR.cells
  have hbz := ndW_below W1 T (.int .i64 eo) (.string es) (.string eu) (.int .i64 en) (.slice ea ek ec)
  have hbo := ndW_block W1 T (.int .i64 eo) (.string es) (.string eu) (.int .i64 en) (.slice ea ek ec)
  change bodyPost _ _ _ _ _ (ndW W1 T (.int .i64 eo) (.string es) (.string eu) (.int .i64 en) (.slice ea ek ec))
  refine bodyPost_ret (v := .tuple #[.agg #[.int .i64 eo, .string es, .string eu, .int .i64 en, .slice ea ek ec], .int .i64 8, .int .i64 0]) ?_ rfl ⟨_, rfl, ?_, ?_⟩
  · generalize ndW W1 T (.int .i64 eo) (.string es) (.string eu) (.int .i64 en) (.slice ea ek ec) = WZ at *
    simp [results, Tryz.results19, go_sem, r0, r1, r2, r3, r4]
  · have he : nI (nI nX (nN 1)) (nN 2) = .mk eo es eu en el := HEQ.out
    rw [he]
    exact .mk (HNS.out.move fun g h1 h2 => ⟨hbo g (by omega), by have := HTT.out; omega⟩)
  · have h1 := HTT.out
    rw [h1]
    exact HB1.out.trans hbz


end Go.Proofs.YtaocbhfehncdcaaGreatDoor
