/-
  strings.Builder at this program: what WriteString, WriteRune and String do to a builder of the call's own. Conditions: what is written fits in 2^47 bytes. strings.Cut at one byte, strings.CutPrefix at a text, as facts on lists of bytes. Conditions: texts of at most 1000000 bytes. Bytes of sources and words, lex's and the document's. Conditions: texts of at most 2^47 bytes.
-/
import Derived.Test.YtaocbhfehncdcaaGreatDoorXM00
import Derived.Test.YtaocbhfehncdcaaGreatDoorXShelf
import Derived.WalkKit
import Derived.Below
import Derived.Lib.Hide
import Derived.BigQuiet
import Derived.Deep.QuietTactic
import Derived.Outline
import Derived.WalkLawsBesides
import Derived.WalkSpells
namespace Go.Proofs.YtaocbhfehncdcaaGreatDoor
open Go.RowKit

theorem bl_drewN {B : Nat} {a w : World} (h : Below B a w) (q : Nat) : Below B a (w.drewN q) := ⟨h.os, h.tape, h.output, h.size, h.block⟩
/-- A string of these bytes. -/
def bs (l : List UInt8) : ByteArray := ⟨l.toArray⟩
theorem bs_list (l : List UInt8) : (bs l).data.toList = l := by simp [bs]
theorem bs_of (s : ByteArray) : bs s.data.toList = s := by cases s; simp [bs]
theorem bs_size (l : List UInt8) : (bs l).size = l.length := by simp [bs, ByteArray.size]
theorem size_list (s : ByteArray) : s.size = s.data.toList.length := rfl
theorem bs_append (l m : List UInt8) : bs l ++ bs m = bs (l ++ m) := by
  simp [bs, ByteArray.mk_append_mk]
theorem bs_inj {l m : List UInt8} (h : bs l = bs m) : l = m := by
  have := congrArg (fun s : ByteArray => s.data.toList) h
  simpa [bs] using this

theorem infoB : (Tryz.prog.info? 5).map (fun i => (i.zero, i.size, i.bytes)) = some (some (.int .u8 0), 1, 1) := by kernel_rfl
theorem sizeBd : ∃ j, Tryz.prog.info? 54 = some j ∧ j.size = 2 := by
  have h : (Tryz.prog.info? 54).map (fun i => i.size) = some 2 := by kernel_rfl
  obtain ⟨j, hj, hs⟩ := Option.map_eq_some_iff.1 h
  exact ⟨j, hj, hs⟩
theorem liesBd : liesAt Tryz.prog Tryz.prog.depth 54 (2 / Tryz.prog.cellsOf 54) 0 54 1 = true := by kernel_rfl

set_option maxRecDepth 100000 in
theorem copyCheck_used (b : Nat) (w : World) (h0 : w.cell? ⟨b, 0, none⟩ = some (.pointer (some ⟨b, 0, none⟩))) :
    Calls Tryz.prog 65 #[.pointer (some ⟨b, 0, none⟩)] w fun e w' => e = .returned (.tuple #[]) ∧ w' = w := by
  obtain ⟨j, hj, _⟩ := sizeBd
  go_enter Tryz.func65, Tryz.ntmps65
  go_wp2
  rw [Lib.run_neq_ptr_same w _ Tryz.underlying51 hj]
  go_wp2
  go_end0
  exact ⟨rfl, rfl⟩

set_option maxRecDepth 100000 in
theorem copyCheck_fresh (b : Nat) (w : World) (h0 : w.cell? ⟨b, 0, none⟩ = some (.pointer none)) (hsh : w.shape? b = some (54, 2)) (hfz : w.frozen? ⟨b, 0, none⟩ = false) :
    Calls Tryz.prog 65 #[.pointer (some ⟨b, 0, none⟩)] w fun e w' => e = .returned (.tuple #[]) ∧ w' = w.setCell ⟨b, 0, none⟩ (.pointer (some ⟨b, 0, none⟩)) := by
  obtain ⟨j, hj, hjs⟩ := sizeBd
  go_enter Tryz.func65, Tryz.ntmps65
  go_wp2
  rw [Lib.run_to_unsafe w ⟨b, 0, none⟩ Tryz.underlying51 Tryz.underlying113 hj (by rw [hjs]; decide) hsh (Nat.zero_lt_succ 1)]
  simp only [Result.andThen]
  rw [Oper.upon_value]
  go_wp2
  rw [run_callFunc_extern Tryz.func100 (by kernel_rfl) (by kernel_rfl) (by kernel_rfl) (e := Extern.AbiNoEscape.same) (by kernel_rfl)]
  rw [Lib.run_noEscape]
  simp only [Result.andThen]
  rw [Oper.upon_value]
  go_wp2
  rw [Lib.run_from_unsafe w ⟨b, 0, none⟩ Tryz.underlying113 Tryz.underlying51 hj hsh liesBd]
  simp only [Result.andThen]
  rw [Oper.upon_value]
  go_wp2
  go_end0
  exact ⟨rfl, rfl⟩

/-- A builder in block b, holding bytes; B: where the call's own blocks begin. -/
def Bld (B b : Nat) (l : List UInt8) (w : World) : Prop := Lib.IsBuilderF 54 5 B b (Lib.byteCells l) w
/-- Behind a writing method. -/
def BldKept (B b : Nat) (l : List UInt8) (w w' : World) : Prop := Bld B b l w' ∧ Below B w w' ∧ Lib.OthersKept 5 (some b) w w'

theorem Bld.fresh (B : Nat) (w : World) (h : B ≤ w.heap.size) : Bld B w.heap.size [] (w.alloc (.cells #[.pointer none, .slice none 0 0] 54)) := by
  refine .inl ⟨h, .slice none 0 0, heap_alloc_new w _, ?_, by simp [Value.ownBlock]⟩
  exact World.ownsRowF_of (World.ownsRow_nil _ _ _ _)
theorem Bld.iterAt {B b : Nat} {l : List UInt8} {w : World} (h : Bld B b l w) {k : Nat} {s : ByteArray} {pos : Nat} (hk : w.heap[k]? = some (.stringIter s pos)) (pos' : Nat) : Bld B b l (w.iterAt k s pos') :=
  Lib.IsBuilderF.iterAt h hk pos'
theorem Bld.alloc {B b : Nat} {l : List UInt8} {w : World} (h : Bld B b l w) (o : Obj) : Bld B b l (w.alloc o) := Lib.IsBuilderF.alloc h o
theorem Bld.parts {B b : Nat} {l : List UInt8} {w : World} (h : Bld B b l w) : B ≤ b ∧ ∃ p v, w.heap[b]? = some (.cells #[p, v] 54 (0, 0)) := by
  rcases h with ⟨h1, v, h2, _⟩ | ⟨h1, v, h2, _⟩
  · exact ⟨h1, _, v, h2⟩
  · exact ⟨h1, _, v, h2⟩
theorem Bld.lt {B b : Nat} {l : List UInt8} {w : World} (h : Bld B b l w) : b < w.heap.size := by
  obtain ⟨_, p, v, h⟩ := h.parts
  exact (Array.getElem?_eq_some_iff.1 h).1

set_option maxRecDepth 100000 in
theorem copyCheck_any (B b : Nat) (xs : List Value) (w : World) (h : Lib.IsBuilderF 54 5 B b xs w) :
    Calls Tryz.prog 65 #[.pointer (some ⟨b, 0, none⟩)] w fun e w' => e = .returned (.tuple #[]) ∧ (Lib.BuilderAtF 54 5 B b (.pointer (some ⟨b, 0, none⟩)) xs w' ∧ Below B w w' ∧ Lib.OthersKept 5 (some b) w w') := by
  rcases h with h | h
  · refine (copyCheck_fresh b w h.cell0 h.shape h.frozen0).mono ?_
    rintro e w' ⟨rfl, rfl⟩
    exact ⟨rfl, h.used _, (Below.refl B w).setCell (p := ⟨b, 0, none⟩) h.1 _, (Lib.OthersKept.refl _ _ w).setCell ⟨b, 0, none⟩ rfl _⟩
  · refine (copyCheck_used b w h.cell0).mono ?_
    rintro e w' ⟨rfl, rfl⟩
    exact ⟨rfl, h, Below.refl B _, Lib.OthersKept.refl _ _ _⟩

def WrP (n : Int) (B b : Nat) (l : List UInt8) (w : World) (e : Ending) (w' : World) : Prop := e = .returned (.tuple #[.int .i64 n, .nilIface]) ∧ BldKept B b l w w'

set_option maxHeartbeats 2000000 in
set_option maxRecDepth 100000 in
theorem WriteString_any (B b : Nat) (l : List UInt8) (s : ByteArray) (w : World) (h : Bld B b l w) (hlen : l.length + s.size ≤ 140737488355328) (hBw : B ≤ w.heap.size) :
    Calls Tryz.prog 41 #[.pointer (some ⟨b, 0, none⟩), .string s] w (WrP s.size B b (l ++ s.data.toList) w) := by
  obtain ⟨i0, hi, hz0, hz1, hz2⟩ := info_parts infoB
  have hl2 : (Lib.byteCells l).length + s.size ≤ 140737488355328 := by rw [Lib.byteCells_length]; exact hlen
  have hcells : Hid (Lib.byteCells (l ++ s.data.toList) = Lib.byteCells l ++ Lib.strCells s) := by
    show _ = _
    simp [Lib.byteCells, Lib.strCells]
  have HP : Hid (∀ w', (Lib.BuilderAtF 54 5 B b (.pointer (some ⟨b, 0, none⟩)) (Lib.byteCells l ++ Lib.strCells s) w' ∧ Below B w w' ∧ Lib.OthersKept 5 (some b) w w') → WrP s.size B b (l ++ s.data.toList) w (.returned (.tuple #[.int .i64 s.size, .nilIface])) w') := by
    rintro w' ⟨h1, h2, h3⟩
    refine ⟨rfl, ?_, h2, h3⟩
    show Lib.IsBuilderF _ _ _ _ _ _
    rw [hcells.out]
    exact .inr h1
  clear hcells hlen
  unfold Bld at h
  generalize Lib.byteCells l = xs at *
  go_enter Tryz.func41, Tryz.ntmps41
  go_wp2_with fail
  refine (copyCheck_any B b xs _ h).mono ?_
  rintro e w1 ⟨rfl, h1, hb1, hk1⟩
  obtain ⟨hB, v, hbk, hown, hne⟩ := h1
  have c0 : w1.cell? ⟨b, 0, none⟩ = some (.pointer (some ⟨b, 0, none⟩)) := by rw [Lib.cell_of_heap hbk]; rfl
  have c1 : w1.cell? ⟨b, 1, none⟩ = some v := by rw [Lib.cell_of_heap hbk]; rfl
  have hbs := hb1.size
  go_wp2_with (at_builtin; refine Lib.wpList_append_own_stringF _ rfl _ _ 52 9 rfl B 5 i0 Tryz.underlying52 Tryz.underlying9 hi hz0 hz1 hz2 _ _ _ rfl hown s rfl (by unfold maxLen; omega) (by omega) (by omega) ?_)
  intro v' w2 hown' hgrow _
  have hlt : b < w1.heap.size := (Array.getElem?_eq_some_iff.1 hbk).1
  have hb2 : w2.heap[b]? = some (.cells #[.pointer (some ⟨b, 0, none⟩), v] 54 (0, 0)) := by
    rw [hgrow.block b hlt (fun e => hne e.symm)]
    exact hbk
  have d0 : w2.cell? ⟨b, 0, none⟩ = some (.pointer (some ⟨b, 0, none⟩)) := by rw [Lib.cell_of_heap hb2]; rfl
  have d1 : w2.cell? ⟨b, 1, none⟩ = some v := by rw [Lib.cell_of_heap hb2]; rfl
  have f1 : w2.frozen? ⟨b, 1, none⟩ = false := Lib.frozen_of_heap hb2 1
  obtain ⟨ao, n', cap, rfl⟩ : ∃ ao n' cap, v' = .slice ao n' cap := by
    rcases hown'.2 with ⟨hv, _⟩ | ⟨g, cap, cur, fz, hv, _⟩
    · exact ⟨_, _, _, hv⟩
    · exact ⟨_, _, _, hv⟩
  go_wp2
  go_ret2
  refine HP.out _ ⟨?_, ?_, (hk1.grown hgrow (Lib.ownsRowF_kind hown)).setCell ⟨b, 1, none⟩ rfl _⟩
  · exact Lib.BuilderAtF.put hB hb2 (by simpa [Lib.strCells_length] using hown') (by decide)
  · exact (hb1.grown hgrow (by omega) (fun k hk => (hown.lt k hk).1)).setCell (p := ⟨b, 1, none⟩) hB _

theorem String_any (B b : Nat) (l : List UInt8) (w : World) (h : Bld B b l w) (hBw : B ≤ w.heap.size) :
    Calls Tryz.prog 43 #[.pointer (some ⟨b, 0, none⟩)] w fun e w' => e = .returned (.string (bs l)) ∧ BldKept B b l w w' :=
  Tryz.Builder_String_any_k B b l w h hBw

end Go.Proofs.YtaocbhfehncdcaaGreatDoor

namespace Go.Proofs.YtaocbhfehncdcaaGreatDoor
open Go.RowKit

def CutP (x y : ByteArray) (b : Bool) (w : World) (e : Ending) (w' : World) : Prop := e = .returned (.tuple #[.string x, .string y, .bool b]) ∧ Below w.heap.size w w'
theorem ixB_hit (c : UInt8) (r : List UInt8) : ∀ (d : List UInt8), c ∉ d → Lib.indexByte (d ++ c :: r) c = (d.length : Int)
  | [], _ => by simp [Lib.indexByte]
  | b :: d, h => by
    have h1 : (b == c) = false := by
      rw [beq_eq_false_iff_ne]
      rintro rfl
      exact h (by simp)
    have h2 := ixB_hit c r d (fun hd => h (by simp [hd]))
    have h3 : ((d.length : Int) == -1) = false := by
      rw [beq_eq_false_iff_ne]
      omega
    show (if b == c then (0 : Int) else if Lib.indexByte (d ++ c :: r) c == -1 then -1 else Lib.indexByte (d ++ c :: r) c + 1) = _
    rw [h1, h2, h3]
    simp
theorem ixB_miss (c : UInt8) : ∀ (l : List UInt8), c ∉ l → Lib.indexByte l c = -1
  | [], _ => rfl
  | b :: l, h => by
    have h1 : (b == c) = false := by
      rw [beq_eq_false_iff_ne]
      rintro rfl
      exact h (by simp)
    have h2 := ixB_miss c l (fun hd => h (by simp [hd]))
    show (if b == c then (0 : Int) else if Lib.indexByte l c == -1 then -1 else Lib.indexByte l c + 1) = _
    rw [h1, h2]
    simp
theorem bs_drop (l m : List UInt8) (k : Nat) (h : k = l.length) : (bs (l ++ m)).extract k (bs (l ++ m)).size = bs m := by
  subst h
  rw [← bs_of ((bs (l ++ m)).extract l.length (bs (l ++ m)).size), Lib.extract_data, bs_list, bs_size]
  congr 1
  simp
theorem bs_take (l m : List UInt8) (k : Nat) (h : k = l.length) : (bs (l ++ m)).extract 0 k = bs l := by
  subst h
  rw [← bs_of ((bs (l ++ m)).extract 0 l.length), Lib.extract_data, bs_list]
  congr 1
  simp

set_option maxHeartbeats 1000000 in
theorem lCut_hit (c : UInt8) (d r : List UInt8) (hd : c ∉ d) (hz : d.length + r.length ≤ 1000000) (w : World) :
    Calls Tryz.prog 126 #[.string (bs (d ++ c :: r)), .string ⟨#[c]⟩] w (CutP (bs d) (bs r) true w) := by
  have HI : Hid (∀ w, Calls Tryz.prog 138 #[.string (bs (d ++ c :: r)), .string ⟨#[c]⟩] w fun e w' => e = .returned (.int .i64 d.length) ∧ w' = w) := fun w => by
    have := Tryz.stringslite_Index_one (bs (d ++ c :: r)) c w
    rwa [bs_list, ixB_hit c r d hd] at this
  have hs : (bs (d ++ c :: r)).size = d.length + 1 + r.length := by
    rw [bs_size, List.length_append, List.length_cons]
    omega
  have h1 : ((bs (d ++ c :: r)).size : Int) = (d.length : Int) + 1 + r.length := by omega
  have E1 : Hid ((bs (d ++ c :: r)).extract 0 d.length = bs d) := bs_take d (c :: r) d.length rfl
  have E2 : Hid ((bs (d ++ c :: r)).extract (d.length + 1) (bs (d ++ c :: r)).size = bs r) := by
    have := bs_drop (d ++ [c]) r (d.length + 1) (by simp)
    rwa [List.append_assoc] at this
  have HP : Hid (∀ x y w', x = bs d → y = bs r → Below w.heap.size w w' → CutP (bs d) (bs r) true w (.returned (.tuple #[.string x, .string y, .bool true])) w') := fun x y w' e1 e2 h => by
    subst e1
    subst e2
    exact ⟨rfl, h⟩
  have HB := Lib.hid (Below.refl w.heap.size w)
  have hc1 : (⟨#[c]⟩ : ByteArray).size = 1 := rfl
  have hle : d.length + 1 ≤ (bs (d ++ c :: r)).size := by omega
  have hsm : (bs (d ++ c :: r)).size ≤ 1000001 := by omega
  clear hs h1 hd hz
  generalize bs (d ++ c :: r) = s at *
  generalize d.length = n at *
  generalize (⟨#[c]⟩ : ByteArray) = sep at *
  go_enter Tryz.func126, Tryz.ntmps126
  go_wp2_with fail
  refine (HI.out _).mono ?_
  rintro e w' ⟨rfl, rfl⟩
  go_wp2
  go_quiet (fail)
  go_wp2
  go_ret3
  exact HP.out _ _ _ E1.out E2.out (bl_drewN HB.out _)
set_option maxHeartbeats 1000000 in
theorem lCut_miss (c : UInt8) (l : List UInt8) (hd : c ∉ l) (w : World) :
    Calls Tryz.prog 126 #[.string (bs l), .string ⟨#[c]⟩] w (CutP (bs l) ⟨#[]⟩ false w) := by
  have HI : Hid (∀ w, Calls Tryz.prog 138 #[.string (bs l), .string ⟨#[c]⟩] w fun e w' => e = .returned (.int .i64 (-1)) ∧ w' = w) := fun w => by
    have := Tryz.stringslite_Index_one (bs l) c w
    rwa [bs_list, ixB_miss c l hd] at this
  have HB := Lib.hid (Below.refl w.heap.size w)
  clear hd
  generalize bs l = s at *
  generalize (⟨#[c]⟩ : ByteArray) = sep at *
  go_enter Tryz.func126, Tryz.ntmps126
  go_wp2_with fail
  refine (HI.out _).mono ?_
  rintro e w' ⟨rfl, rfl⟩
  go_wp2
  go_ret3
  exact ⟨rfl, HB.out⟩
theorem sCut_hit (c : UInt8) (d r : List UInt8) (hd : c ∉ d) (hz : d.length + r.length ≤ 1000000) (w : World) :
    Calls Tryz.prog 97 #[.string (bs (d ++ c :: r)), .string ⟨#[c]⟩] w (CutP (bs d) (bs r) true w) := by
  have H := Lib.hid (lCut_hit c d r hd hz w)
  clear hd hz
  generalize bs (d ++ c :: r) = s at *
  generalize (⟨#[c]⟩ : ByteArray) = sep at *
  go_enter Tryz.func97, Tryz.ntmps97
  go_wp2_with fail
  refine (H.out).mono ?_
  rintro e w' ⟨rfl, hb⟩
  have HB := Lib.hid hb
  clear hb
  go_wp2
  go_ret3
  exact ⟨rfl, HB.out⟩
theorem sCut_miss (c : UInt8) (l : List UInt8) (hd : c ∉ l) (w : World) :
    Calls Tryz.prog 97 #[.string (bs l), .string ⟨#[c]⟩] w (CutP (bs l) ⟨#[]⟩ false w) := by
  have H := Lib.hid (lCut_miss c l hd w)
  clear hd
  generalize bs l = s at *
  generalize (⟨#[c]⟩ : ByteArray) = sep at *
  go_enter Tryz.func97, Tryz.ntmps97
  go_wp2_with fail
  refine (H.out).mono ?_
  rintro e w' ⟨rfl, hb⟩
  have HB := Lib.hid hb
  clear hb
  go_wp2
  go_ret3
  exact ⟨rfl, HB.out⟩

theorem cpre_hit (p r : List UInt8) (w : World) : Calls Tryz.prog 96 #[.string (bs (p ++ r)), .string ⟨p.toArray⟩] w fun e w' => e = .returned (.tuple #[.string (bs r), .bool true]) ∧ w = w' := by
  refine (Tryz.strings_CutPrefix (bs (p ++ r)) ⟨p.toArray⟩ w).mono ?_
  rintro e w' ⟨rfl, rfl⟩
  have h : Lib.hasPrefix (bs (p ++ r)).data.toList p = true := by
    rw [bs_list]
    unfold Lib.hasPrefix
    rw [List.isPrefixOf_iff_prefix]
    exact List.prefix_append p r
  refine ⟨?_, rfl⟩
  unfold Lib.trimPrefix
  simp only [h, if_true]
  rw [bs_list, List.drop_left]
  rfl
theorem cpre_miss (l p : List UInt8) (h : p.isPrefixOf l = false) (w : World) : Calls Tryz.prog 96 #[.string (bs l), .string ⟨p.toArray⟩] w fun e w' => e = .returned (.tuple #[.string (bs l), .bool false]) ∧ w = w' := by
  refine (Tryz.strings_CutPrefix (bs l) ⟨p.toArray⟩ w).mono ?_
  rintro e w' ⟨rfl, rfl⟩
  have h : Lib.hasPrefix (bs l).data.toList p = false := by
    rw [bs_list]
    exact h
  refine ⟨?_, rfl⟩
  unfold Lib.trimPrefix
  simp only [h]
  rw [bs_list]
  rfl

end Go.Proofs.YtaocbhfehncdcaaGreatDoor

namespace Go.Proofs.YtaocbhfehncdcaaGreatDoor
open Go.RowKit

def BoS (b : Bool) (w : World) (e : Ending) (w' : World) : Prop := e = .returned (.bool b) ∧ w = w'
def InS (n : Int) (w : World) (e : Ending) (w' : World) : Prop := e = .returned (.int .i64 n) ∧ w = w'
theorem BoS.mk {a b : Bool} (h : a = b) (w : World) : BoS b w (.returned (.bool a)) w := ⟨by rw [h], rfl⟩
def stN (x : Nat) : Bool := decide (97 ≤ x ∧ x ≤ 122) || decide (65 ≤ x ∧ x ≤ 90) || decide (x = 95)
def dgN (x : Nat) : Bool := decide (48 ≤ x ∧ x ≤ 57)
def blN (x : Nat) : Bool := decide (x = 32) || decide (x = 9) || decide (x = 10)
def byN (x : Nat) : Bool := decide (x = 9) || decide (x = 10) || decide (32 ≤ x ∧ x ≤ 126)
def stB (b : UInt8) : Bool := stN b.toNat
def dgB (b : UInt8) : Bool := dgN b.toNat
def blB (b : UInt8) : Bool := blN b.toNat
def byB (b : UInt8) : Bool := byN b.toNat
def nmB (b : UInt8) : Bool := stB b || dgB b

theorem stN_cases (x : Nat) : (x < 65 ∧ stN x = false) ∨ (65 ≤ x ∧ x ≤ 90 ∧ stN x = true) ∨ (90 < x ∧ x < 97 ∧ x ≠ 95 ∧ stN x = false) ∨ (x = 95 ∧ stN x = true) ∨ (97 ≤ x ∧ x ≤ 122 ∧ stN x = true) ∨ (122 < x ∧ stN x = false) := by
  unfold stN
  by_cases h1 : x < 65
  · exact .inl ⟨h1, by simp; omega⟩
  by_cases h2 : x ≤ 90
  · exact .inr (.inl ⟨by omega, h2, by simp; omega⟩)
  by_cases h3 : x = 95
  · exact .inr (.inr (.inr (.inl ⟨h3, by simp [h3]⟩)))
  by_cases h4 : x < 97
  · exact .inr (.inr (.inl ⟨by omega, h4, h3, by simp; omega⟩))
  by_cases h5 : x ≤ 122
  · exact .inr (.inr (.inr (.inr (.inl ⟨by omega, h5, by simp; omega⟩))))
  · exact .inr (.inr (.inr (.inr (.inr ⟨by omega, by simp; omega⟩))))

theorem isStart_any (b : UInt8) (w : World) : Calls Tryz.prog 56 #[.int .u8 b.toNat] w (BoS (stB b) w) := by
  have HP : Hid (∀ v w, v = stB b → BoS (stB b) w (.returned (.bool v)) w) := fun v w h => BoS.mk h w
  unfold stB at *
  generalize b.toNat = x at *
  rcases stN_cases x with ⟨h1, h⟩ | ⟨h1, h2, h⟩ | ⟨h1, h2, h3, h⟩ | ⟨h1, h⟩ | ⟨h1, h2, h⟩ | ⟨h1, h⟩
  · have HX := Lib.hid h.symm
    have g1 : x < 97 := by omega
    have g2 : ((x : Int) == 95) = false := by rw [beq_eq_false_iff_ne]; omega
    clear h
    go_enter Tryz.func56, Tryz.ntmps56
    go_wp2
    go_ret
    exact HP.out _ _ (by first | exact HX.out | (rw [← HX.out]; simp; omega))
  · have HX := Lib.hid h.symm
    have g1 : x < 97 := by omega
    clear h
    go_enter Tryz.func56, Tryz.ntmps56
    go_wp2
    go_ret
    exact HP.out _ _ (by first | exact HX.out | (rw [← HX.out]; simp; omega))
  · have HX := Lib.hid h.symm
    have g2 : ((x : Int) == 95) = false := by rw [beq_eq_false_iff_ne]; omega
    clear h h3
    go_enter Tryz.func56, Tryz.ntmps56
    go_wp2
    go_ret
    exact HP.out _ _ (by first | exact HX.out | (rw [← HX.out]; simp; omega))
  · have HX := Lib.hid h.symm
    clear h
    subst h1
    rw [show ((95 : Nat) : Int) = 95 from rfl]
    go_enter Tryz.func56, Tryz.ntmps56
    go_wp2
    go_ret
    exact HP.out _ _ (by first | exact HX.out | (rw [← HX.out]; simp; omega))
  · have HX := Lib.hid h.symm
    clear h
    go_enter Tryz.func56, Tryz.ntmps56
    go_wp2
    go_ret
    exact HP.out _ _ (by first | exact HX.out | (rw [← HX.out]; simp; omega))
  · have HX := Lib.hid h.symm
    have g2 : ((x : Int) == 95) = false := by rw [beq_eq_false_iff_ne]; omega
    have g3 : 90 < x := by omega
    clear h
    go_enter Tryz.func56, Tryz.ntmps56
    go_wp2
    go_ret
    exact HP.out _ _ (by first | exact HX.out | (rw [← HX.out]; simp; omega))
theorem isAlpha_any (b : UInt8) (w : World) : Calls Tryz.prog 59 #[.int .u8 b.toNat] w (BoS (stB b) w) := by
  have HP : Hid (∀ v w, v = stB b → BoS (stB b) w (.returned (.bool v)) w) := fun v w h => BoS.mk h w
  unfold stB at *
  generalize b.toNat = x at *
  rcases stN_cases x with ⟨h1, h⟩ | ⟨h1, h2, h⟩ | ⟨h1, h2, h3, h⟩ | ⟨h1, h⟩ | ⟨h1, h2, h⟩ | ⟨h1, h⟩
  · have HX := Lib.hid h.symm
    have g1 : x < 97 := by omega
    have g2 : ((x : Int) == 95) = false := by rw [beq_eq_false_iff_ne]; omega
    clear h
    go_enter Tryz.func59, Tryz.ntmps59
    go_wp2
    go_ret
    exact HP.out _ _ (by first | exact HX.out | (rw [← HX.out]; simp; omega))
  · have HX := Lib.hid h.symm
    have g1 : x < 97 := by omega
    clear h
    go_enter Tryz.func59, Tryz.ntmps59
    go_wp2
    go_ret
    exact HP.out _ _ (by first | exact HX.out | (rw [← HX.out]; simp; omega))
  · have HX := Lib.hid h.symm
    have g2 : ((x : Int) == 95) = false := by rw [beq_eq_false_iff_ne]; omega
    clear h h3
    go_enter Tryz.func59, Tryz.ntmps59
    go_wp2
    go_ret
    exact HP.out _ _ (by first | exact HX.out | (rw [← HX.out]; simp; omega))
  · have HX := Lib.hid h.symm
    clear h
    subst h1
    rw [show ((95 : Nat) : Int) = 95 from rfl]
    go_enter Tryz.func59, Tryz.ntmps59
    go_wp2
    go_ret
    exact HP.out _ _ (by first | exact HX.out | (rw [← HX.out]; simp; omega))
  · have HX := Lib.hid h.symm
    clear h
    go_enter Tryz.func59, Tryz.ntmps59
    go_wp2
    go_ret
    exact HP.out _ _ (by first | exact HX.out | (rw [← HX.out]; simp; omega))
  · have HX := Lib.hid h.symm
    have g2 : ((x : Int) == 95) = false := by rw [beq_eq_false_iff_ne]; omega
    have g3 : 90 < x := by omega
    clear h
    go_enter Tryz.func59, Tryz.ntmps59
    go_wp2
    go_ret
    exact HP.out _ _ (by first | exact HX.out | (rw [← HX.out]; simp; omega))
theorem dgN_cases (x : Nat) : (x < 48 ∧ dgN x = false) ∨ (48 ≤ x ∧ x ≤ 57 ∧ dgN x = true) ∨ (57 < x ∧ dgN x = false) := by
  unfold dgN
  by_cases h1 : x < 48
  · exact .inl ⟨h1, by simp; omega⟩
  by_cases h2 : x ≤ 57
  · exact .inr (.inl ⟨by omega, h2, by simp; omega⟩)
  · exact .inr (.inr ⟨by omega, by simp; omega⟩)
theorem isDigit_any (b : UInt8) (w : World) : Calls Tryz.prog 57 #[.int .u8 b.toNat] w (BoS (dgB b) w) := by
  have HP : Hid (∀ v w, v = dgB b → BoS (dgB b) w (.returned (.bool v)) w) := fun v w h => BoS.mk h w
  unfold dgB at *
  generalize b.toNat = x at *
  rcases dgN_cases x with ⟨h1, h⟩ | ⟨h1, h2, h⟩ | ⟨h1, h⟩
  all_goals
    have HX := Lib.hid h.symm
    clear h
    go_enter Tryz.func57, Tryz.ntmps57
    go_wp2
    go_ret
    exact HP.out _ _ (by first | exact HX.out | (rw [← HX.out]; simp; omega))
theorem rIsDigit_any (b : UInt8) (w : World) : Calls Tryz.prog 60 #[.int .u8 b.toNat] w (BoS (dgB b) w) := by
  have HP : Hid (∀ v w, v = dgB b → BoS (dgB b) w (.returned (.bool v)) w) := fun v w h => BoS.mk h w
  unfold dgB at *
  generalize b.toNat = x at *
  rcases dgN_cases x with ⟨h1, h⟩ | ⟨h1, h2, h⟩ | ⟨h1, h⟩
  all_goals
    have HX := Lib.hid h.symm
    clear h
    go_enter Tryz.func60, Tryz.ntmps60
    go_wp2
    go_ret
    exact HP.out _ _ (by first | exact HX.out | (rw [← HX.out]; simp; omega))
theorem isBlank_any (b : UInt8) (w : World) : Calls Tryz.prog 134 #[.int .u8 b.toNat] w (BoS (blB b) w) := by
  have HP : Hid (∀ v w, v = blB b → BoS (blB b) w (.returned (.bool v)) w) := fun v w h => BoS.mk h w
  unfold blB at *
  generalize b.toNat = x at *
  by_cases h1 : x = 32
  · subst h1
    rw [show ((32 : Nat) : Int) = 32 from rfl]
    go_enter Tryz.func134, Tryz.ntmps134
    go_wp2
    go_ret
    exact HP.out _ _ rfl
  by_cases h2 : x = 9
  · subst h2
    rw [show ((9 : Nat) : Int) = 9 from rfl]
    go_enter Tryz.func134, Tryz.ntmps134
    go_wp2
    go_ret
    exact HP.out _ _ rfl
  by_cases h3 : x = 10
  · subst h3
    rw [show ((10 : Nat) : Int) = 10 from rfl]
    go_enter Tryz.func134, Tryz.ntmps134
    go_wp2
    go_ret
    exact HP.out _ _ rfl
  · have HX : Hid (false = blN x) := by
      show _ = _
      unfold blN
      simp [h1, h2, h3]
    have g1 : ((x : Int) == 32) = false := by rw [beq_eq_false_iff_ne]; omega
    have g2 : ((x : Int) == 9) = false := by rw [beq_eq_false_iff_ne]; omega
    have g3 : ((x : Int) == 10) = false := by rw [beq_eq_false_iff_ne]; omega
    clear h1 h2 h3
    go_enter Tryz.func134, Tryz.ntmps134
    go_wp2
    go_ret
    exact HP.out _ _ (by first | exact HX.out | (rw [← HX.out]; simp; omega))

/-- How many bytes go on with a word. -/
def wT : List UInt8 → Nat
  | [] => 0
  | [b] => if nmB b = true then 1 else 0
  | [b, c] => if nmB b = true then wT [c] + 1 else 0
  | b :: c :: d :: r => if nmB b = true then wT (c :: d :: r) + 1 else if b = 58 ∧ c = 58 ∧ stB d = true then wT r + 3 else 0
/-- How many bytes the word has with which a text begins. -/
def wsz : List UInt8 → Nat
  | [] => 0
  | b :: t => if stB b = true then wT t + 1 else 0
theorem nm58 : nmB 58 = false := by decide
theorem wT_name {b : UInt8} {t : List UInt8} (h : nmB b = true) : wT (b :: t) = wT t + 1 := by
  match t with
  | [] => simp [wT, h]
  | [c] => simp [wT, h]
  | c :: d :: r => simp [wT, h]
theorem wT_col {d : UInt8} {r : List UInt8} (h : stB d = true) : wT (58 :: 58 :: d :: r) = wT (d :: r) + 2 := by
  rw [wT_name (b := d) (by unfold nmB; rw [h]; rfl)]
  show (if nmB 58 = true then _ else if (58 : UInt8) = 58 ∧ (58 : UInt8) = 58 ∧ stB d = true then wT r + 3 else 0) = _
  rw [nm58, if_neg (by simp), if_pos ⟨rfl, rfl, h⟩]
theorem wT_stop {t : List UInt8} (h : ∀ b r, t = b :: r → nmB b = false) (h2 : ∀ d r, t = 58 :: 58 :: d :: r → stB d = false) : wT t = 0 := by
  match t with
  | [] => rfl
  | [b] =>
    have := h b [] rfl
    simp [wT, this]
  | [b, c] =>
    have := h b [c] rfl
    simp [wT, this]
  | b :: c :: d :: r =>
    have h3 := h b _ rfl
    show (if nmB b = true then _ else if b = 58 ∧ c = 58 ∧ stB d = true then wT r + 3 else 0) = _
    rw [h3, if_neg (by simp), if_neg]
    rintro ⟨rfl, rfl, h4⟩
    rw [h2 d r rfl] at h4
    cases h4
theorem wT_le : ∀ (t : List UInt8), wT t ≤ t.length
  | [] => Nat.le_refl 0
  | [b] => by
    unfold wT
    split <;> simp
  | [b, c] => by
    have := wT_le [c]
    unfold wT
    split <;> simp at * <;> omega
  | b :: c :: d :: r => by
    have h1 := wT_le (c :: d :: r)
    have h2 := wT_le r
    unfold wT
    split
    · simp at *; omega
    · split <;> simp at * <;> omega
theorem wsz_no {b : UInt8} {t : List UInt8} (h : stB b = false) : wsz (b :: t) = 0 := by
  show (if stB b = true then wT t + 1 else 0) = 0
  rw [h]
  rfl
theorem wsz_yes {b : UInt8} {t : List UInt8} (h : stB b = true) : wsz (b :: t) = wT t + 1 := by
  show (if stB b = true then wT t + 1 else 0) = _
  rw [if_pos h]
theorem wsz_le (l : List UInt8) : wsz l ≤ l.length := by
  match l with
  | [] => exact Nat.le_refl 0
  | b :: t =>
    have := wT_le t
    show (if stB b = true then wT t + 1 else 0) ≤ _
    split <;> simp <;> omega

end Go.Proofs.YtaocbhfehncdcaaGreatDoor
