/-
  strconv.FormatInt in base 16. Conditions: the table of math/bits as it is laid; numbers from 0 to 2^53.
-/
import Derived.Test.YtegckpkancbnmaaDoorEm
import Derived.Test.YtegckpkancbnmaaDoorWr
import Derived.Test.YtegckpkancbnmaaDoorRows
import Derived.Lib.Bits
import Derived.Lib.LaidTab
import Derived.MakeChecks
import Derived.Laws.Bits64b
import Derived.Stop.LaidErr
namespace Go.Proofs.YtegckpkancbnmaaDoor
open Go.RowKit

def dbTab : List Int := [0, 1, 56, 2, 57, 49, 28, 3, 61, 58, 42, 50, 38, 29, 17, 4, 62, 47, 59, 36, 45, 43, 51, 22, 53, 39, 33, 30, 24, 18, 12, 5, 63, 55, 48, 27, 60, 41, 37, 16, 46, 35, 44, 21, 52, 32, 23, 11, 54, 26, 40, 15, 34, 20, 31, 10, 25, 14, 19, 9, 13, 8, 7, 6]
def Dtab (w : World) : Prop := Lib.TabIs Tryd.prog w "math/bits.deBruijn64tab" .u8 dbTab
theorem gDb : Tryd.prog.globalNamed "math/bits.deBruijn64tab" = some 7 := by kernel_rfl
theorem gDbType : (Tryd.prog.globals[7]?).map (·.type) = some 161 := by kernel_rfl
theorem cellsDb : Tryd.prog.cellsOf 161 = 64 := by kernel_rfl
theorem cellsU8 : Tryd.prog.cellsOf 5 = 1 := by kernel_rfl
theorem db_datum {H : Type} : (Rows.laid_math_bits_deBruijn64tab : DataW H) = Lib.tabData .u8 dbTab := rfl
theorem dtab_of_laid {W : World} (h : laidMetH Tryd.prog Rows.charsEscapesRow.laid W) : Dtab W := by
  rw [MakeChecks.laidMetH_plain _ _ _ (by kernel_rfl)] at h
  have h2 := laidMet.tail h
  rw [db_datum] at h2
  exact Lib.tabIs_of_head gDb gDbType Tryd.underlying161 Tryd.underlying5 cellsU8 cellsDb h2
theorem Dtab.later {w w' : World} (h : Dtab w) (hb : Below w.heap.size w w') : Dtab w' := by
  have hc := Lib.TabIs.cell h gDb 0 (by decide)
  have hlt : 7 < w.heap.size := by
    by_cases hh : 7 < w.heap.size
    · exact hh
    · have : w.heap[7]? = none := Array.getElem?_eq_none (by omega)
      simp [World.cell?, this] at hc
  exact var?_below hb gDb hlt h

theorem tz_core (x k idx : Nat) (w : World) (hx0 : ((x : Int) == 0) = false)
    (key : IntKind.u64.wrap (bits BinOp.and IntKind.u64 (x : Int) (IntKind.u64.wrap (-(x : Int))) * 285870213051353865) / 288230376151711744 = (idx : Int))
    (hi : idx < 64) (hk : k < 64) (hcell : w.cell? ⟨7, idx, none⟩ = some (.int .u8 k)) :
    Calls Tryd.prog 148 #[.int .u64 x] w fun e w' => e = .returned (.int .i64 k) ∧ w' = w := by
  go_enter Tryd.func148, Tryd.ntmps148
  go_wp2_with (simp only [key])
  go_ret
  exact ⟨rfl, rfl⟩

theorem tz_any (x k idx : Nat) (w : World) (hx0 : ((x : Int) == 0) = false)
    (key : IntKind.u64.wrap (bits BinOp.and IntKind.u64 (x : Int) (IntKind.u64.wrap (-(x : Int))) * 285870213051353865) / 288230376151711744 = (idx : Int))
    (hi : idx < 64) (hk : k < 64) (hcell : w.cell? ⟨7, idx, none⟩ = some (.int .u8 k)) :
    Calls Tryd.prog 124 #[.int .u64 x] w fun e w' => e = .returned (.int .i64 k) ∧ w' = w := by
  have H := Lib.hid (tz_core x k idx w hx0 key hi hk hcell)
  clear key hcell
  go_enter Tryd.func124, Tryd.ntmps124
  go_wp2_with fail
  refine (H.out).mono ?_
  rintro e w' ⟨rfl, rfl⟩
  go_wp2
  go_ret
  exact ⟨rfl, rfl⟩

theorem tz_16 (w : World) (h : Dtab w) : Calls Tryd.prog 124 #[.int .u64 16] w fun e w' => e = .returned (.int .i64 4) ∧ w' = w :=
  tz_any 16 4 15 w rfl (by decide) (by omega) (by omega) (Lib.TabIs.cell h gDb 15 (by decide))
theorem pow2_16 (w : World) : Calls Tryd.prog 123 #[.int .i64 16] w fun e w' => e = .returned (.bool true) ∧ w' = w := by
  have f3 : bits BinOp.and IntKind.i64 16 15 = 0 := by decide
  go_enter Tryd.func123, Tryd.ntmps123
  go_wp2
  go_ret
  exact ⟨rfl, rfl⟩

def FbP (v : ByteArray) (w : World) (e : Ending) (w' : World) : Prop := e = .returned (.tuple #[.slice none 0 0, .string v]) ∧ Below w.heap.size w w'

def Buf (S : List UInt8) (b i : Nat) (w : World) : Prop := (∀ j c, S[j]? = some c → w.cell? ⟨b, i + j, none⟩ = some (.int .u8 (c.toNat : Int))) ∧ (∀ j, j < 65 → ∃ v, w.cell? ⟨b, j, none⟩ = some v) ∧ (∀ j, j < 65 → w.frozen? ⟨b, j, none⟩ = false)
theorem Buf.put {S : List UInt8} {b i : Nat} {w : World} (h : Buf S b (i + 1) w) (hi : i < 65) (c : UInt8) : Buf (c :: S) b i (w.setCell ⟨b, i, none⟩ (.int .u8 (c.toNat : Int))) := by
  obtain ⟨h1, h2, h3⟩ := h
  refine ⟨fun j d hd => ?_, fun j hj => ?_, fun j hj => by rw [World.frozen?_setCell]; exact h3 j hj⟩
  · cases j with
    | zero =>
      simp at hd
      subst hd
      obtain ⟨v, hv⟩ := h2 i hi
      exact World.cell?_setCell_same' w ⟨b, i, none⟩ _ (by rw [hv]; rfl)
    | succ j =>
      rw [World.cell?_setCell_other w _ _ _ (show (⟨b, i, none⟩ : Addr) ≠ ⟨b, i + (j + 1), none⟩ by intro e; have := congrArg Addr.off e; simp at this)]
      have := h1 j d (by simpa using hd)
      rwa [show i + 1 + j = i + (j + 1) by omega] at this
  · by_cases hj2 : j = i
    · subst hj2
      obtain ⟨v, hv⟩ := h2 j hj
      exact ⟨_, World.cell?_setCell_same' w _ _ (by rw [hv]; rfl)⟩
    · rw [World.cell?_setCell_other w _ _ _ (show (⟨b, i, none⟩ : Addr) ≠ ⟨b, j, none⟩ by intro e; have := congrArg Addr.off e; exact hj2 this.symm)]
      exact h2 j hj
theorem Buf.back {S : List UInt8} {b i : Nat} {w : World} (h : Buf S b i w) (n cap : Nat) (hn : S.length = n) : (convert 43 9 (.slice (some ⟨b, i, none⟩) n cap)).run Tryd.prog w = .ok (.string (bs S)) w := by
  subst hn
  refine run_convert_bytes_back w 43 9 5 ⟨b, i, none⟩ cap S Tryd.underlying43 Tryd.underlying5 Tryd.underlying9 fun j hj => ?_
  rw [show (Addr.add ⟨b, i, none⟩ j : Addr) = ⟨b, i + j, none⟩ by cases j <;> simp [Addr.add]]
  exact h.1 j _ (List.getElem?_eq_getElem hj)
abbrev D36 : ByteArray := (ByteArray.mk #[48, 49, 50, 51, 52, 53, 54, 55, 56, 57, 97, 98, 99, 100, 101, 102, 103, 104, 105, 106, 107, 108, 109, 110, 111, 112, 113, 114, 115, 116, 117, 118, 119, 120, 121, 122])
theorem dig36_list : ∀ r, r < 16 → D36.data.toList[r]? = some (dgc r) := by decide
theorem dig36_at (r : Nat) (hr : r < 16) (h : r < D36.size) : (D36[r]'h).toNat = (dgc r).toNat := by
  have h1 := dig36_list r hr
  rw [getElem_list D36 r h] at h1
  rw [Option.some.inj h1]
theorem zero126 : Tryd.zeroCells124 = Array.replicate 65 (.int .u8 0) := by kernel_rfl
theorem Buf.start (w : World) : Buf [] w.heap.size 65 (w.alloc (Obj.cells Tryd.zeroCells124 124)) := by
  refine ⟨fun j c h => by simp at h, fun j hj => ⟨.int .u8 0, ?_⟩, fun j hj => ?_⟩
  · rw [World.cell?_alloc_mark, zero126]
    simp [hj]
  · rw [World.frozen?_alloc_mark]
    simp

theorem len126 : Tryd.prog.arrayLen 124 = 65 := by kernel_rfl
theorem elem126 : Tryd.prog.elem 124 = 5 := by kernel_rfl
theorem under126 : Tryd.prog.underlying 124 = some (.array (Tryd.prog.arrayLen 124) (Tryd.prog.elem 124)) := by kernel_rfl
theorem slice126 (B q : Nat) (hq : q < 65) (w : World) : (Instr.sliceAt 124 (.pointer (some ⟨B, 0, none⟩)) (some (.int .i64 (q : Int))) none none).run Tryd.prog w = .ok (.slice (some ⟨B, q, none⟩) (65 - q) (65 - q)) w := by
  rw [run_sliceAt_array_l w 124 ⟨B, 0, none⟩ under126 .i64 q (by omega) (by rw [len126]; omega), len126, elem126, Tryd.sizeOf5]
  have h1 : ¬ 65 = q := by omega
  have h2 : (⟨B, 0, none⟩ : Addr).add q = ⟨B, q, none⟩ := by cases q <;> simp [Addr.add]
  simp [slicedAt, h1, h2]

set_option maxRecDepth 100000 in
set_option maxHeartbeats 1600000 in
theorem formatBits_16 (u : Nat) (hu : (u : Int) ≤ 9007199254740992) (w : World) (hD : Dtab w) :
    Calls Tryd.prog 100 #[.slice none 0 0, .int .u64 u, .int .i64 16, .bool false, .bool false] w (FbP (bs (hxs u)) w) := by
  have HP := Lib.hid (fun w => pow2_16 w)
  have HT := Lib.hid (fun w (h : Dtab w) => tz_16 w h)
  have HDT : Hid (∀ o, Dtab (w.alloc o)) := fun o => hD.later ((Below.refl _ _).alloc (Nat.le_refl _) o)
  have HB0 : Hid (∀ o, Below w.heap.size w (w.alloc o)) := fun o => (Below.refl _ _).alloc (Nat.le_refl _) o
  have HBF := Lib.hid (Buf.start w)
  have HSET : Hid (∀ w' i v, Below w.heap.size w w' → Below w.heap.size w (w'.setCell ⟨w.heap.size, i, none⟩ v)) := fun w' i v h => h.setCell (Nat.le_refl _) v
  have HPOST : Hid (∀ v w', v = bs (hxs u) → Below w.heap.size w w' → FbP (bs (hxs u)) w (.returned (.tuple #[.slice none 0 0, .string v])) w') := by
    rintro v w' rfl hb
    exact ⟨rfl, hb⟩
  clear hD
  go_enter Tryd.func100, Tryd.ntmps100
  go_wp2_with fail
  refine (HP.out _).mono ?_
  rintro e w' ⟨rfl, rfl⟩
  go_wp2_with fail
  refine (HT.out _ (HDT.out _)).mono ?_
  rintro e w' ⟨rfl, rfl⟩
  go_wp2_with fail
  have HB1 := Lib.hid (HB0.out (Obj.cells Tryd.zeroCells124 124))
  clear HB0 HDT HT HP
  generalize w.alloc (Obj.cells Tryd.zeroCells124 124) = W0 at *
  generalize w.heap.size = B at *
  go_loopw [1, 13] (fun x i wr => ∃ (m k : Nat) (S : List UInt8), x = .int .u64 m ∧ i = .int .i64 k ∧ 1 ≤ k ∧ k ≤ 65 ∧ S.length + k = 65 ∧ Hid (m < 2 ^ k) ∧ (m : Int) ≤ 9007199254740992 ∧ Hid (hxs u = hxs m ++ S) ∧ Hid (Buf S B k wr) ∧ Hid (Below B w wr)) (fun x _ _ => (intOf x).toNat)
  case atStart => exact ⟨u, 65, [], rfl, rfl, by omega, by omega, by simp, by show u < 2 ^ 65; omega, hu, by show _ = _; simp, HBF, HB1⟩
  case round =>
    obtain ⟨m, k, S, rfl, rfl, hk1, hk2, hSk, hmk, hm, hdg, hbf, hbl⟩ := hrel
    obtain ⟨q, rfl⟩ : ∃ q, k = q + 1 := ⟨k - 1, by omega⟩
    rw [show ((q + 1 : Nat) : Int) = (q : Int) + 1 by omega]
    obtain ⟨v, hcel⟩ := hbf.out.2.1 q (by omega)
    have hfz := hbf.out.2.2 q (by omega)
    by_cases hge : 16 ≤ m
    · have hmask : bits BinOp.and IntKind.u64 (m : Int) 15 = ((m % 16 : Nat) : Int) := by
        rw [show (15 : Int) = ((15 : Nat) : Int) from rfl, bits_and_u64_nat m 15 (by omega) (by omega)]
        exact congrArg _ (Nat.and_two_pow_sub_one_eq_mod m 4)
      obtain ⟨r, hr⟩ : ∃ r, m % 16 = r := ⟨_, rfl⟩
      have hr8 : r < 16 := by omega
      rw [hr] at hmask
      have HDG : Hid (hxs u = hxs (m / 16) ++ (dgc r :: S)) := by
        show _ = _
        rw [hdg.out, hxs_more hge, hr, List.append_assoc]
        rfl
      have HBU : Hid (Buf (dgc r :: S) B q (wr.setCell ⟨B, q, none⟩ (.int .u8 (((D36[r]'(Nat.lt_trans hr8 (by decide))).toNat : Nat) : Int)))) := by
        show Buf _ _ _ _
        rw [dig36_at r (by omega) (Nat.lt_trans hr8 (by decide))]
        exact hbf.out.put (by omega) (dgc r)
      have HBL : Hid (∀ v, Below B w (wr.setCell ⟨B, q, none⟩ v)) := fun v => HSET.out _ _ _ hbl.out
      have HM2 : Hid (m / 16 < 2 ^ q) := by
        show _ < _
        have h1 := hmk.out
        rw [Nat.pow_succ] at h1
        omega
      have hq1 : 1 ≤ q := by
        cases q with
        | zero => exfalso; have := hmk.out; simp at this; omega
        | succ q => omega
      clear hdg hbf hbl hmk hr
      go_wp2
      go_roundw
      case rel => exact ⟨m / 16, q, dgc r :: S, rfl, rfl, hq1, by omega, by rw [List.length_cons]; omega, HM2, by omega, HDG, HBU, HBL.out _⟩
      case measure => simp [intOf]; omega
    · have hm8 : m < 16 := by omega
      have HDG : Hid (hxs u = dgc m :: S) := by
        show _ = _
        rw [hdg.out, hxs_one hm8]
        rfl
      have HBU : Buf (dgc m :: S) B q (wr.setCell ⟨B, q, none⟩ (.int .u8 (((D36[m]'(Nat.lt_trans hm8 (by decide))).toNat : Nat) : Int))) := by
        rw [dig36_at m (by omega) (Nat.lt_trans hm8 (by decide))]
        exact hbf.out.put (by omega) (dgc m)
      have HBK := Lib.hid (fun cap => HBU.back (65 - q) cap (by rw [List.length_cons]; omega))
      have HBL : Hid (∀ v, Below B w (wr.setCell ⟨B, q, none⟩ v)) := fun v => HSET.out _ _ _ hbl.out
      have hsl := slice126 B q (by omega)
      have hbk := HBK.out (65 - q)
      have HDG2 : Hid (bs (dgc m :: S) = bs (hxs u)) := congrArg bs HDG.out.symm
      clear hdg hbf hbl hmk HBU HBK
      generalize bs (dgc m :: S) = R at *
      go_wp2
      go_ret2
      exact HPOST.out _ _ HDG2.out (HBL.out _)

theorem FormatInt_16 (u : Nat) (hu : (u : Int) ≤ 9007199254740992) (w : World) (hD : Dtab w) :
    Calls Tryd.prog 83 #[.int .i64 u, .int .i64 16] w fun e w' => e = .returned (.string (bs (hxs u))) ∧ Below w.heap.size w w' := by
  have H := Lib.hid (formatBits_16 u hu w hD)
  unfold FbP at H
  have hn : decide ((u : Int) < 0) = false := by simp
  clear hD
  generalize bs (hxs u) = R at *
  go_enter Tryd.func83, Tryd.ntmps83
  go_wp2_with fail
  refine (H.out).mono ?_
  rintro e w' ⟨rfl, hb1⟩
  have HB1 := Lib.hid hb1
  clear hb1
  go_wp2
  go_ret
  exact ⟨rfl, HB1.out⟩

theorem sFormatInt_16 (u : Nat) (hu : (u : Int) ≤ 9007199254740992) (w : World) (hD : Dtab w) :
    Calls Tryd.prog 57 #[.int .i64 u, .int .i64 16] w (StrP (hxs u) w) := by
  have H := Lib.hid (FormatInt_16 u hu w hD)
  have HP : Hid (∀ w', Below w.heap.size w w' → StrP (hxs u) w (.returned (.string (bs (hxs u)))) w') := fun w' h => ⟨rfl, h⟩
  clear hD
  generalize bs (hxs u) = R at *
  go_enter Tryd.func57, Tryd.ntmps57
  go_wp2_with fail
  refine (H.out).mono ?_
  rintro e w' ⟨rfl, hb1⟩
  have HB1 := Lib.hid hb1
  clear hb1
  go_wp2
  go_ret
  exact HP.out _ HB1.out

end Go.Proofs.YtegckpkancbnmaaDoor
