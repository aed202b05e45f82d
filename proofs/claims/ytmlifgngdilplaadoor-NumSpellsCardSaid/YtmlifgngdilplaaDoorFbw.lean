/-
  strconv.FormatInt in the bases 2, 8 and 16.
-/
import Derived.Test.YtmlifgngdilplaaDoorFbt
import Derived.Test.YtmlifgngdilplaaDoorNxs
import Derived.Laws.Bits64b
namespace Go.Proofs.YtmlifgngdilplaaDoor
open Go.RowKit

def FbP (v : ByteArray) (w : World) (e : Ending) (w' : World) : Prop := e = .returned (.tuple #[.slice none 0 0, .string v]) ∧ Below w.heap.size w w'

def Buf (S : List UInt8) (b i : Nat) (w : World) : Prop := (∀ j c, S[j]? = some c → w.cell? ⟨b, i + j, none⟩ = some (.int .u8 (c.toNat : Int))) ∧ (∀ j, j < 65 → ∃ v, w.cell? ⟨b, j, none⟩ = some v) ∧ (∀ j, j < 65 → w.frozen? ⟨b, j, none⟩ = false)
theorem Buf.put {S : List UInt8} {b i : Nat} {w : World} (h : Buf S b (i + 1) w) (hi : i < 65) (c : UInt8) : Buf (c :: S) b i (w.setCell ⟨b, i, none⟩ (.int .u8 (c.toNat : Int))) := by
  obtain ⟨h1, h2, h3⟩ := h
  refine ⟨fun j d hd => ?_, fun j hj => ?_, fun j hj => by rw [World.frozen?_setCell]; exact h3 j hj⟩
  · cases j with
    | zero =>
      simp at hd
      subst hd
      obtain ⟨v, hv⟩ := h2 i hi
      exact World.cell?_setCell_same' w ⟨b, i, none⟩ _ (by rw [hv]; rfl)
    | succ j =>
      rw [World.cell?_setCell_other w _ _ _ (show (⟨b, i, none⟩ : Addr) ≠ ⟨b, i + (j + 1), none⟩ by intro e; have := congrArg Addr.off e; simp at this)]
      have := h1 j d (by simpa using hd)
      rwa [show i + 1 + j = i + (j + 1) by omega] at this
  · by_cases hj2 : j = i
    · subst hj2
      obtain ⟨v, hv⟩ := h2 j hj
      exact ⟨_, World.cell?_setCell_same' w _ _ (by rw [hv]; rfl)⟩
    · rw [World.cell?_setCell_other w _ _ _ (show (⟨b, i, none⟩ : Addr) ≠ ⟨b, j, none⟩ by intro e; have := congrArg Addr.off e; exact hj2 this.symm)]
      exact h2 j hj
theorem Buf.back {S : List UInt8} {b i : Nat} {w : World} (h : Buf S b i w) (n cap : Nat) (hn : S.length = n) : (convert 74 9 (.slice (some ⟨b, i, none⟩) n cap)).run Tryd.prog w = .ok (.string (bs S)) w := by
  subst hn
  refine run_convert_bytes_back w 74 9 5 ⟨b, i, none⟩ cap S Tryd.underlying74 Tryd.underlying5 Tryd.underlying9 fun j hj => ?_
  rw [show (Addr.add ⟨b, i, none⟩ j : Addr) = ⟨b, i + j, none⟩ by cases j <;> simp [Addr.add]]
  exact h.1 j _ (List.getElem?_eq_getElem hj)
abbrev D36 : ByteArray := (ByteArray.mk #[48, 49, 50, 51, 52, 53, 54, 55, 56, 57, 97, 98, 99, 100, 101, 102, 103, 104, 105, 106, 107, 108, 109, 110, 111, 112, 113, 114, 115, 116, 117, 118, 119, 120, 121, 122])
theorem dig36_list : ∀ r, r < 16 → D36.data.toList[r]? = some (dgc r) := by decide
theorem dig36_at (r : Nat) (hr : r < 16) (h : r < D36.size) : (D36[r]'h).toNat = (dgc r).toNat := by
  have h1 := dig36_list r hr
  rw [getElem_list D36 r h] at h1
  rw [Option.some.inj h1]
theorem zero126 : Tryd.zeroCells126 = Array.replicate 65 (.int .u8 0) := by kernel_rfl
theorem Buf.start (w : World) : Buf [] w.heap.size 65 (w.alloc (Obj.cells Tryd.zeroCells126 126)) := by
  refine ⟨fun j c h => by simp at h, fun j hj => ⟨.int .u8 0, ?_⟩, fun j hj => ?_⟩
  · rw [World.cell?_alloc_mark, zero126]
    simp [hj]
  · rw [World.frozen?_alloc_mark]
    simp

theorem len126 : Tryd.prog.arrayLen 126 = 65 := by kernel_rfl
theorem elem126 : Tryd.prog.elem 126 = 5 := by kernel_rfl
theorem under126 : Tryd.prog.underlying 126 = some (.array (Tryd.prog.arrayLen 126) (Tryd.prog.elem 126)) := by kernel_rfl
theorem slice126 (B q : Nat) (hq : q < 65) (w : World) : (Instr.sliceAt 126 (.pointer (some ⟨B, 0, none⟩)) (some (.int .i64 (q : Int))) none none).run Tryd.prog w = .ok (.slice (some ⟨B, q, none⟩) (65 - q) (65 - q)) w := by
  rw [run_sliceAt_array_l w 126 ⟨B, 0, none⟩ under126 .i64 q (by omega) (by rw [len126]; omega), len126, elem126, Tryd.sizeOf5]
  have h1 : ¬ 65 = q := by omega
  have h2 : (⟨B, 0, none⟩ : Addr).add q = ⟨B, q, none⟩ := by cases q <;> simp [Addr.add]
  simp [slicedAt, h1, h2]

set_option maxRecDepth 100000 in
set_option maxHeartbeats 1600000 in
theorem formatBits_8 (u : Nat) (hu : (u : Int) ≤ 9007199254740992) (w : World) (hD : Dtab w) :
    Calls Tryd.prog 125 #[.slice none 0 0, .int .u64 u, .int .i64 8, .bool false, .bool false] w (FbP (bs (dgs 8 u)) w) := by
  have HP := Lib.hid (fun w => pow2_of 8 (by omega) w)
  have HT := Lib.hid (fun w (h : Dtab w) => tz_of 8 (by omega) w h)
  have HDT : Hid (∀ o, Dtab (w.alloc o)) := fun o => hD.later ((Below.refl _ _).alloc (Nat.le_refl _) o)
  have HB0 : Hid (∀ o, Below w.heap.size w (w.alloc o)) := fun o => (Below.refl _ _).alloc (Nat.le_refl _) o
  have HBF := Lib.hid (Buf.start w)
  have HSET : Hid (∀ w' i v, Below w.heap.size w w' → Below w.heap.size w (w'.setCell ⟨w.heap.size, i, none⟩ v)) := fun w' i v h => h.setCell (Nat.le_refl _) v
  have HPOST : Hid (∀ v w', v = bs (dgs 8 u) → Below w.heap.size w w' → FbP (bs (dgs 8 u)) w (.returned (.tuple #[.slice none 0 0, .string v])) w') := by
    rintro v w' rfl hb
    exact ⟨rfl, hb⟩
  clear hD
  go_enter Tryd.func125, Tryd.ntmps125
  go_wp2_with fail
  refine (HP.out _).mono ?_
  rintro e w' ⟨rfl, rfl⟩
  go_wp2_with fail
  refine (HT.out _ (HDT.out _)).mono ?_
  rintro e w' ⟨rfl, rfl⟩
  rw [show ((shB 8 : Nat) : Int) = 3 from rfl]
  go_wp2_with fail
  have HB1 := Lib.hid (HB0.out (Obj.cells Tryd.zeroCells126 126))
  clear HB0 HDT HT HP
  generalize w.alloc (Obj.cells Tryd.zeroCells126 126) = W0 at *
  generalize w.heap.size = B at *
  go_loopw [1, 13] (fun x i wr => ∃ (m k : Nat) (S : List UInt8), x = .int .u64 m ∧ i = .int .i64 k ∧ 1 ≤ k ∧ k ≤ 65 ∧ S.length + k = 65 ∧ Hid (m < 2 ^ k) ∧ (m : Int) ≤ 9007199254740992 ∧ Hid (dgs 8 u = dgs 8 m ++ S) ∧ Hid (Buf S B k wr) ∧ Hid (Below B w wr)) (fun x _ _ => (intOf x).toNat)
  case atStart => exact ⟨u, 65, [], rfl, rfl, by omega, by omega, by simp, by show u < 2 ^ 65; omega, hu, by show _ = _; simp, HBF, HB1⟩
  case round =>
    obtain ⟨m, k, S, rfl, rfl, hk1, hk2, hSk, hmk, hm, hdg, hbf, hbl⟩ := hrel
    obtain ⟨q, rfl⟩ : ∃ q, k = q + 1 := ⟨k - 1, by omega⟩
    rw [show ((q + 1 : Nat) : Int) = (q : Int) + 1 by omega]
    obtain ⟨v, hcel⟩ := hbf.out.2.1 q (by omega)
    have hfz := hbf.out.2.2 q (by omega)
    by_cases hge : 8 ≤ m
    · have hmask : bits BinOp.and IntKind.u64 (m : Int) 7 = ((m % 8 : Nat) : Int) := by
        rw [show (7 : Int) = ((7 : Nat) : Int) from rfl, bits_and_u64_nat m 7 (by omega) (by omega)]
        exact congrArg _ (Nat.and_two_pow_sub_one_eq_mod m 3)
      obtain ⟨r, hr⟩ : ∃ r, m % 8 = r := ⟨_, rfl⟩
      have hr8 : r < 8 := by omega
      rw [hr] at hmask
      have HDG : Hid (dgs 8 u = dgs 8 (m / 8) ++ (dgc r :: S)) := by
        show _ = _
        rw [hdg.out, dgs_more (by omega) hge, hr, List.append_assoc]
        rfl
      have HBU : Hid (Buf (dgc r :: S) B q (wr.setCell ⟨B, q, none⟩ (.int .u8 (((D36[r]'(Nat.lt_trans hr8 (by decide))).toNat : Nat) : Int)))) := by
        show Buf _ _ _ _
        rw [dig36_at r (by omega) (Nat.lt_trans hr8 (by decide))]
        exact hbf.out.put (by omega) (dgc r)
      have HBL : Hid (∀ v, Below B w (wr.setCell ⟨B, q, none⟩ v)) := fun v => HSET.out _ _ _ hbl.out
      have HM2 : Hid (m / 8 < 2 ^ q) := by
        show _ < _
        have h1 := hmk.out
        rw [Nat.pow_succ] at h1
        omega
      have hq1 : 1 ≤ q := by
        cases q with
        | zero => exfalso; have := hmk.out; simp at this; omega
        | succ q => omega
      clear hdg hbf hbl hmk hr
      go_wp2
      go_roundw
      case rel => exact ⟨m / 8, q, dgc r :: S, rfl, rfl, hq1, by omega, by rw [List.length_cons]; omega, HM2, by omega, HDG, HBU, HBL.out _⟩
      case measure => simp [intOf]; omega
    · have hm8 : m < 8 := by omega
      have HDG : Hid (dgs 8 u = dgc m :: S) := by
        show _ = _
        rw [hdg.out, dgs_one hm8]
        rfl
      have HBU : Buf (dgc m :: S) B q (wr.setCell ⟨B, q, none⟩ (.int .u8 (((D36[m]'(Nat.lt_trans hm8 (by decide))).toNat : Nat) : Int))) := by
        rw [dig36_at m (by omega) (Nat.lt_trans hm8 (by decide))]
        exact hbf.out.put (by omega) (dgc m)
      have HBK := Lib.hid (fun cap => HBU.back (65 - q) cap (by rw [List.length_cons]; omega))
      have HBL : Hid (∀ v, Below B w (wr.setCell ⟨B, q, none⟩ v)) := fun v => HSET.out _ _ _ hbl.out
      have hsl := slice126 B q (by omega)
      have hbk := HBK.out (65 - q)
      have HDG2 : Hid (bs (dgc m :: S) = bs (dgs 8 u)) := congrArg bs HDG.out.symm
      clear hdg hbf hbl hmk HBU HBK
      generalize bs (dgc m :: S) = R at *
      go_wp2
      go_ret2
      exact HPOST.out _ _ HDG2.out (HBL.out _)

set_option maxRecDepth 100000 in
set_option maxHeartbeats 1600000 in
theorem formatBits_2 (u : Nat) (hu : (u : Int) ≤ 9007199254740992) (w : World) (hD : Dtab w) :
    Calls Tryd.prog 125 #[.slice none 0 0, .int .u64 u, .int .i64 2, .bool false, .bool false] w (FbP (bs (dgs 2 u)) w) := by
  have HP := Lib.hid (fun w => pow2_of 2 (by omega) w)
  have HT := Lib.hid (fun w (h : Dtab w) => tz_of 2 (by omega) w h)
  have HDT : Hid (∀ o, Dtab (w.alloc o)) := fun o => hD.later ((Below.refl _ _).alloc (Nat.le_refl _) o)
  have HB0 : Hid (∀ o, Below w.heap.size w (w.alloc o)) := fun o => (Below.refl _ _).alloc (Nat.le_refl _) o
  have HBF := Lib.hid (Buf.start w)
  have HSET : Hid (∀ w' i v, Below w.heap.size w w' → Below w.heap.size w (w'.setCell ⟨w.heap.size, i, none⟩ v)) := fun w' i v h => h.setCell (Nat.le_refl _) v
  have HPOST : Hid (∀ v w', v = bs (dgs 2 u) → Below w.heap.size w w' → FbP (bs (dgs 2 u)) w (.returned (.tuple #[.slice none 0 0, .string v])) w') := by
    rintro v w' rfl hb
    exact ⟨rfl, hb⟩
  clear hD
  go_enter Tryd.func125, Tryd.ntmps125
  go_wp2_with fail
  refine (HP.out _).mono ?_
  rintro e w' ⟨rfl, rfl⟩
  go_wp2_with fail
  refine (HT.out _ (HDT.out _)).mono ?_
  rintro e w' ⟨rfl, rfl⟩
  rw [show ((shB 2 : Nat) : Int) = 1 from rfl]
  go_wp2_with fail
  have HB1 := Lib.hid (HB0.out (Obj.cells Tryd.zeroCells126 126))
  clear HB0 HDT HT HP
  generalize w.alloc (Obj.cells Tryd.zeroCells126 126) = W0 at *
  generalize w.heap.size = B at *
  go_loopw [1, 13] (fun x i wr => ∃ (m k : Nat) (S : List UInt8), x = .int .u64 m ∧ i = .int .i64 k ∧ 1 ≤ k ∧ k ≤ 65 ∧ S.length + k = 65 ∧ Hid (m < 2 ^ k) ∧ (m : Int) ≤ 9007199254740992 ∧ Hid (dgs 2 u = dgs 2 m ++ S) ∧ Hid (Buf S B k wr) ∧ Hid (Below B w wr)) (fun x _ _ => (intOf x).toNat)
  case atStart => exact ⟨u, 65, [], rfl, rfl, by omega, by omega, by simp, by show u < 2 ^ 65; omega, hu, by show _ = _; simp, HBF, HB1⟩
  case round =>
    obtain ⟨m, k, S, rfl, rfl, hk1, hk2, hSk, hmk, hm, hdg, hbf, hbl⟩ := hrel
    obtain ⟨q, rfl⟩ : ∃ q, k = q + 1 := ⟨k - 1, by omega⟩
    rw [show ((q + 1 : Nat) : Int) = (q : Int) + 1 by omega]
    obtain ⟨v, hcel⟩ := hbf.out.2.1 q (by omega)
    have hfz := hbf.out.2.2 q (by omega)
    by_cases hge : 2 ≤ m
    · have hmask : bits BinOp.and IntKind.u64 (m : Int) 1 = ((m % 2 : Nat) : Int) := by
        rw [show (1 : Int) = ((1 : Nat) : Int) from rfl, bits_and_u64_nat m 1 (by omega) (by omega)]
        exact congrArg _ (Nat.and_two_pow_sub_one_eq_mod m 1)
      obtain ⟨r, hr⟩ : ∃ r, m % 2 = r := ⟨_, rfl⟩
      have hr8 : r < 2 := by omega
      rw [hr] at hmask
      have HDG : Hid (dgs 2 u = dgs 2 (m / 2) ++ (dgc r :: S)) := by
        show _ = _
        rw [hdg.out, dgs_more (by omega) hge, hr, List.append_assoc]
        rfl
      have HBU : Hid (Buf (dgc r :: S) B q (wr.setCell ⟨B, q, none⟩ (.int .u8 (((D36[r]'(Nat.lt_trans hr8 (by decide))).toNat : Nat) : Int)))) := by
        show Buf _ _ _ _
        rw [dig36_at r (by omega) (Nat.lt_trans hr8 (by decide))]
        exact hbf.out.put (by omega) (dgc r)
      have HBL : Hid (∀ v, Below B w (wr.setCell ⟨B, q, none⟩ v)) := fun v => HSET.out _ _ _ hbl.out
      have HM2 : Hid (m / 2 < 2 ^ q) := by
        show _ < _
        have h1 := hmk.out
        rw [Nat.pow_succ] at h1
        omega
      have hq1 : 1 ≤ q := by
        cases q with
        | zero => exfalso; have := hmk.out; simp at this; omega
        | succ q => omega
      clear hdg hbf hbl hmk hr
      go_wp2
      go_roundw
      case rel => exact ⟨m / 2, q, dgc r :: S, rfl, rfl, hq1, by omega, by rw [List.length_cons]; omega, HM2, by omega, HDG, HBU, HBL.out _⟩
      case measure => simp [intOf]; omega
    · have hm8 : m < 2 := by omega
      have HDG : Hid (dgs 2 u = dgc m :: S) := by
        show _ = _
        rw [hdg.out, dgs_one hm8]
        rfl
      have HBU : Buf (dgc m :: S) B q (wr.setCell ⟨B, q, none⟩ (.int .u8 (((D36[m]'(Nat.lt_trans hm8 (by decide))).toNat : Nat) : Int))) := by
        rw [dig36_at m (by omega) (Nat.lt_trans hm8 (by decide))]
        exact hbf.out.put (by omega) (dgc m)
      have HBK := Lib.hid (fun cap => HBU.back (65 - q) cap (by rw [List.length_cons]; omega))
      have HBL : Hid (∀ v, Below B w (wr.setCell ⟨B, q, none⟩ v)) := fun v => HSET.out _ _ _ hbl.out
      have hsl := slice126 B q (by omega)
      have hbk := HBK.out (65 - q)
      have HDG2 : Hid (bs (dgc m :: S) = bs (dgs 2 u)) := congrArg bs HDG.out.symm
      clear hdg hbf hbl hmk HBU HBK
      generalize bs (dgc m :: S) = R at *
      go_wp2
      go_ret2
      exact HPOST.out _ _ HDG2.out (HBL.out _)

set_option maxRecDepth 100000 in
set_option maxHeartbeats 1600000 in
theorem formatBits_16 (u : Nat) (hu : (u : Int) ≤ 9007199254740992) (w : World) (hD : Dtab w) :
    Calls Tryd.prog 125 #[.slice none 0 0, .int .u64 u, .int .i64 16, .bool false, .bool false] w (FbP (bs (dgs 16 u)) w) := by
  have HP := Lib.hid (fun w => pow2_of 16 (by omega) w)
  have HT := Lib.hid (fun w (h : Dtab w) => tz_of 16 (by omega) w h)
  have HDT : Hid (∀ o, Dtab (w.alloc o)) := fun o => hD.later ((Below.refl _ _).alloc (Nat.le_refl _) o)
  have HB0 : Hid (∀ o, Below w.heap.size w (w.alloc o)) := fun o => (Below.refl _ _).alloc (Nat.le_refl _) o
  have HBF := Lib.hid (Buf.start w)
  have HSET : Hid (∀ w' i v, Below w.heap.size w w' → Below w.heap.size w (w'.setCell ⟨w.heap.size, i, none⟩ v)) := fun w' i v h => h.setCell (Nat.le_refl _) v
  have HPOST : Hid (∀ v w', v = bs (dgs 16 u) → Below w.heap.size w w' → FbP (bs (dgs 16 u)) w (.returned (.tuple #[.slice none 0 0, .string v])) w') := by
    rintro v w' rfl hb
    exact ⟨rfl, hb⟩
  clear hD
  go_enter Tryd.func125, Tryd.ntmps125
  go_wp2_with fail
  refine (HP.out _).mono ?_
  rintro e w' ⟨rfl, rfl⟩
  go_wp2_with fail
  refine (HT.out _ (HDT.out _)).mono ?_
  rintro e w' ⟨rfl, rfl⟩
  rw [show ((shB 16 : Nat) : Int) = 4 from rfl]
  go_wp2_with fail
  have HB1 := Lib.hid (HB0.out (Obj.cells Tryd.zeroCells126 126))
  clear HB0 HDT HT HP
  generalize w.alloc (Obj.cells Tryd.zeroCells126 126) = W0 at *
  generalize w.heap.size = B at *
  go_loopw [1, 13] (fun x i wr => ∃ (m k : Nat) (S : List UInt8), x = .int .u64 m ∧ i = .int .i64 k ∧ 1 ≤ k ∧ k ≤ 65 ∧ S.length + k = 65 ∧ Hid (m < 2 ^ k) ∧ (m : Int) ≤ 9007199254740992 ∧ Hid (dgs 16 u = dgs 16 m ++ S) ∧ Hid (Buf S B k wr) ∧ Hid (Below B w wr)) (fun x _ _ => (intOf x).toNat)
  case atStart => exact ⟨u, 65, [], rfl, rfl, by omega, by omega, by simp, by show u < 2 ^ 65; omega, hu, by show _ = _; simp, HBF, HB1⟩
  case round =>
    obtain ⟨m, k, S, rfl, rfl, hk1, hk2, hSk, hmk, hm, hdg, hbf, hbl⟩ := hrel
    obtain ⟨q, rfl⟩ : ∃ q, k = q + 1 := ⟨k - 1, by omega⟩
    rw [show ((q + 1 : Nat) : Int) = (q : Int) + 1 by omega]
    obtain ⟨v, hcel⟩ := hbf.out.2.1 q (by omega)
    have hfz := hbf.out.2.2 q (by omega)
    by_cases hge : 16 ≤ m
    · have hmask : bits BinOp.and IntKind.u64 (m : Int) 15 = ((m % 16 : Nat) : Int) := by
        rw [show (15 : Int) = ((15 : Nat) : Int) from rfl, bits_and_u64_nat m 15 (by omega) (by omega)]
        exact congrArg _ (Nat.and_two_pow_sub_one_eq_mod m 4)
      obtain ⟨r, hr⟩ : ∃ r, m % 16 = r := ⟨_, rfl⟩
      have hr8 : r < 16 := by omega
      rw [hr] at hmask
      have HDG : Hid (dgs 16 u = dgs 16 (m / 16) ++ (dgc r :: S)) := by
        show _ = _
        rw [hdg.out, dgs_more (by omega) hge, hr, List.append_assoc]
        rfl
      have HBU : Hid (Buf (dgc r :: S) B q (wr.setCell ⟨B, q, none⟩ (.int .u8 (((D36[r]'(Nat.lt_trans hr8 (by decide))).toNat : Nat) : Int)))) := by
        show Buf _ _ _ _
        rw [dig36_at r (by omega) (Nat.lt_trans hr8 (by decide))]
        exact hbf.out.put (by omega) (dgc r)
      have HBL : Hid (∀ v, Below B w (wr.setCell ⟨B, q, none⟩ v)) := fun v => HSET.out _ _ _ hbl.out
      have HM2 : Hid (m / 16 < 2 ^ q) := by
        show _ < _
        have h1 := hmk.out
        rw [Nat.pow_succ] at h1
        omega
      have hq1 : 1 ≤ q := by
        cases q with
        | zero => exfalso; have := hmk.out; simp at this; omega
        | succ q => omega
      clear hdg hbf hbl hmk hr
      go_wp2
      go_roundw
      case rel => exact ⟨m / 16, q, dgc r :: S, rfl, rfl, hq1, by omega, by rw [List.length_cons]; omega, HM2, by omega, HDG, HBU, HBL.out _⟩
      case measure => simp [intOf]; omega
    · have hm8 : m < 16 := by omega
      have HDG : Hid (dgs 16 u = dgc m :: S) := by
        show _ = _
        rw [hdg.out, dgs_one hm8]
        rfl
      have HBU : Buf (dgc m :: S) B q (wr.setCell ⟨B, q, none⟩ (.int .u8 (((D36[m]'(Nat.lt_trans hm8 (by decide))).toNat : Nat) : Int))) := by
        rw [dig36_at m (by omega) (Nat.lt_trans hm8 (by decide))]
        exact hbf.out.put (by omega) (dgc m)
      have HBK := Lib.hid (fun cap => HBU.back (65 - q) cap (by rw [List.length_cons]; omega))
      have HBL : Hid (∀ v, Below B w (wr.setCell ⟨B, q, none⟩ v)) := fun v => HSET.out _ _ _ hbl.out
      have hsl := slice126 B q (by omega)
      have hbk := HBK.out (65 - q)
      have HDG2 : Hid (bs (dgc m :: S) = bs (dgs 16 u)) := congrArg bs HDG.out.symm
      clear hdg hbf hbl hmk HBU HBK
      generalize bs (dgc m :: S) = R at *
      go_wp2
      go_ret2
      exact HPOST.out _ _ HDG2.out (HBL.out _)

theorem formatBits_of (b : Nat) (hb : b = 2 ∨ b = 8 ∨ b = 16) (u : Nat) (hu : (u : Int) ≤ 9007199254740992) (w : World) (hD : Dtab w) :
    Calls Tryd.prog 125 #[.slice none 0 0, .int .u64 u, .int .i64 b, .bool false, .bool false] w (FbP (bs (dgs b u)) w) := by
  rcases hb with rfl | rfl | rfl
  · exact formatBits_2 u hu w hD
  · exact formatBits_8 u hu w hD
  · exact formatBits_16 u hu w hD

theorem FormatInt_of (b : Nat) (hb : b = 2 ∨ b = 8 ∨ b = 16) (u : Nat) (hu : (u : Int) ≤ 9007199254740992) (w : World) (hD : Dtab w) :
    Calls Tryd.prog 108 #[.int .i64 u, .int .i64 b] w fun e w' => e = .returned (.string (bs (dgs b u))) ∧ Below w.heap.size w w' := by
  have H := Lib.hid (formatBits_of b hb u hu w hD)
  unfold FbP at H
  have hb10 : ((b : Int) == 10) = false := by simp; omega
  have hn : decide ((u : Int) < 0) = false := by simp
  clear hD hb
  generalize bs (dgs b u) = R at *
  go_enter Tryd.func108, Tryd.ntmps108
  go_wp2_with fail
  refine (H.out).mono ?_
  rintro e w' ⟨rfl, hb1⟩
  have HB1 := Lib.hid hb1
  clear hb1
  go_wp2
  go_ret
  exact ⟨rfl, HB1.out⟩

theorem sFormatInt_of (b : Nat) (hb : b = 2 ∨ b = 8 ∨ b = 10 ∨ b = 16) (u : Nat) (hu : (u : Int) ≤ 9007199254740992) (w : World) (hD : Dtab w) (hT : Tab w) :
    Calls Tryd.prog 74 #[.int .i64 u, .int .i64 b] w fun e w' => e = .returned (.string (bs (dgs b u))) ∧ Below w.heap.size w w' := by
  by_cases h10 : b = 10
  · subst h10
    refine (Tryd.strconv_FormatInt_10 u (by omega) (by omega) w hT).mono ?_
    rintro e w' ⟨rfl, k, os, rfl⟩
    refine ⟨?_, Lib.below_grow _ _ (Nat.le_refl _) _ _⟩
    rw [Lib.itoa_nonneg, ← dgs_dec u u (Nat.le_refl _)]
    rfl
  · have H := Lib.hid (FormatInt_of b (by omega) u hu w hD)
    clear hD hb hT
    generalize bs (dgs b u) = R at *
    go_enter Tryd.func74, Tryd.ntmps74
    go_wp2_with fail
    refine (H.out).mono ?_
    rintro e w' ⟨rfl, hb1⟩
    have HB1 := Lib.hid hb1
    clear hb1
    go_wp2
    go_ret
    exact ⟨rfl, HB1.out⟩

end Go.Proofs.YtmlifgngdilplaaDoor
