/-
  What stands under strconv.FormatInt in the bases 2, 8 and 16: isPowerOfTwo, TrailingZeros; num.prefixOf. Conditions: the table of math/bits as it is laid.
-/
import Derived.Test.YtmlifgngdilplaaDoorSplr
import Derived.Test.YtmlifgngdilplaaDoorLaid
import Derived.Lib.Bits
namespace Go.Proofs.YtmlifgngdilplaaDoor
open Go.RowKit

def dbTab : List Int := [0, 1, 56, 2, 57, 49, 28, 3, 61, 58, 42, 50, 38, 29, 17, 4, 62, 47, 59, 36, 45, 43, 51, 22, 53, 39, 33, 30, 24, 18, 12, 5, 63, 55, 48, 27, 60, 41, 37, 16, 46, 35, 44, 21, 52, 32, 23, 11, 54, 26, 40, 15, 34, 20, 31, 10, 25, 14, 19, 9, 13, 8, 7, 6]
def Dtab (w : World) : Prop := Lib.TabIs Tryd.prog w "math/bits.deBruijn64tab" .u8 dbTab
theorem gDb : Tryd.prog.globalNamed "math/bits.deBruijn64tab" = some 5 := by kernel_rfl
theorem gDbType : (Tryd.prog.globals[5]?).map (·.type) = some 137 := by kernel_rfl
theorem cells137 : Tryd.prog.cellsOf 137 = 64 := by kernel_rfl
theorem cells5 : Tryd.prog.cellsOf 5 = 1 := by kernel_rfl
theorem db_datum {H : Type} : (Rows.laid_math_bits_deBruijn64tab : DataW H) = Lib.tabData .u8 dbTab := rfl
theorem dtab_of_laid {W : World} (h : laidMetH Tryd.prog Rows.numSpellsRow.laid W) : Dtab W := by
  rw [MakeChecks.laidMetH_plain _ _ _ (by kernel_rfl)] at h
  have h2 := laidMet.tail h
  rw [db_datum] at h2
  exact Lib.tabIs_of_head gDb gDbType Tryd.underlying137 Tryd.underlying5 cells5 cells137 h2
theorem Dtab.later {w w' : World} (h : Dtab w) (hb : Below w.heap.size w w') : Dtab w' := by
  have hc := Lib.TabIs.cell h gDb 0 (by decide)
  have hlt : 5 < w.heap.size := by
    by_cases hh : 5 < w.heap.size
    · exact hh
    · have : w.heap[5]? = none := Array.getElem?_eq_none (by omega)
      simp [World.cell?, this] at hc
  exact var?_below hb gDb hlt h

theorem tz_core (x k idx : Nat) (w : World) (hx0 : ((x : Int) == 0) = false)
    (key : IntKind.u64.wrap (bits BinOp.and IntKind.u64 (x : Int) (IntKind.u64.wrap (-(x : Int))) * 285870213051353865) / 288230376151711744 = (idx : Int))
    (hi : idx < 64) (hk : k < 64) (hcell : w.cell? ⟨5, idx, none⟩ = some (.int .u8 k)) :
    Calls Tryd.prog 139 #[.int .u64 x] w fun e w' => e = .returned (.int .i64 k) ∧ w' = w := by
  go_enter Tryd.func139, Tryd.ntmps139
  go_wp2_with (simp only [key])
  go_ret
  exact ⟨rfl, rfl⟩

theorem tz_any (x k idx : Nat) (w : World) (hx0 : ((x : Int) == 0) = false)
    (key : IntKind.u64.wrap (bits BinOp.and IntKind.u64 (x : Int) (IntKind.u64.wrap (-(x : Int))) * 285870213051353865) / 288230376151711744 = (idx : Int))
    (hi : idx < 64) (hk : k < 64) (hcell : w.cell? ⟨5, idx, none⟩ = some (.int .u8 k)) :
    Calls Tryd.prog 135 #[.int .u64 x] w fun e w' => e = .returned (.int .i64 k) ∧ w' = w := by
  have H := Lib.hid (tz_core x k idx w hx0 key hi hk hcell)
  clear key hcell
  go_enter Tryd.func135, Tryd.ntmps135
  go_wp2_with fail
  refine (H.out).mono ?_
  rintro e w' ⟨rfl, rfl⟩
  go_wp2
  go_ret
  exact ⟨rfl, rfl⟩

/-- How many digits of 2 one digit of a base has. -/
def shB (b : Nat) : Nat := if b = 2 then 1 else if b = 8 then 3 else 4
theorem tz_of (b : Nat) (hb : b = 2 ∨ b = 8 ∨ b = 16) (w : World) (h : Dtab w) : Calls Tryd.prog 135 #[.int .u64 b] w fun e w' => e = .returned (.int .i64 (shB b)) ∧ w' = w := by
  rcases hb with rfl | rfl | rfl
  · exact tz_any 2 1 1 w rfl (by decide) (by omega) (by omega) (Lib.TabIs.cell h gDb 1 (by decide))
  · exact tz_any 8 3 7 w rfl (by decide) (by omega) (by omega) (Lib.TabIs.cell h gDb 7 (by decide))
  · exact tz_any 16 4 15 w rfl (by decide) (by omega) (by omega) (Lib.TabIs.cell h gDb 15 (by decide))

theorem pow2_of (b : Nat) (hb : b = 2 ∨ b = 8 ∨ b = 16) (w : World) : Calls Tryd.prog 134 #[.int .i64 b] w fun e w' => e = .returned (.bool true) ∧ w' = w := by
  have f1 : bits BinOp.and IntKind.i64 2 1 = 0 := by decide
  have f2 : bits BinOp.and IntKind.i64 8 7 = 0 := by decide
  have f3 : bits BinOp.and IntKind.i64 16 15 = 0 := by decide
  rcases hb with rfl | rfl | rfl
  all_goals
    go_enter Tryd.func134, Tryd.ntmps134
    go_wp2
    go_ret
    exact ⟨rfl, rfl⟩

def preN (b : Nat) : List UInt8 := if b = 2 then [48, 98] else if b = 16 then [48, 120] else if b = 8 then [48] else []
theorem prefixOf_of (b : Nat) (hb : b = 2 ∨ b = 8 ∨ b = 10 ∨ b = 16) (w : World) : Calls Tryd.prog 73 #[.int .i64 b] w fun e w' => e = .returned (.tuple #[.string (bs (preN b)), .bool true]) ∧ w = w' := by
  rcases hb with rfl | rfl | rfl | rfl
  all_goals
    go_enter Tryd.func73, Tryd.ntmps73
    go_wp2
    go_ret2
    exact ⟨rfl, rfl⟩
theorem prefixOf_no (b : Int) (hb : ¬ okB b) (w : World) : Calls Tryd.prog 73 #[.int .i64 b] w fun e w' => e = .returned (.tuple #[.string ⟨#[]⟩, .bool false]) ∧ w = w' := by
  unfold okB at hb
  have b2 : (b == 2) = false := by simp; omega
  have b8 : (b == 8) = false := by simp; omega
  have b10 : (b == 10) = false := by simp; omega
  have b16 : (b == 16) = false := by simp; omega
  clear hb
  go_enter Tryd.func73, Tryd.ntmps73
  go_wp2
  go_ret2
  exact ⟨rfl, rfl⟩

end Go.Proofs.YtmlifgngdilplaaDoor
