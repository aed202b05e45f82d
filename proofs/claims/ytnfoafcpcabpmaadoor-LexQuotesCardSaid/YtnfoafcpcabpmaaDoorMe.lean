/-
  What a sign means that is no brace. Conditions: none.
-/
import Derived.Test.YtnfoafcpcabpmaaDoorAd
namespace Go.Proofs.YtnfoafcpcabpmaaDoor
open Go.RowKit

set_option maxRecDepth 100000 in
set_option maxHeartbeats 4000000 in
theorem meaning_other (c : Value) (x : List UInt8) (w : World) (h1 : x ≠ [123]) (h2 : x ≠ [125]) : Calls Tryd.prog 51 #[c, .string (bs x)] w fun e w' => e = .returned (.int .i64 0) ∧ w' = w := by
  have n1 : ((bs x).toList == [123]) = false := ne_list (bs x) [123] (by rw [bs_list]; exact h1)
  have n2 : ((bs x).toList == [125]) = false := ne_list (bs x) [125] (by rw [bs_list]; exact h2)
  clear h1 h2
  go_enter Tryd.func51, Tryd.ntmps51
  go_wp2
  go_ret
  exact ⟨rfl, rfl⟩

end Go.Proofs.YtnfoafcpcabpmaaDoor
