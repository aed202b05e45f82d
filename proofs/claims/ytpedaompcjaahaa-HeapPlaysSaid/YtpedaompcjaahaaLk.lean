/-
  The numbers under which the program holds sync.Mutex's functions and types, and that it holds them. Conditions: none.
-/
import Derived.Test.YtpedaompcjaahaaProg
import Derived.Conc.MuData
import Derived.Conc.MuLone
import Derived.KernelRfl
namespace Go.Proofs
abbrev Try.muLink : Go.Conc.Locks.MuLink := { lock := 64, unlock := 65, ilock := 82, iunlock := 83, lockSlow := 88, unlockSlow := 91, disable := 84, enable := 86, acquire := 87, relMerge := 89, cas32 := 85, add32 := 90, tMutex := 67, tIMutex := 65, tPMutex := 100, tPIMutex := 101, tPI32 := 103, tUP := 105, tNoCopy := 62, tU32 := 63 }
theorem Try.muLib : Go.Conc.Locks.MuLib Try.prog Try.muLink :=
  ⟨Try.func64, Try.func65, Try.func82, Try.func83, Try.func84, Try.func86, Try.func87, Try.func89, Try.func85, Try.func90, Try.underlying65, Try.runUnderlying65, Try.sizeOf65, Try.isAgg65, Try.zeroValue65, Try.underlying67, Try.runUnderlying67, Try.sizeOf67, Try.isAgg67, Try.zeroValue67, Try.underlying100, Try.runUnderlying100, Try.sizeOf100, Try.isAgg100, Try.zeroValue100, Try.underlying101, Try.runUnderlying101, Try.sizeOf101, Try.isAgg101, Try.zeroValue101, Try.underlying103, Try.runUnderlying103, Try.sizeOf103, Try.isAgg103, Try.zeroValue103, Try.underlying105, Try.runUnderlying105, Try.sizeOf105, Try.isAgg105, Try.zeroValue105, Try.underlying62, Try.runUnderlying62, Try.sizeOf62, Try.isAgg62, Try.zeroValue62, Try.underlying21, Try.runUnderlying21, Try.sizeOf21, Try.isAgg21, Try.zeroValue21, (by kernel_rfl)⟩
end Go.Proofs
