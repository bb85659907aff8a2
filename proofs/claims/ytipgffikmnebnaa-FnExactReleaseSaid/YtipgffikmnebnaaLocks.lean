/-
  The numbers under which the program holds the library's mutex, and that it holds it.
-/
import Derived.Test.YtipgffikmnebnaaRows
import Derived.Test.YtipgffikmnebnaaChecked
import Derived.Conc.MuLone
import Derived.KernelRfl
namespace Go.Proofs.Ytipgffikmnebnaa

open Go.Conc.Locks
abbrev muLink : MuLink := { lock := 111, unlock := 112, ilock := 142, iunlock := 143, lockSlow := 162, unlockSlow := 165, disable := 158, enable := 160, acquire := 161, relMerge := 163, cas32 := 159, add32 := 164, tMutex := 146, tIMutex := 144, tPMutex := 184, tPIMutex := 195, tPI32 := 197, tUP := 199, tNoCopy := 142, tU32 := 57 }
theorem muLib : MuLib Try.prog muLink :=
  ⟨Try.func111, Try.func112, Try.func142, Try.func143, Try.func158, Try.func160, Try.func161, Try.func163, Try.func159, Try.func164, Try.underlying144, Try.runUnderlying144, Try.sizeOf144, Try.isAgg144, Try.zeroValue144, Try.underlying146, Try.runUnderlying146, Try.sizeOf146, Try.isAgg146, Try.zeroValue146, Try.underlying184, Try.runUnderlying184, Try.sizeOf184, Try.isAgg184, Try.zeroValue184, Try.underlying195, Try.runUnderlying195, Try.sizeOf195, Try.isAgg195, Try.zeroValue195, Try.underlying197, Try.runUnderlying197, Try.sizeOf197, Try.isAgg197, Try.zeroValue197, Try.underlying199, Try.runUnderlying199, Try.sizeOf199, Try.isAgg199, Try.zeroValue199, Try.underlying142, Try.runUnderlying142, Try.sizeOf142, Try.isAgg142, Try.zeroValue142, Try.underlying21, Try.runUnderlying21, Try.sizeOf21, Try.isAgg21, Try.zeroValue21, (by kernel_rfl)⟩

end Go.Proofs.Ytipgffikmnebnaa
