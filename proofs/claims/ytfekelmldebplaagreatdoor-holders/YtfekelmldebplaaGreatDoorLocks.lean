import Derived.Test.YtfekelmldebplaaGreatDoorProg
import Derived.Conc.RwLib
import Derived.Conc.MuData
import Derived.KernelRfl
namespace Go.Proofs.YtfekelmldebplaaGreatDoor
abbrev Tryz.muLink : Go.Conc.Locks.MuLink := { lock := 64, unlock := 65, ilock := 103, iunlock := 104, lockSlow := 152, unlockSlow := 155, disable := 127, enable := 129, acquire := 130, relMerge := 153, cas32 := 151, add32 := 154, tMutex := 139, tIMutex := 137, tPMutex := 200, tPIMutex := 265, tPI32 := 267, tUP := 203, tNoCopy := 134, tU32 := 135 }
theorem Tryz.muLib : Go.Conc.Locks.MuLib Tryz.prog Tryz.muLink :=
  ⟨Tryz.func64, Tryz.func65, Tryz.func103, Tryz.func104, Tryz.func127, Tryz.func129, Tryz.func130, Tryz.func153, Tryz.func151, Tryz.func154, Tryz.underlying137, Tryz.runUnderlying137, Tryz.sizeOf137, Tryz.isAgg137, Tryz.zeroValue137, Tryz.underlying139, Tryz.runUnderlying139, Tryz.sizeOf139, Tryz.isAgg139, Tryz.zeroValue139, Tryz.underlying200, Tryz.runUnderlying200, Tryz.sizeOf200, Tryz.isAgg200, Tryz.zeroValue200, Tryz.underlying265, Tryz.runUnderlying265, Tryz.sizeOf265, Tryz.isAgg265, Tryz.zeroValue265, Tryz.underlying267, Tryz.runUnderlying267, Tryz.sizeOf267, Tryz.isAgg267, Tryz.zeroValue267, Tryz.underlying203, Tryz.runUnderlying203, Tryz.sizeOf203, Tryz.isAgg203, Tryz.zeroValue203, Tryz.underlying134, Tryz.runUnderlying134, Tryz.sizeOf134, Tryz.isAgg134, Tryz.zeroValue134, Tryz.underlying21, Tryz.runUnderlying21, Tryz.sizeOf21, Tryz.isAgg21, Tryz.zeroValue21, (by kernel_rfl)⟩
end Go.Proofs.YtfekelmldebplaaGreatDoor
