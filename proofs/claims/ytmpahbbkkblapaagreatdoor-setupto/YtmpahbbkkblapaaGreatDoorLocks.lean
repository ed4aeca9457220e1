import Derived.Test.YtmpahbbkkblapaaGreatDoorProg
import Derived.Conc.RwLib
import Derived.Conc.MuData
import Derived.KernelRfl
namespace Go.Proofs.YtmpahbbkkblapaaGreatDoor
abbrev Tryz.muLink : Go.Conc.Locks.MuLink := { lock := 54, unlock := 55, ilock := 91, iunlock := 92, lockSlow := 123, unlockSlow := 126, disable := 119, enable := 121, acquire := 122, relMerge := 124, cas32 := 120, add32 := 125, tMutex := 125, tIMutex := 123, tPMutex := 182, tPIMutex := 242, tPI32 := 244, tUP := 138, tNoCopy := 120, tU32 := 121 }
theorem Tryz.muLib : Go.Conc.Locks.MuLib Tryz.prog Tryz.muLink :=
  ⟨Tryz.func54, Tryz.func55, Tryz.func91, Tryz.func92, Tryz.func119, Tryz.func121, Tryz.func122, Tryz.func124, Tryz.func120, Tryz.func125, Tryz.underlying123, Tryz.runUnderlying123, Tryz.sizeOf123, Tryz.isAgg123, Tryz.zeroValue123, Tryz.underlying125, Tryz.runUnderlying125, Tryz.sizeOf125, Tryz.isAgg125, Tryz.zeroValue125, Tryz.underlying182, Tryz.runUnderlying182, Tryz.sizeOf182, Tryz.isAgg182, Tryz.zeroValue182, Tryz.underlying242, Tryz.runUnderlying242, Tryz.sizeOf242, Tryz.isAgg242, Tryz.zeroValue242, Tryz.underlying244, Tryz.runUnderlying244, Tryz.sizeOf244, Tryz.isAgg244, Tryz.zeroValue244, Tryz.underlying138, Tryz.runUnderlying138, Tryz.sizeOf138, Tryz.isAgg138, Tryz.zeroValue138, Tryz.underlying120, Tryz.runUnderlying120, Tryz.sizeOf120, Tryz.isAgg120, Tryz.zeroValue120, Tryz.underlying21, Tryz.runUnderlying21, Tryz.sizeOf21, Tryz.isAgg21, Tryz.zeroValue21, (by kernel_rfl)⟩
end Go.Proofs.YtmpahbbkkblapaaGreatDoor
