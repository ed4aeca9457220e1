import Derived.Deep.QuietTactic
import Derived.BigQuiet
import Derived.Deep.RegionWith
import Derived.Test.YtfekelmldebplaaGreatDoorD
set_option maxRecDepth 100000
set_option maxHeartbeats 8000000
namespace Go.Proofs.YtfekelmldebplaaGreatDoor
open Go.RowKit
def splL (h : List Int) (br : Bool) : List Value := h.map (Value.int .u8) ++ List.replicate (260 - h.length) (Value.int .u8 0) ++ [.int .i64 h.length, .bool br]
def spl (h : List Int) (br : Bool) : Array Value := (splL h br).toArray
theorem tP : (Tryz.prog.built 179 [(2, .bool true)]).getD #[] = spl [] true := by kernel_rfl
theorem wH : (Tryz.prog.built 179 []).getD #[] = spl [] false := by kernel_rfl
theorem yY : (Tryz.prog.built 179 [(2, .bool true)]).isSome = true := by kernel_rfl
theorem wG : (Tryz.prog.built 179 []).isSome = true := by kernel_rfl
def aHu (h : List Int) (x : Int) : Bool :=
 if h.length = 2 ∨ h.length = 3 then decide (x = 0) else if h.length = 4 then decide (256 * x ≤ 254) else if h.length = 5 then inB 2 (256 * h.getD 4 0 + x) 254 else true
theorem build_bad {ops : Array Oper} {rest : List Oper} {o : Oper} {a : Act} {w : World} {Q : Exit → Act → World → Prop} (hg : o.guard = none) (ho : o.op = .build 179 #[(2, .const (.bool true))])
  (h : wpList Tryz.prog ops Q rest (a.put o.dst (.agg (spl [] true))) w) : wpList Tryz.prog ops Q (o :: rest) a w := by
 have e : ((#[(2, Operand.const (.bool true))] : Array (Nat × Operand)).map (fun (i, x) => (i, a.eval x))).toList = [(2, .bool true)] := by simp [Act.eval]
 refine wpList_build hg 179 _ ho ?_ ?_
 ·rw [e]; exact yY
 ·rw [e, tP]; exact h
theorem nB {ops : Array Oper} {rest : List Oper} {o : Oper} {a : Act} {w : World} {Q : Exit → Act → World → Prop} (hg : o.guard = none) (ho : o.op = .build 179 #[])
  (h : wpList Tryz.prog ops Q rest (a.put o.dst (.agg (spl [] false))) w) : wpList Tryz.prog ops Q (o :: rest) a w := by
 have e : ((#[] : Array (Nat × Operand)).map (fun (i, x) => (i, a.eval x))).toList = [] := by simp
 refine wpList_build hg 179 _ ho ?_ ?_
 ·rw [e]; exact wG
 ·rw [e, wH]; exact h
def aGt (h : List Int) : Bool := decide (7 ≤ h.length) && decide ((h.length : Int) = 6 + (256 * h.getD 4 0 + h.getD 5 0))
end Go.Proofs.YtfekelmldebplaaGreatDoor
