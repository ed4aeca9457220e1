import Derived.Test.YtfekelmldebplaaGreatDoorProg
import Derived.WalkKit
import Derived.WalkSpells
import Derived.WalkLawsBesides
set_option maxRecDepth 100000
set_option maxHeartbeats 8000000
namespace Go.Proofs.YtfekelmldebplaaGreatDoor
open Go.RowKit
theorem fL {k : IntKind} {a b : Int} (h : a = b) : Ending.returned (.int k a) = .returned (.int k b) := by rw [h]
theorem aV {a b : Bool} (h : a = b) : Ending.returned (.bool a) = .returned (.bool b) := by rw [h]
def inB (lo n hi : Int) : Bool := decide (lo ≤ n) && decide (n ≤ hi)
theorem aEg {lo n hi : Int} (h1 : lo ≤ n) (h2 : n ≤ hi) : inB lo n hi = true := by simp [inB, h1, h2]
theorem zT {lo n hi : Int} : inB lo n hi = true ↔ lo ≤ n ∧ n ≤ hi := by simp [inB]
theorem kP (n lo hi : Int) (w : World) :
  Calls Tryz.prog 137 #[.int .i64 n, .int .i64 lo, .int .i64 hi] w fun e w' => e = .returned (.bool (inB lo n hi)) ∧ w' = w := by
 by_cases h1 : lo ≤ n
 ·by_cases h2 : n ≤ hi
  ·go_enter Tryz.func137, Tryz.ntmps137
   go_wp2
   go_ret
   exact ⟨aV (by simp [inB, h1, h2]), rfl⟩
  ·have h2' : decide (n ≤ hi) = false := by simpa using h2
   go_enter Tryz.func137, Tryz.ntmps137
   go_wp2
   go_ret
   exact ⟨aV (by simp [inB]; omega), rfl⟩
 ·have h1' : decide (lo ≤ n) = false := by simpa using h1
  go_enter Tryz.func137, Tryz.ntmps137
  go_wp2
  go_ret
  exact ⟨aV (by simp [inB]; omega), rfl⟩
theorem aDv (h l : Int) (h0 : 0 ≤ h) (h1 : h < 256) (l0 : 0 ≤ l) (l1 : l < 256) : bits BinOp.or IntKind.i64 (h * 256) l = 256 * h + l := by
 obtain ⟨h, rfl⟩ := Int.eq_ofNat_of_zero_le h0
 obtain ⟨l, rfl⟩ := Int.eq_ofNat_of_zero_le l0
 have e : (h * 256) ||| l = 256 * h + l := by
  have := Nat.two_pow_add_eq_or_of_lt (i := 8) (b := l) (by omega) h
  rw [Nat.mul_comm h 256]
  exact this.symm
 show IntKind.i64.wrap ((BitVec.ofInt 64 ((h : Int) * 256) ||| BitVec.ofInt 64 (l : Int)).toNat : Int) = _
 rw [show ((h : Int) * 256) = ((h * 256 : Nat) : Int) by omega, BitVec.toNat_or, ofInt_u64 (h * 256) (by omega), ofInt_u64 l (by omega), e]
 simp [IntKind.wrap, IntKind.bits, IntKind.signed]
 omega
theorem aBv (h l : Int) (w : World) (h0 : 0 ≤ h) (h1 : h < 256) (l0 : 0 ≤ l) (l1 : l < 256) :
  Calls Tryz.prog 199 #[.int .u8 h, .int .u8 l] w fun e w' => e = .returned (.int .i64 (256 * h + l)) ∧ w' = w := by
 go_enter Tryz.func199, Tryz.ntmps199
 go_wp2
 go_ret
 exact ⟨fL (aDv h l h0 h1 l0 l1), rfl⟩
def kM (c n : Int) : Int := (if c < 0 then -(c + 1) else c) % n
theorem aDm (c n : Int) (h : 0 < n) : 0 ≤ kM c n ∧ kM c n < n := by
 unfold kM
 exact ⟨Int.emod_nonneg _ (by omega), Int.emod_lt_of_pos _ h⟩
def Lies (w : World) (v : Value) (xs : List Int) : Prop :=
 (∃ a c, v = .slice a 0 c ∧ xs = []) ∨ ∃ b o c, v = .slice (some ⟨b, o, none⟩) xs.length c ∧ xs.length ≤ c ∧ (xs = [] ∨ b < w.heap.size) ∧ ∀ i, i < xs.length → w.cell? ⟨b, o + i, none⟩ = some (.int .u8 (xs.getD i 0))
def Bys (xs : List Int) : Prop := ∀ x ∈ xs, 0 ≤ x ∧ x < 256
theorem Bys.take {xs : List Int} (h : Bys xs) (n : Nat) : Bys (xs.take n) := fun x hx => h x (List.mem_of_mem_take hx)
theorem Bys.drop {xs : List Int} (h : Bys xs) (n : Nat) : Bys (xs.drop n) := fun x hx => h x (List.mem_of_mem_drop hx)
theorem Bys.at {xs : List Int} (h : Bys xs) (i : Nat) : 0 ≤ xs.getD i 0 ∧ xs.getD i 0 < 256 := by
 by_cases hi : i < xs.length
 ·have := h xs[i] (List.getElem_mem hi)
  simpa [List.getD, List.getElem?_eq_getElem hi] using this
 ·simp [List.getD, List.getElem?_eq_none (Nat.le_of_not_lt hi)]
theorem Lies.kept {w w' : World} {v : Value} {xs : List Int} (h : Lies w v xs) (hs : w.heap.size ≤ w'.heap.size) (hk : ∀ k, k < w.heap.size → v.ownBlock = some k → w'.heap[k]? = w.heap[k]?) : Lies w' v xs := by
 rcases h with h | ⟨b, o, c, hv, hl, hb, hc⟩
 ·exact .inl h
 ·refine .inr ⟨b, o, c, hv, hl, hb.imp id (by omega), fun i hi => ?_⟩
  have hb' : b < w.heap.size := by
   rcases hb with rfl | hb
   ·simp at hi
   ·exact hb
  rw [← hc i hi]
  exact World.cell?_of_block (hk b hb' (by rw [hv]; rfl))
theorem Lies.below {w w' : World} {v : Value} {xs : List Int} (h : Lies w v xs) (hb : Below w.heap.size w w') : Lies w' v xs := h.kept hb.size fun k hk _ => hb.block k hk
theorem mO {w : World} {v : Value} {xs : List Int} (h : Lies w v xs) : (convert 37 9 v).run Tryz.prog w = .ok (.string (strOfNums xs)) w := by
 rcases h with ⟨a, c, rfl, rfl⟩ | ⟨b, o, c, rfl, _, _, hc⟩
 ·cases a with
  | none => exact run_convert_bytes_nil (P := Tryz.prog) w 37 5 Tryz.underlying37 Tryz.underlying5 0 c 9 Tryz.underlying9
  | some a =>
   rw [run_convert_bytes_string w 37 9 5 _ 0 c Tryz.underlying37 Tryz.underlying5 Tryz.underlying9, run_bytesToString w a 0 c [] (by simp [loadCells, loadCellsFrom])]
   rfl
 ·exact run_convert_bytes_arg (P := Tryz.prog) w 37 5 Tryz.underlying37 Tryz.underlying5 b o _ c xs rfl hc 9 Tryz.underlying9
end Go.Proofs.YtfekelmldebplaaGreatDoor
