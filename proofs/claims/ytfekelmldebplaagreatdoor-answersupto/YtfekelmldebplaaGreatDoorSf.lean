import Derived.Maps.AppendAt
import Derived.Test.YtfekelmldebplaaGreatDoorSc
import Derived.Test.YtfekelmldebplaaGreatDoorSe
set_option maxRecDepth 100000
set_option maxHeartbeats 8000000
namespace Go.Proofs.YtfekelmldebplaaGreatDoor
open Go.RowKit
theorem iE {w : World} {base : Nat} {e : TypeId} {size : Nat} {oa : Option Addr} {n c : Nat} {xs : List Value} (h : w.ownsRow base e size (.slice oa n c) n xs) : n ≤ c := by
 rcases h.2 with ⟨e, h0⟩ | ⟨g, cap, cur, e, _, _, h1, _⟩
 ·omega
 ·have : c = cap := by simp at e; exact e.2
  omega
structure Rec where
 v0 : Value
 v1 : Value
 v2 : Value
 v3 : Value
 m : Nat
def Rec.cells (r : Rec) : List Value := [r.v0, r.v1, r.v2, r.v3, .int .i64 r.m]
structure Rec.OkB (w : World) (r : Rec) : Prop where
 h0 : fJ w r.v0 r.m
 h1 : fJ w r.v1 r.m
 h2 : fJ w r.v2 r.m
 h3 : fJ w r.v3 r.m
 hm : r.m ≤ 1000000000000
structure Rec.OkF (w : World) (r : Rec) : Prop where
 h0 : aAf w r.v0 r.m
 h1 : aAf w r.v1 r.m
 h2 : aAf w r.v2 r.m
 h3 : aAf w r.v3 r.m
 hm : r.m ≤ 1000000000000
theorem aBa (rs : List Rec) (k j : Nat) (hj : j < 5) (d : Rec) (hd : rs[k]? = some d) : (rs.flatMap Rec.cells)[k * 5 + j]? = d.cells[j]? := by
 induction rs generalizing k with
 | nil => simp at hd
 | cons e rs ih =>
  cases k with
  | zero =>
   simp at hd
   subst hd
   simp only [List.flatMap_cons]
   rw [List.getElem?_append_left (by simp [Rec.cells]; omega)]
   simp
  | succ k =>
   simp at hd
   simp only [List.flatMap_cons]
   rw [List.getElem?_append_right (by simp [Rec.cells]; omega)]
   have e1 : (k + 1) * 5 + j - e.cells.length = k * 5 + j := by simp [Rec.cells]; omega
   rw [e1]
   exact ih k hd
theorem iO {w : World} {base g cap : Nat} {t : TypeId} {rs : List Rec} {k : Nat} {d : Rec} (h : w.ownsRow base t 5 (.slice (some ⟨g, 0, none⟩) rs.length cap) rs.length (rs.flatMap Rec.cells)) (hd : rs[k]? = some d) (j : Nat) (hj : j < 5) : w.cell? ⟨g, k * 5 + j, none⟩ = d.cells[j]? := by
 have hk : k < rs.length := (List.getElem?_eq_some_iff.1 hd).1
 rw [h.cellAt _ (by omega)]
 exact aBa rs k j hj d hd
theorem Rec.OkB.kept {w w' : World} {r : Rec} (h : r.OkB w) (hs : w.heap.size ≤ w'.heap.size) (hk : ∀ v, (v = r.v0 ∨ v = r.v1 ∨ v = r.v2 ∨ v = r.v3) → ∀ k, k < w.heap.size → v.ownBlock = some k → w'.heap[k]? = w.heap[k]?) : r.OkB w' :=
 ⟨h.h0.kept hs (hk _ (by simp)), h.h1.kept hs (hk _ (by simp)), h.h2.kept hs (hk _ (by simp)), h.h3.kept hs (hk _ (by simp)), h.hm⟩
end Go.Proofs.YtfekelmldebplaaGreatDoor
