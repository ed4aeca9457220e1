import Derived.Test.YtfekelmldebplaaGreatDoorI
namespace Go.Proofs.YtfekelmldebplaaGreatDoor
open Go.RowKit

theorem built_some71 : (Tryz.prog.built 181 []).isSome = true := by kernel_rfl
theorem build_new {ops : Array Oper} {rest : List Oper} {o : Oper} {a : Act} {w : World} {Q : Exit → Act → World → Prop} (hg : o.guard = none) (ho : o.op = .build 181 #[])
    (h : wpList Tryz.prog ops Q rest (a.put o.dst (.agg (spl [] false))) w) : wpList Tryz.prog ops Q (o :: rest) a w := by
  have e : ((#[] : Array (Nat × Operand)).map (fun (i, x) => (i, a.eval x))).toList = [] := by simp
  refine wpList_build hg 181 _ ho ?_ ?_
  · rw [e]; exact built_some71
  · rw [e, built_fresh71]; exact h

set_option maxHeartbeats 400000 in
theorem newSplitter_any (w : World) : Calls Tryz.prog 55 #[] w fun e w' => e = .returned (.pointer (some ⟨w.heap.size, 0, none⟩)) ∧ w' = w.alloc (.cells (spl [] false) 181) := by
  go_enter Tryz.func55, Tryz.ntmps55
  go_wp2_with (refine build_new rfl rfl ?_)
  go_ret
  exact ⟨rfl, rfl⟩

set_option maxHeartbeats 400000 in
theorem rfeed_any (b : Nat) (h : List Int) (br : Bool) (T : TypeId) (cb co cc : Nat) (xs : List Int) (w : World) (hb : w.heap[b]? = some (.cells (spl h br) T (0, 0))) (hh : Held h) (hc : ∀ i, i < xs.length → w.cell? ⟨cb, co + i, none⟩ = some (.int .u8 (xs.getD i 0))) (hne : xs = [] ∨ cb < w.heap.size ∧ cb ≠ b)
    (bx : Bys xs) (hm : xs.length ≤ 1000000000) :
    Calls Tryz.prog 82 #[.pointer (some ⟨b, 0, none⟩), .slice (some ⟨cb, co, none⟩) xs.length cc] w fun e w' => FeedPost w b T (feedF ([], h, br) xs) e w' := by
  have HB := hide hb
  have HC := hide hc
  clear hb hc
  go_enter Tryz.func82, Tryz.ntmps82
  go_wp2_with fail
  refine (feed_any b h br T cb co cc xs w (unhide HB) hh (unhide HC) hne bx hm).mono ?_
  rintro e w' ⟨v, ds, rfl, R⟩
  have HR := hide R
  clear R
  generalize hI : (if (feedF ([], h, br) xs).2.2 = true then (1 : Int) else 0) = n
  have HI := hide hI
  clear hI
  go_wp2
  go_ret2
  exact ⟨v, ds, by rw [unhide HI]; rfl, unhide HR⟩
end Go.Proofs.YtfekelmldebplaaGreatDoor
