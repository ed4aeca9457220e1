import Derived.Test.YtfekelmldebplaaGreatDoorPp
import Derived.Test.YtfekelmldebplaaGreatDoorPi
set_option maxRecDepth 100000
set_option maxHeartbeats 8000000
namespace Go.Proofs.YtfekelmldebplaaGreatDoor
open Go.RowKit
theorem aA1 {ev : Operand → Value} {w : World} {dst : Option Tmp} {T : TypeId} {p : String} {af : Array Edge} {g : Option (Nat × Bool)} (x : Operand) (b o n c : Nat) (hn : 1 ≤ n) (hv : ∀ v, ev (.const v) = v) (hx : ev x = .slice (some ⟨b, o, none⟩) n c) : (execOp ev { dst := dst, op := .slice 37 x (some (.const (.int .i64 1))) none none, type := T, pos := p, after := af, guard := g }).run Tryz.prog w = .ok (.value (.slice (some ⟨b, if c = 1 then o else o + 1, none⟩) (n - 1) (c - 1))) w := by
 by_cases h : c = 1
 ·simp [go_sem, hx, hv, h]
  intro e
  omega
 ·simp [go_sem, hx, hv, h]
  intro e
  omega
theorem aA2 {ev : Operand → Value} {w : World} {dst : Option Tmp} {T : TypeId} {p : String} {af : Array Edge} {g : Option (Nat × Bool)} : (execOp ev { dst := dst, op := .alloc 252, type := T, pos := p, after := af, guard := g }).run Tryz.prog w = .ok (.value (.pointer (some ⟨w.heap.size, 0, none⟩))) (w.alloc eM) := by
 simp [go_sem, eM]
theorem aCl {ev : Operand → Value} {w : World} {dst : Option Tmp} {T : TypeId} {p : String} {af : Array Edge} {g : Option (Nat × Bool)} (hv : ∀ v, ev (.const v) = v) : (execOp ev { dst := dst, op := .buildSlice 24 5 #[(0, .const (.int .i64 (-1))), (1, .const (.int .i64 0)), (2, .const (.int .i64 1)), (3, .const (.int .i64 3)), (4, .const (.int .i64 2))], type := T, pos := p, after := af, guard := g }).run Tryz.prog w = .ok (.value (.slice (some ⟨w.heap.size, 0, none⟩) 5 5)) (w.alloc lD) := by
 simp [go_sem, hv, lD]
theorem aB8 (w : World) : ((w.alloc eM).alloc lD).heap[w.heap.size]? = some eM := by
 rw [Below.heap_alloc _ _ _ (by simp)]
 exact heap_alloc_new w _
theorem aCb (w : World) : ((w.alloc eM).alloc lD).heap[w.heap.size + 1]? = some lD := by
 have := heap_alloc_new (w.alloc eM) lD
 rwa [World.size_alloc] at this
theorem aAj (w : World) : Below w.heap.size w ((w.alloc eM).alloc lD) := aD (aZ w _) (aZ _ _)
theorem aF0 : cD Tryz.f145 = Code.seq (Code.region 0 ([⟨some 2, .alloc 252, 0, "relay.go:207", #[], none⟩,
 ⟨some 3, .assign (.const (.int .i64 0)), 3, "relay.go:207", #[], none⟩] : List Oper).toArray false) (Code.seq (Code.region 1 ([⟨some 10, .move (.tmp 0), 37, "relay.go:208", #[], none⟩,
 ⟨some 11, .indexAddr 37 (.tmp 10) (.const (.int .i64 0)), 0, "relay.go:208", #[⟨0, .data⟩], none⟩,
 ⟨some 12, .load 5 (.tmp 11), 5, "relay.go:208", #[⟨1, .data⟩], none⟩,
 ⟨some 13, .convert 5 3 (.tmp 12), 3, "relay.go:208", #[⟨2, .data⟩], none⟩,
 ⟨some 4, .assign (.tmp 13), 3, "relay.go:208", #[⟨3, .data⟩, ⟨0, .phase⟩, ⟨1, .phase⟩, ⟨2, .phase⟩, ⟨3, .phase⟩], none⟩] : List Oper).toArray false) (Code.seq (Code.region 2 ([⟨some 14, .move (.tmp 0), 37, "relay.go:209", #[], none⟩,
 ⟨some 15, .slice 37 (.tmp 14) (some (.const (.int .i64 1))) none none, 37, "relay.go:209", #[⟨0, .data⟩], none⟩,
 ⟨some 5, .assign (.tmp 15), 37, "relay.go:209", #[⟨1, .data⟩, ⟨0, .phase⟩, ⟨1, .phase⟩], none⟩] : List Oper).toArray false) (Code.seq (Code.region 3 ([⟨some 16, .move (.tmp 5), 37, "relay.go:210", #[], none⟩,
 ⟨some 17, .call { callee := .builtin .len, args := #[.tmp 16], argTypes := #[37] }, 3, "relay.go:210", #[⟨0, .data⟩], none⟩,
 ⟨some 6, .assign (.tmp 17), 3, "relay.go:210", #[⟨1, .data⟩, ⟨0, .phase⟩, ⟨1, .phase⟩], none⟩] : List Oper).toArray false) (Code.seq (Code.region 4 ([⟨some 18, .buildSlice 24 5 #[(0, .const (.int .i64 (-1))), (1, .const (.int .i64 0)), (2, .const (.int .i64 1)), (3, .const (.int .i64 3)), (4, .const (.int .i64 2))], 24, "relay.go:211", #[], none⟩,
 ⟨some 7, .assign (.tmp 18), 24, "relay.go:211", #[⟨0, .data⟩, ⟨0, .phase⟩], none⟩] : List Oper).toArray false) (cJ 5 (cD Tryz.f145)))))) := by kernel_rfl
theorem aFz : Tryz.f145.body = some (cD Tryz.f145) := by kernel_rfl
theorem tX (b o c : Nat) (f : Nat) (bs : List Int) (w : World) (hf : f < 256) (hb : b < w.heap.size) (h0 : w.cell? ⟨b, o, none⟩ = some (.int .u8 (f : Int))) (hcc : ∀ i, i < bs.length → w.cell? ⟨b, o + 1 + i, none⟩ = some (.int .u8 (bs.getD i 0))) (hx : Bys bs) (hl : bs.length ≤ 252) (hc : bs.length + 1 ≤ c) :
  Calls Tryz.prog 145 #[.slice (some ⟨b, o, none⟩) (bs.length + 1) c] w fun e w' => lN w (aO (f : Int) bs) e w' := by
 refine calls_of_wp Tryz.func145 aFz ?_
 obtain ⟨a0, ha0⟩ : ∃ a, a = ({ tmps := #[.slice (some ⟨b, o, none⟩) (bs.length + 1) c] ++ Array.replicate (Tryz.f145.ntmps - (#[.slice (some ⟨b, o, none⟩) (bs.length + 1) c] : Array Value).size) undef, defers := [] } : Act) := ⟨_, rfl⟩
 rw [← ha0]
 have z0 : a0.tmps.size = 244 := by rw [ha0, Tryz.ntmps145]; simp
 have d0 : a0.defers = [] := by rw [ha0]
 have g0 : a0.eval (.tmp 0) = .slice (some ⟨b, o, none⟩) (bs.length + 1) c := by rw [ha0]; simp [Act.eval]
 clear ha0
 obtain ⟨Q, hQ⟩ : ∃ Q, Q = bodyPost Tryz.prog Tryz.f145 (fun e w' => lN w (aO (f : Int) bs) e w') := ⟨_, rfl⟩
 rw [← hQ, aF0]
 have hcell1 : (w.alloc eM).cell? ⟨b, o, none⟩ = some (.int .u8 (f : Int)) := ((aZ w eM).cell (by exact hb)).trans h0
 refine wp_seq (wp_region_lit (aG rfl aA2 (aG rfl (aX _) (wpList_nil ?_))))
 show Code.wp Tryz.prog _ Q ((a0.put (some 2) (.pointer (some ⟨w.heap.size, 0, none⟩))).put (some 3) (.int .i64 0)) (w.alloc eM)
 obtain ⟨a1, ha⟩ : ∃ x, x = ((a0.put (some 2) (.pointer (some ⟨w.heap.size, 0, none⟩))).put (some 3) (.int .i64 0)) := ⟨_, rfl⟩
 rw [← ha]
 have z1 : a1.tmps.size = 244 := by rw [ha]; simp only [aE]; exact z0
 have d1 : a1.defers = [] := by rw [ha]; simp only [aK]; exact d0
 have g1 : a1.eval (.tmp 0) = .slice (some ⟨b, o, none⟩) (bs.length + 1) c := by rw [ha, pne _ _ _ _ (by decide), pne _ _ _ _ (by decide)]; exact g0
 have p1 : a1.eval (.tmp 2) = .pointer (some ⟨w.heap.size, 0, none⟩) := by rw [ha, pne _ _ _ _ (by decide), aI _ _ _ _ (by (try simp only [aE]); omega), if_pos rfl]
 clear ha
 refine wp_seq (wp_region_lit (aG rfl (aC _) ?_))
 rw [g1]
 have q10 : (a1.put (some 10) (.slice (some ⟨b, o, none⟩) (bs.length + 1) c)).eval (.tmp 10) = .slice (some ⟨b, o, none⟩) (bs.length + 1) c := by rw [aI _ _ _ _ (by omega), if_pos rfl]
 refine aG rfl (fF _ _ b o (bs.length + 1) c 0 q10 rfl (by omega)) ?_
 refine aG rfl (eI _ b (o + 0) (f : Int) (by rw [aI _ _ _ _ (by rw [aE]; omega), if_pos rfl]) hcell1) ?_
 refine aG rfl (gT _ (f : Int) (by rw [aI _ _ _ _ (by simp only [aE]; omega), if_pos rfl]) (by omega) (by omega)) ?_
 refine aG rfl ((aX _).trans (congrArg (fun v => Result.ok (Next.value v) (w.alloc eM)) (show _ = Value.int .i64 (f : Int) by rw [aI _ _ _ _ (by simp only [aE]; omega), if_pos rfl]))) (wpList_nil ?_)
 show Code.wp Tryz.prog _ Q (((((a1.put (some 10) (.slice (some ⟨b, o, none⟩) (bs.length + 1) c)).put (some 11) (.pointer (some ⟨b, o + 0, none⟩))).put (some 12) (.int .u8 (f : Int))).put (some 13) (.int .i64 (f : Int))).put (some 4) (.int .i64 (f : Int))) (w.alloc eM)
 obtain ⟨a2, ha⟩ : ∃ x, x = (((((a1.put (some 10) (.slice (some ⟨b, o, none⟩) (bs.length + 1) c)).put (some 11) (.pointer (some ⟨b, o + 0, none⟩))).put (some 12) (.int .u8 (f : Int))).put (some 13) (.int .i64 (f : Int))).put (some 4) (.int .i64 (f : Int))) := ⟨_, rfl⟩
 rw [← ha]
 have z2 : a2.tmps.size = 244 := by rw [ha]; simp only [aE]; exact z1
 have d2 : a2.defers = [] := by rw [ha]; simp only [aK]; exact d1
 have g2 : a2.eval (.tmp 0) = .slice (some ⟨b, o, none⟩) (bs.length + 1) c := by rw [ha, pne _ _ _ _ (by decide), pne _ _ _ _ (by decide), pne _ _ _ _ (by decide), pne _ _ _ _ (by decide), pne _ _ _ _ (by decide)]; exact g1
 have p2 : a2.eval (.tmp 2) = .pointer (some ⟨w.heap.size, 0, none⟩) := by rw [ha, pne _ _ _ _ (by decide), pne _ _ _ _ (by decide), pne _ _ _ _ (by decide), pne _ _ _ _ (by decide), pne _ _ _ _ (by decide)]; exact p1
 have f2 : a2.eval (.tmp 4) = .int .i64 (f : Int) := by rw [ha, aI _ _ _ _ (by (try simp only [aE]); omega), if_pos rfl]
 clear ha
 refine wp_seq (wp_region_lit (aG rfl (aC _) ?_))
 rw [g2]
 refine aG rfl (aA1 _ b o (bs.length + 1) c (by omega) (fun _ => by simp [Act.eval]) (by rw [aI _ _ _ _ (by omega), if_pos rfl])) ?_
 refine aG rfl ((aX _).trans (congrArg (fun v => Result.ok (Next.value v) (w.alloc eM)) (show _ = Value.slice (some ⟨b, if c = 1 then o else o + 1, none⟩) (bs.length + 1 - 1) (c - 1) by rw [aI _ _ _ _ (by simp only [aE]; omega), if_pos rfl]))) (wpList_nil ?_)
 show Code.wp Tryz.prog _ Q (((a2.put (some 14) (.slice (some ⟨b, o, none⟩) (bs.length + 1) c)).put (some 15) (.slice (some ⟨b, if c = 1 then o else o + 1, none⟩) (bs.length + 1 - 1) (c - 1))).put (some 5) (.slice (some ⟨b, if c = 1 then o else o + 1, none⟩) (bs.length + 1 - 1) (c - 1))) (w.alloc eM)
 obtain ⟨a3, ha⟩ : ∃ x, x = (((a2.put (some 14) (.slice (some ⟨b, o, none⟩) (bs.length + 1) c)).put (some 15) (.slice (some ⟨b, if c = 1 then o else o + 1, none⟩) (bs.length + 1 - 1) (c - 1))).put (some 5) (.slice (some ⟨b, if c = 1 then o else o + 1, none⟩) (bs.length + 1 - 1) (c - 1))) := ⟨_, rfl⟩
 rw [← ha]
 have z3 : a3.tmps.size = 244 := by rw [ha]; simp only [aE]; exact z2
 have d3 : a3.defers = [] := by rw [ha]; simp only [aK]; exact d2
 have p3 : a3.eval (.tmp 2) = .pointer (some ⟨w.heap.size, 0, none⟩) := by rw [ha, pne _ _ _ _ (by decide), pne _ _ _ _ (by decide), pne _ _ _ _ (by decide)]; exact p2
 have f3 : a3.eval (.tmp 4) = .int .i64 (f : Int) := by rw [ha, pne _ _ _ _ (by decide), pne _ _ _ _ (by decide), pne _ _ _ _ (by decide)]; exact f2
 have r3 : a3.eval (.tmp 5) = .slice (some ⟨b, if c = 1 then o else o + 1, none⟩) (bs.length + 1 - 1) (c - 1) := by rw [ha, aI _ _ _ _ (by (try simp only [aE]); omega), if_pos rfl]
 clear ha
 refine wp_seq (wp_region_lit (aG rfl (aC _) ?_))
 rw [r3]
 refine aG rfl (aE7 _ _ (bs.length + 1 - 1) (c - 1) (by rw [aI _ _ _ _ (by omega), if_pos rfl])) ?_
 refine aG rfl ((aX _).trans (congrArg (fun v => Result.ok (Next.value v) (w.alloc eM)) (show _ = Value.int .i64 ((bs.length + 1 - 1 : Nat) : Int) by rw [aI _ _ _ _ (by simp only [aE]; omega), if_pos rfl]))) (wpList_nil ?_)
 show Code.wp Tryz.prog _ Q (((a3.put (some 16) (.slice (some ⟨b, if c = 1 then o else o + 1, none⟩) (bs.length + 1 - 1) (c - 1))).put (some 17) (.int .i64 ((bs.length + 1 - 1 : Nat) : Int))).put (some 6) (.int .i64 ((bs.length + 1 - 1 : Nat) : Int))) (w.alloc eM)
 obtain ⟨a4, ha⟩ : ∃ x, x = (((a3.put (some 16) (.slice (some ⟨b, if c = 1 then o else o + 1, none⟩) (bs.length + 1 - 1) (c - 1))).put (some 17) (.int .i64 ((bs.length + 1 - 1 : Nat) : Int))).put (some 6) (.int .i64 ((bs.length + 1 - 1 : Nat) : Int))) := ⟨_, rfl⟩
 rw [← ha]
 have z4 : a4.tmps.size = 244 := by rw [ha]; simp only [aE]; exact z3
 have d4 : a4.defers = [] := by rw [ha]; simp only [aK]; exact d3
 have p4 : a4.eval (.tmp 2) = .pointer (some ⟨w.heap.size, 0, none⟩) := by rw [ha, pne _ _ _ _ (by decide), pne _ _ _ _ (by decide), pne _ _ _ _ (by decide)]; exact p3
 have f4 : a4.eval (.tmp 4) = .int .i64 (f : Int) := by rw [ha, pne _ _ _ _ (by decide), pne _ _ _ _ (by decide), pne _ _ _ _ (by decide)]; exact f3
 have r4 : a4.eval (.tmp 5) = .slice (some ⟨b, if c = 1 then o else o + 1, none⟩) (bs.length + 1 - 1) (c - 1) := by rw [ha, pne _ _ _ _ (by decide), pne _ _ _ _ (by decide), pne _ _ _ _ (by decide)]; exact r3
 have n4 : a4.eval (.tmp 6) = .int .i64 ((bs.length + 1 - 1 : Nat) : Int) := by rw [ha, aI _ _ _ _ (by (try simp only [aE]); omega), if_pos rfl]
 clear ha
 refine wp_seq (wp_region_lit (aG rfl (aCl (fun _ => by simp [Act.eval])) ?_))
 refine aG rfl ((aX _).trans (congrArg (fun v => Result.ok (Next.value v) ((w.alloc eM).alloc lD)) (show _ = Value.slice (some ⟨(w.alloc eM).heap.size, 0, none⟩) 5 5 by rw [aI _ _ _ _ (by (try simp only [aE]); omega), if_pos rfl]))) (wpList_nil ?_)
 show Code.wp Tryz.prog _ Q ((a4.put (some 18) (.slice (some ⟨(w.alloc eM).heap.size, 0, none⟩) 5 5)).put (some 7) (.slice (some ⟨(w.alloc eM).heap.size, 0, none⟩) 5 5)) ((w.alloc eM).alloc lD)
 obtain ⟨a5, ha⟩ : ∃ x, x = ((a4.put (some 18) (.slice (some ⟨(w.alloc eM).heap.size, 0, none⟩) 5 5)).put (some 7) (.slice (some ⟨(w.alloc eM).heap.size, 0, none⟩) 5 5)) := ⟨_, rfl⟩
 rw [← ha]
 have z5 : a5.tmps.size = 244 := by rw [ha]; simp only [aE]; exact z4
 have d5 : a5.defers = [] := by rw [ha]; simp only [aK]; exact d4
 have p5 : a5.eval (.tmp 2) = .pointer (some ⟨w.heap.size, 0, none⟩) := by rw [ha, pne _ _ _ _ (by decide), pne _ _ _ _ (by decide)]; exact p4
 have f5 : a5.eval (.tmp 4) = .int .i64 (f : Int) := by rw [ha, pne _ _ _ _ (by decide), pne _ _ _ _ (by decide)]; exact f4
 have r5 : a5.eval (.tmp 5) = .slice (some ⟨b, if c = 1 then o else o + 1, none⟩) (bs.length + 1 - 1) (c - 1) := by rw [ha, pne _ _ _ _ (by decide), pne _ _ _ _ (by decide)]; exact r4
 have n5 : a5.eval (.tmp 6) = .int .i64 ((bs.length + 1 - 1 : Nat) : Int) := by rw [ha, pne _ _ _ _ (by decide), pne _ _ _ _ (by decide)]; exact n4
 have t5 : a5.eval (.tmp 7) = .slice (some ⟨(w.alloc eM).heap.size, 0, none⟩) 5 5 := by rw [ha, aI _ _ _ _ (by (try simp only [aE]); omega), if_pos rfl]
 clear ha
 rw [World.size_alloc] at t5
 rw [show bs.length + 1 - 1 = bs.length by omega] at r5 n5
 have hB := aAj w
 have hzw := hB.size
 refine aEu w _ b (if c = 1 then o else o + 1) (c - 1) w.heap.size (w.heap.size + 1) f bs Q hf hx hl (by omega) (by omega) (fun i hi => ?_) (by omega) (by simp) (by omega) (fun i hi => ?_) (aB8 w) hB (Nat.le_refl _) hQ a5 (by omega) d5 p5 f5 r5 n5 t5
 ·rw [if_neg (by omega)]
  exact (hB.cell (by exact hb)).trans (hcc i hi)
 ·rw [cell_of_row _ _ _ _ _ _ (aCb w)]
  have hk : i = 0 ∨ i = 1 ∨ i = 2 ∨ i = 3 ∨ i = 4 := by omega
  rcases hk with rfl | rfl | rfl | rfl | rfl <;> rfl
def yP (ops : List Oper) (n : Nat) : Bool := (List.range n).all fun i => (List.range (n + 1)).any fun j => decide (i < j) && ((ops[j]?.map fun o => o.after.toList.any fun e => e.on == i).getD false)
theorem aBy {ops : List Oper} {n : Nat} (h : yP ops n = true) {L : Nat → Bool} (hc : ∀ j o, ops[j]? = some o → L j = true → ∀ e ∈ o.after, L e.on = true) (hn : L n = true) : ∀ d i, i + d = n → L i = true := by
 intro d
 induction d using Nat.strongRecOn with
 | _ d ih =>
  intro i hi
  by_cases h0 : d = 0
  ·have : i = n := by omega
   subst this
   exact hn
  ·have h1 := List.all_eq_true.1 h i (List.mem_range.2 (by omega))
   obtain ⟨j, hj, h2⟩ := List.any_eq_true.1 h1
   have hj' := List.mem_range.1 hj
   rw [Bool.and_eq_true] at h2
   have hlt := of_decide_eq_true h2.1
   have h3 := h2.2
   cases ho : ops[j]? with
   | none => rw [ho] at h3; cases h3
   | some o =>
    rw [ho] at h3
    simp only [Option.map_some, Option.getD_some] at h3
    obtain ⟨ed, hk, he⟩ := List.any_eq_true.1 h3
    have hon : ed.on = i := by simpa using he
    have := hc j o ho (ih (n - j) (by omega) j (by omega)) ed (by simpa using hk)
    rw [hon] at this
    exact this
def eV (P : Program) (Q : Exit → Act → World → Prop) (a : Act) (ds : List (Option Nat)) (n : Nat) (S : Bool → World → Prop) (Le : World → World → Prop) (R : Nat → Value → World → Prop) : Nat → List Oper → Prop
 | _, [] => True
 | i, o :: l => (o.guard = none ∧ o.dst = ds.getD i none ∧ (∀ b u w, (i ≤ n → b = false) → S b w → Deps ds R u w o.after.toList → Does P o (over a ds u) w (R i) Le (S (if i = n then true else b)) Q)) ∧ eV P Q a ds n S Le R (i + 1) l
theorem eV.at {P : Program} {Q : Exit → Act → World → Prop} {a : Act} {ds : List (Option Nat)} {n : Nat} {S : Bool → World → Prop} {Le : World → World → Prop} {R : Nat → Value → World → Prop} : ∀ (l : List Oper) (k i : Nat) (o : Oper), eV P Q a ds n S Le R k l → l[i]? = some o → (o.guard = none ∧ o.dst = ds.getD (k + i) none ∧ (∀ b u w, (k + i ≤ n → b = false) → S b w → Deps ds R u w o.after.toList → Does P o (over a ds u) w (R (k + i)) Le (S (if k + i = n then true else b)) Q))
 | [], _, _, _, _, e => by simp at e
 | x :: l, k, 0, o, h, e => by
  simp at e
  subst e
  exact h.1
 | x :: l, k, i + 1, o, h, e => by
  have := eV.at l (k + 1) i o h.2 (by simpa using e)
  rw [show k + 1 + i = k + (i + 1) by omega] at this
  exact this
theorem rS {P : Program} {Q : Exit → Act → World → Prop} {a : Act} {ds : List (Option Nat)} {n : Nat} {S : Bool → World → Prop} {Le : World → World → Prop} {R : Nat → Value → World → Prop} {ops : List Oper}
  (nd : ∀ (i j k : Nat), ds[i]? = some (some k) → ds[j]? = some (some k) → i = j) (hlen : ds.length = ops.length)
  (hback : cO 0 ops = true) (hst : ∀ i v w w', R i v w → Le w w' → R i v w') (hstep : eV P Q a ds n S Le R 0 ops)
  (hn : n < ops.length) (hch : yP ops n = true) (hend : ∀ u w, S true w → (∀ i, i < ops.length → R i (bX u (ds.getD i none)) w) → Q .normal (over a ds u) w) :
  ∀ (fuel : Nat) (listed : Array Bool) (u : Nat → Value) (w : World), S (listed.getD n false) w → listed.size = ops.length → (List.range ops.length).countP (fun i => !listed.getD i true) ≤ fuel → (∀ i, listed.getD i false = true → R i (bX u (ds.getD i none)) w) → (∀ j o, ops[j]? = some o → listed.getD j false = true → ∀ e ∈ o.after, listed.getD e.on false = true) →
   wpAny P .any ops.toArray Q fuel listed (over a ds u) w := by
 have hall : ∀ (listed : Array Bool), listed.size = ops.length → Region.ready .any ops.toArray listed = [] → ∀ i, i < ops.length → listed.getD i false = true := by
  intro listed hs hr i
  induction i using Nat.strongRecOn with
  | _ i ih =>
   intro hi
   cases hb : listed.getD i false with
   | true => rfl
   | false =>
    exfalso
    have hlt : i < listed.size := by omega
    have hb' : listed.getD i true = false := by
     simp only [Array.getD, hlt, dite_true] at hb ⊢
     exact hb
    have : i ∈ Region.ready .any ops.toArray listed := by
     unfold Region.ready
     rw [List.mem_filter]
     refine ⟨by simpa using hi, ?_⟩
     have ho : ops.toArray[i]? = some ops[i] := by simp [hi]
     rw [hb', ho]
     simp only [Bool.not_false, Option.map_some, Option.getD_some, Bool.true_and]
     rw [Array.all_eq_true]
     intro k hk
     have he := cO.at ops 0 i ops[i] hback (by simp [hi]) _ (Array.getElem_mem hk)
     rw [he.2, ih _ (by omega) (by omega)]
     rfl
    rw [hr] at this
    simp at this
 have hnorm : ∀ (listed : Array Bool) (u : Nat → Value) (w : World), S (listed.getD n false) w → listed.size = ops.length → Region.ready .any ops.toArray listed = [] → (∀ i, listed.getD i false = true → R i (bX u (ds.getD i none)) w) → Q .normal (over a ds u) w := fun listed u w hS hs hr hf => hend u w (by rw [hall listed hs hr n hn] at hS; exact hS) (fun i hi => hf i (hall listed hs hr i hi))
 intro fuel
 induction fuel with
 | zero =>
  intro listed u w hS hs hc hf _
  have hr : Region.ready .any ops.toArray listed = [] := by
   unfold Region.ready
   rw [List.filter_eq_nil_iff]
   intro i hi
   have h0 : (List.range ops.length).countP (fun i => !listed.getD i true) = 0 := by omega
   rw [List.countP_eq_zero] at h0
   have := h0 i (by simpa using hi)
   simp only [Bool.and_eq_true, _root_.not_and]
   intro h
   exact absurd h this
  exact ⟨hr, hnorm listed u w hS hs hr hf⟩
 | succ fuel ih =>
  intro listed u w hS hs hc hf hcl
  refine ⟨fun hr => hnorm listed u w hS hs hr hf, fun i hi => ?_⟩
  unfold Region.ready at hi
  rw [List.mem_filter] at hi
  obtain ⟨hi, hp⟩ := hi
  have hi' : i < ops.length := by simpa using hi
  have ho : ops.toArray[i]? = some ops[i] := by simp [hi']
  have hol : ops[i]? = some ops[i] := by simp [hi']
  rw [ho] at hp
  simp only [Option.map_some, Option.getD_some, Bool.and_eq_true, Bool.not_eq_true'] at hp
  obtain ⟨hpl, hpa⟩ := hp
  rw [Array.all_eq_true] at hpa
  obtain ⟨s1, s2, s3⟩ := eV.at ops 0 i ops[i] hstep hol
  rw [Nat.zero_add] at s2 s3
  have hdi : ds[i]? = some (ds.getD i none) := by
   have : i < ds.length := by omega
   simp [List.getD, List.getElem?_eq_getElem this]
  have hdm : (ops[i]).dst = none ∨ (ops[i]).dst ∈ ds := by
   rw [s2]
   exact .inr (List.mem_of_getElem? hdi)
  have hdeps : Deps ds R u w (ops[i]).after.toList := by
   have : ∀ l : List Edge, (∀ e ∈ l, e ∈ (ops[i]).after) → Deps ds R u w l := by
    intro l
    induction l with
    | nil => intro _; trivial
    | cons e l ihl =>
     intro h
     have he := h e (List.mem_cons_self ..)
     obtain ⟨k, hk, rfl⟩ := Array.getElem_of_mem he
     have hb := (cO.at ops 0 i ops[i] hback hol _ he).2
     have := hpa k hk
     rw [hb] at this
     refine ⟨hf _ (by simpa using this), ihl (fun e he => h e (List.mem_cons_of_mem _ he))⟩
   exact this _ (fun e he => by simpa using he)
  have hw : Region.wanted ops[i] (yielded ops.toArray (over a ds u).tmps) = true := by
   unfold Region.wanted
   rw [s1]
  unfold wpOp
  rw [ho]
  simp only [hw, if_true]
  refine .inl (Oper.wp_mono ?_ (s3 _ u w (fun e => by
   have hil : i < listed.size := by omega
   have hpl' : listed.getD i false = false := by
    simp only [Array.getD, hil, dite_true] at hpl ⊢
    exact hpl
   cases hb : listed.getD n false with
   | false => rfl
   | true =>
    have := aBy hch (L := fun j => listed.getD j false) hcl hb (n - i) i (by omega)
    rw [hpl'] at this
    cases this) hS hdeps).go)
  rintro a' w' ⟨v, rfl, hR, hLe, hS'⟩
  rw [gG a ds u _ v hdm]
  have hil : i < listed.size := by omega
  have hS2 : S ((listed.setIfInBounds i true).getD n false) w' := by
   have e : (listed.setIfInBounds i true).getD n false = (if i = n then true else listed.getD n false) := by
    by_cases e : i = n
    ·subst e
     simp [Array.getD, hil]
    ·by_cases hnl : n < listed.size
     ·simp only [Array.getD, Array.size_setIfInBounds, hnl, dite_true, Array.getInternal_eq_getElem, Array.getElem_setIfInBounds_ne hnl e]
      simp [e]
     ·simp [Array.getD, hnl, e]
   rw [e]
   exact hS'
  refine ih _ _ _ hS2 (by simpa using hs) ?_ ?_ ?_
  ·have := gX (p := fun x => !listed.getD x true) (q := fun x => !(listed.setIfInBounds i true).getD x true) (i := i) (fun x hx => by
    by_cases e : x = i
    ·subst e
     simp [Array.getD, hil] at hx
    ·have e' : i ≠ x := fun h => e h.symm
     by_cases hxl : x < listed.size
     ·simp only [Array.getD, Array.size_setIfInBounds, hxl, dite_true, Array.getInternal_eq_getElem, Array.getElem_setIfInBounds_ne hxl e'] at hx ⊢
      exact hx
     ·simp [Array.getD, hxl] at hx) (by rw [hpl]; rfl) (by simp [Array.getD, hil]) (List.range ops.length) (by simpa using hi')
   omega
  ·intro j hj
   by_cases e : j = i
   ·subst e
    rw [← s2]
    have hv : bX (upd u (ops[j]).dst v) (ops[j]).dst = gF (ops[j]).dst v := by
     cases (ops[j]).dst with
     | none => rfl
     | some k => simp [bX, upd, gF]
    rw [hv]
    exact hR
   ·have e' : i ≠ j := fun h => e h.symm
    have hj' : listed.getD j false = true := by
     by_cases hxl : j < listed.size
     ·simp only [Array.getD, Array.size_setIfInBounds, hxl, dite_true, Array.getInternal_eq_getElem, Array.getElem_setIfInBounds_ne hxl e'] at hj ⊢
      exact hj
     ·simp [Array.getD, hxl] at hj
    have h1 := hst _ _ _ _ (hf j hj') hLe
    have hv : bX (upd u (ops[i]).dst v) (ds.getD j none) = bX u (ds.getD j none) := by
     cases hdj : ds.getD j none with
     | none => rfl
     | some k =>
      cases hdi2 : (ops[i]).dst with
      | none => rfl
      | some k2 =>
       have hne : k ≠ k2 := by
        intro hk
        subst hk
        refine e (nd j i k ?_ ?_)
        ·have hjl : j < ds.length := by
          by_cases hjl : j < ds.length
          ·exact hjl
          ·simp [List.getD, List.getElem?_eq_none (Nat.le_of_not_lt hjl)] at hdj
         simp [List.getD, List.getElem?_eq_getElem hjl] at hdj
         rw [List.getElem?_eq_getElem hjl, hdj]
        ·rw [hdi, ← s2, hdi2]
       simp [bX, upd, hne]
    rw [hv]
    exact h1
  ·intro j o hj hl e he
   have up : ∀ x, listed.getD x false = true → (listed.setIfInBounds i true).getD x false = true := fun x hx => by
    by_cases e' : i = x
    ·subst e'
     simp [Array.getD, hil]
    ·by_cases hxl : x < listed.size
     ·simp only [Array.getD, Array.size_setIfInBounds, hxl, dite_true, Array.getInternal_eq_getElem, Array.getElem_setIfInBounds_ne hxl e'] at hx ⊢
      exact hx
     ·simp [Array.getD, hxl] at hx
   by_cases e' : i = j
   ·subst e'
    rw [hol] at hj
    cases hj
    obtain ⟨k, hk, rfl⟩ := Array.getElem_of_mem he
    have hb := (cO.at ops 0 i ops[i] hback hol _ he).2
    have := hpa k hk
    rw [hb] at this
    exact up _ (by simpa using this)
   ·refine up _ (hcl j o hj ?_ e he)
    by_cases hxl : j < listed.size
    ·simp only [Array.getD, Array.size_setIfInBounds, hxl, dite_true, Array.getInternal_eq_getElem, Array.getElem_setIfInBounds_ne hxl e'] at hl ⊢
     exact hl
    ·simp [Array.getD, hxl] at hl
theorem lR {P : Program} {Q : Exit → Act → World → Prop} {a : Act} {w : World} {id : Nat} {ops : List Oper} (ds : List (Option Nat)) (n : Nat) (S : Bool → World → Prop) (Le : World → World → Prop) (R : Nat → Value → World → Prop)
  (hm : P.follows .mixedOrders = true) (nd : ndB ds = true) (hlen : ds.length = ops.length)
  (hback : cO 0 ops = true) (hst : ∀ i v w w', R i v w → Le w w' → R i v w') (hn : n < ops.length) (hch : yP ops n = true) (hS : S false w.drew) (hstep : eV P Q a ds n S Le R 0 ops)
  (hend : ∀ u w, S true w → (∀ i, i < ops.length → R i (bX u (ds.getD i none)) w) → Q .normal (over a ds u) w) : (Code.region id ops.toArray true).wp P Q a w := by
 refine wp_region_any hm ?_
 have := rS (ndB.spec ds nd) hlen hback hst hstep hn hch hend ops.length (Array.replicate ops.length false) (fun k => a.tmps.getD k undef) w.drew (by
  have e : (Array.replicate ops.length false).getD n false = false := by simp [Array.getD, hn]
  rw [e]
  exact hS) (by simp) (by
  refine Nat.le_trans List.countP_le_length ?_
  simp) (fun i hi => by
  exfalso
  by_cases h : i < ops.length
  ·simp [Array.getD, h] at hi
  ·simp [Array.getD, h] at hi) (fun j o _ hl => by
  exfalso
  by_cases h : j < ops.length
  ·simp [Array.getD, h] at hl
  ·simp [Array.getD, h] at hl)
 rw [iT] at this
 simpa using this
theorem eV.cons {P : Program} {Q : Exit → Act → World → Prop} {a : Act} {ds : List (Option Nat)} {n : Nat} {S : Bool → World → Prop} {Le : World → World → Prop} {R : Nat → Value → World → Prop} {i : Nat} {o : Oper} {l : List Oper} (h1 : o.guard = none) (h2 : o.dst = ds.getD i none)
  (h3 : ∀ b u w, (i ≤ n → b = false) → S b w → Deps ds R u w o.after.toList → Does P o (over a ds u) w (R i) Le (S (if i = n then true else b)) Q) (h4 : eV P Q a ds n S Le R (i + 1) l) : eV P Q a ds n S Le R i (o :: l) := ⟨⟨h1, h2, h3⟩, h4⟩
end Go.Proofs.YtfekelmldebplaaGreatDoor
