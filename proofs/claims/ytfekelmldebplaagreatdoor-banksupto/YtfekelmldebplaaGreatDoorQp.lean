import Derived.Deep.MidRow
import Derived.BigRegion
import Derived.Test.YtfekelmldebplaaGreatDoorQd
set_option maxRecDepth 100000
set_option maxHeartbeats 8000000
namespace Go.Proofs.YtfekelmldebplaaGreatDoor
open Go.RowKit
theorem vZ : (Tryz.prog.info? 257).map (·.size) = some 4 := by kernel_rfl
section
variable {ev : Operand → Value} {w : World} {dst : Option Tmp} {T : TypeId} {p : String} {af : Array Edge} {g : Option (Nat × Bool)}
theorem oD (x : Operand) (b : Addr) (a : Option Addr) (n c : Nat) (hx : ev x = .pointer (some b)) (hc : w.cell? b = some (.slice a n c)) : (execOp ev { dst := dst, op := .load 250 x, type := T, pos := p, after := af, guard := g }).run Tryz.prog w = .ok (.value (.slice a n c)) w := by
 simp [go_sem, hx, hc]
theorem aA0 (x y : Operand) (b n c k : Nat) (hx : ev x = .slice (some ⟨b, 0, none⟩) n c) (hy : ev y = .int .i64 (k : Int)) (hk : k < n) : (execOp ev { dst := dst, op := .indexAddr 250 x y, type := T, pos := p, after := af, guard := g }).run Tryz.prog w = .ok (.value (.pointer (some ⟨b, k * 4, none⟩))) w := by
 have h1 : (k : Int) < (n : Int) := by omega
 simp [go_sem, hx, hy, h1]
theorem wY : (execOp ev { dst := dst, op := .alloc 257, type := T, pos := p, after := af, guard := g }).run Tryz.prog w = .ok (.value (.pointer (some ⟨w.heap.size, 0, none⟩))) (w.alloc (.cells #[.int .i64 0, .int .i64 0, .int .i64 0, .bool false] 257)) := by
 simp [go_sem]
end
theorem dD {P : Program} {ops : Array Oper} {Q : Exit → Act → World → Prop} {rest : List Oper} {o : Oper} {a : Act} {w w' : World} {v : Value} {d : Nat} (hg : o.guard = none) (hd : o.dst = some d) (hr : (execOp a.eval o).run P w = .ok (.value v) w') (h : ∀ a', a' = a.put (some d) v → wpList P ops Q rest a' w') : wpList P ops Q (o :: rest) a w :=
 aG hg hr (by rw [hd]; exact h _ rfl)
theorem AF.at {a a' : Act} {yb ab : Nat} {qv v10 v : Value} {i : Int} {d : Nat} (h : AF a yb ab qv v10 i) (e : a' = a.put (some d) v) (hd : d < 157) : a'.eval (.tmp d) = v := by rw [e, aI _ _ _ _ (by rw [h.sz]; exact hd), if_pos rfl]
theorem AF.far {a a' : Act} {yb ab : Nat} {qv v10 v v' : Value} {i : Int} {d : Nat} (h : AF a yb ab qv v10 i) (e : a' = a.put (some d) v) (hd : d < 157) (k : Nat) (hk : k ≠ d) (hv : a.eval (.tmp k) = v') : a'.eval (.tmp k) = v' := by rw [e, aI _ _ _ _ (by rw [h.sz]; exact hd), if_neg hk]; exact hv
theorem AF.to {a a' : Act} {yb ab : Nat} {qv v10 v : Value} {i : Int} {d : Nat} (h : AF a yb ab qv v10 i) (e : a' = a.put (some d) v) (hd : d < 157) (hn : [0, 2, 8, 10, 11].all (fun k => k != d) = true) : AF a' yb ab qv v10 i := by rw [e]; exact h.put d v hd hn
theorem oP (a : Act) (Q : Exit → Act → World → Prop) (w : World) (yb ab g n c k : Nat) (qv v10 : Value) (x : Tch) (h : AF a yb ab qv v10 (k : Int)) (a0 : w.cell? ⟨ab, 0, none⟩ = some (.slice (some ⟨g, 0, none⟩) n c)) (hk : k < n) (hx : ∀ j u, x.cells[j]? = some u → w.cell? ⟨g, k * 4 + j, none⟩ = some u)
  (hend : ∀ a' W, AF a' yb ab qv v10 (k : Int) → a'.eval (.tmp 12) = .pointer (some ⟨w.heap.size, 0, none⟩) → Below w.heap.size w W → W.heap[w.heap.size]? = some (.cells x.cells 257 (0, 0)) → Q .normal a' W) :
  (Code.region 14 ([⟨some 66, .fieldAddr 252 (.tmp 8) 0, 0, "relay.go:318", #[], none⟩,
 ⟨some 67, .load 250 (.tmp 66), 250, "relay.go:318", #[⟨0, .data⟩], none⟩,
 ⟨some 68, .move (.tmp 11), 3, "relay.go:318", #[], none⟩,
 ⟨some 69, .indexAddr 250 (.tmp 67) (.tmp 68), 0, "relay.go:318", #[⟨1, .data⟩, ⟨2, .data⟩], none⟩,
 ⟨some 70, .load 257 (.tmp 69), 257, "relay.go:318", #[⟨3, .data⟩], none⟩,
 ⟨some 12, .alloc 257, 0, "relay.go:318", #[], none⟩,
 ⟨none, .store 257 (.tmp 12) (.tmp 70), 0, "relay.go:318", #[⟨5, .data⟩, ⟨4, .data⟩, ⟨0, .phase⟩, ⟨1, .phase⟩, ⟨2, .phase⟩, ⟨3, .phase⟩, ⟨4, .phase⟩, ⟨5, .phase⟩], none⟩] : List Oper).toArray false).wp Tryz.prog Q a w := by
 refine wp_region_lit ?_
 refine dD rfl rfl (jK _ ab 0 (by decide) h.h8) (fun a1 q1 => ?_)
 have f1 := h.to q1 (by decide) (by decide)
 refine dD rfl rfl (oD _ _ _ _ _ (h.at q1 (by decide)) a0) (fun a2 q2 => ?_)
 have f2 := f1.to q2 (by decide) (by decide)
 refine dD rfl rfl ((aC _).trans (congrArg (fun v => Result.ok (Next.value v) w) f2.h11)) (fun a3 q3 => ?_)
 have f3 := f2.to q3 (by decide) (by decide)
 refine dD rfl rfl (aA0 _ _ g n c k (f2.far q3 (by decide) 67 (by decide) (f1.at q2 (by decide))) (f2.at q3 (by decide)) hk) (fun a4 q4 => ?_)
 have f4 := f3.to q4 (by decide) (by decide)
 refine wpList_load_mid rfl 257 (.tmp 69) rfl g (k * 4) (f3.at q4 (by decide)) x.cells.toList _ (fun j v hv => hx j v (by simpa using hv)) Tryz.underlying257 rfl vZ ?_
 obtain ⟨a5, q5⟩ : ∃ a5, a5 = a4.put (some 70) (.agg x.cells.toList.toArray) := ⟨_, rfl⟩
 have f5 := f4.to q5 (by decide) (by decide)
 refine Eq.mp (congrArg (fun z => wpList _ _ _ _ z w) q5) ?_
 refine dD rfl rfl wY (fun a6 q6 => ?_)
 have f6 := f5.to q6 (by decide) (by decide)
 refine wpList_store_row rfl 257 (.tmp 12) (.tmp 70) rfl w.heap.size x.cells (f5.at q6 (by decide)) (f5.far q6 (by decide) 70 (by decide) ((f4.at q5 (by decide)).trans (by rw [Array.toArray_toList]))) 257 _ (heap_alloc_new w _) vZ rfl (by simp [Tch.cells, Value.oneCell']) (wpList_nil ?_)
 exact hend _ _ f6 (f5.at q6 (by decide)) (below_setRow (aZ w _) (Nat.le_refl _) _) (setRow_heap _ _ _ _ _ _ (heap_alloc_new w _))
theorem wX {ev : Operand → Value} {w : World} {dst : Option Tmp} {T : TypeId} {p : String} {af : Array Edge} {g : Option (Nat × Bool)} (x : Operand) (b k : Nat) (n : Bool) (hx : ev x = .pointer (some ⟨b, k, none⟩)) (hc : w.cell? ⟨b, k, none⟩ = some (.bool n)) : (execOp ev { dst := dst, op := .load 4 x, type := T, pos := p, after := af, guard := g }).run Tryz.prog w = .ok (.value (.bool n)) w := by
 simp [go_sem, hx, hc]
theorem oO (a : Act) (Q : Exit → Act → World → Prop) (w : World) (yb ab tb k : Nat) (qv v10 : Value) (b : Bool) (h : AF a yb ab qv v10 (k : Int)) (h12 : a.eval (.tmp 12) = .pointer (some ⟨tb, 0, none⟩)) (t3 : w.cell? ⟨tb, 3, none⟩ = some (.bool b))
  (hend : ∀ a', AF a' yb ab qv v10 (k : Int) → a'.eval (.tmp 12) = .pointer (some ⟨tb, 0, none⟩) → a'.eval (.tmp 73) = .bool (!b) → Q .normal a' w) :
  (Code.region 15 ([⟨some 71, .fieldAddr 257 (.tmp 12) 3, 0, "relay.go:319", #[], none⟩,
 ⟨some 72, .load 4 (.tmp 71), 4, "relay.go:319", #[⟨0, .data⟩], none⟩,
 ⟨some 73, .unOp .not 4 (.tmp 72), 4, "relay.go:319", #[⟨1, .data⟩], none⟩] : List Oper).toArray false).wp Tryz.prog Q a w := by
 refine wp_region_lit ?_
 refine dD rfl rfl (fG _ tb 3 (by decide) h12) (fun a1 q1 => ?_)
 have f1 := h.to q1 (by decide) (by decide)
 have e1 := h.far q1 (by decide) 12 (by decide) h12
 refine dD rfl rfl (wX _ tb 3 b (h.at q1 (by decide)) t3) (fun a2 q2 => ?_)
 have f2 := f1.to q2 (by decide) (by decide)
 have e2 := f1.far q2 (by decide) 12 (by decide) e1
 refine dD rfl rfl (aE6 _ b (!b) (f1.at q2 (by decide)) rfl) (fun a3 q3 => wpList_nil ?_)
 exact hend _ (f2.to q3 (by decide) (by decide)) (f2.far q3 (by decide) 12 (by decide) e2) (f2.at q3 (by decide))
theorem nV {W : World} {tb : Nat} {x : Tch} (h : W.heap[tb]? = some (.cells x.cells 257 (0, 0))) : W.cell? ⟨tb, 0, none⟩ = some (.int .i64 x.t) ∧ W.cell? ⟨tb, 1, none⟩ = some (.int .i64 x.a) ∧ W.cell? ⟨tb, 2, none⟩ = some (.int .i64 x.n) ∧ W.cell? ⟨tb, 3, none⟩ = some (.bool x.wr) := by
 have c := fun j => cell_of_row _ tb j _ _ _ h
 exact ⟨(c 0).trans rfl, (c 1).trans rfl, (c 2).trans rfl, (c 3).trans rfl⟩
theorem aBe (a : Act) (Q : Exit → Act → World → Prop) (w : World) (yb ab g n c k gb N A m i : Nat) (qv v10 : Value) (xs : List Int) (h : AF a yb ab qv v10 (k : Int)) (a0 : w.cell? ⟨ab, 0, none⟩ = some (.slice (some ⟨g, 0, none⟩) n c)) (hk : k < n)
  (hx : ∀ j u, (Tch.cells ⟨(i : Int), (A : Int), (m : Int), false⟩)[j]? = some u → w.cell? ⟨g, k * 4 + j, none⟩ = some u)
  (hyb : yb < w.heap.size) (hgb : gb < w.heap.size) (hi : i < 4) (hN : N ≤ 200) (c1 : w.cell? ⟨yb, 6 + i, none⟩ = some (.slice (some ⟨gb, 0, none⟩) N N)) (hAN : A + m ≤ N) (hm1 : 0 < m) (hll : xs.length = m) (hcn : ∀ q, q < m → w.cell? ⟨gb, A + q, none⟩ = some (.int .i64 (xs.getD q 0)))
  (hend : ∀ a' v W, AF a' yb ab qv v (k : Int) → Below w.heap.size w W → aS W w.heap.size v xs → Q .normal a' W) :
  (Code.block 1 (inC (fstC (sndC (lpC (inC (sndC (fstC (sndC (cJ 6 (cD Tryz.f94))))))))))).wp Tryz.prog Q a w := by
 rw [tO]
 refine wp_block (wp_seq (oP a _ w yb ab g n c k qv v10 ⟨(i : Int), (A : Int), (m : Int), false⟩ h a0 hk hx (fun a1 W1 f1 e1 hW1 hr1 => ?_)))
 obtain ⟨t0, t1, t2, t3⟩ := nV hr1
 refine wp_seq (wp_seq (oO a1 _ W1 yb ab w.heap.size k qv v10 false f1 e1 t3 (fun a2 f2 e2 e73 => ?_)))
 refine wp_cond_true e73 (wp_seq (fQ a2 _ W1 16 10 _ _ _ _ (.slice none 0 0) rfl ?_))
 obtain ⟨a3, q3⟩ : ∃ a3, a3 = a2.put (some 10) (.slice none 0 0) := ⟨_, rfl⟩
 rw [← q3]
 have hz := hW1.size
 have hz1 := (Array.getElem?_eq_some_iff.1 hr1).1
 have s3 : a3.tmps.size = 157 := by rw [q3, aE, f2.sz]
 have o3 : ∀ j v, j ≠ 10 → a2.eval (.tmp j) = v → a3.eval (.tmp j) = v := fun j v hj hv => f2.far q3 (by decide) j hj hv
 refine wp_seq (aDe a3 _ W1 17 yb w.heap.size gb N A m i xs (by rw [s3]; exact Nat.le_refl _) (by omega) hz1 (by omega) hi hN ((hW1.cell (by exact hyb)).trans c1) t0 t1 t2 hAN hm1 hll (fun q hq => (hW1.cell (by exact hgb)).trans (hcn q hq)) (o3 0 _ (by decide) f2.h0) (o3 12 _ (by decide) e2) (f2.at q3 (by decide)) (fun u W2 hW2 ho => ?_))
 refine wp_exit ?_
 have o4 : ∀ j v, j < 157 → some j ∉ iW → j ≠ 10 → a2.eval (.tmp j) = v → (over a3 iW u).eval (.tmp j) = v := fun j v h1 h2 h3 hv => (aQ a3 iW u j h2 (by rw [s3]; exact h1)).trans (o3 j v h3 hv)
 refine hend _ (u 10) W2 ⟨(dG _ _ _).trans s3, (bP _ _ _).trans (by rw [q3, aK]; exact f2.df), o4 0 _ (by decide) (by decide) (by decide) f2.h0, o4 2 _ (by decide) (by decide) (by decide) f2.h2, o4 8 _ (by decide) (by decide) (by decide) f2.h8, dB a3 iW u 10 (by decide) (by rw [s3]; decide), o4 11 _ (by decide) (by decide) (by decide) f2.h11⟩ (aD hW1 hW2) (aS.weakB ho hz)
theorem xC (a : Act) (Q : Exit → Act → World → Prop) (w : World) (yb ab g n c k gb vb vo vc b o m c1 N A nv i : Nat) (v10 : Value) (f : Int) (L xs : List Int) (h : AF a yb ab (.slice (some ⟨b, o, none⟩) m c1) v10 (k : Int)) (a0 : w.cell? ⟨ab, 0, none⟩ = some (.slice (some ⟨g, 0, none⟩) n c)) (hk : k < n)
  (hx : ∀ j u, (Tch.cells ⟨(i : Int), (A : Int), (nv : Int), true⟩)[j]? = some u → w.cell? ⟨g, k * 4 + j, none⟩ = some u)
  (hf : (f == 22) = false) (hm : 0 < m) (hi : i < 4) (hN : N ≤ 200) (hL : L.length = N) (hn : xs.length = nv) (hAn : A + nv ≤ N)
  (hyb : yb < w.heap.size) (hab : ab < w.heap.size) (hbb : b < w.heap.size) (hvb : nv ≠ 0 → vb < w.heap.size) (ny : yb ≠ gb) (na : ab ≠ gb) (nb : b ≠ gb) (nvb : vb ≠ gb)
  (c1_ : w.cell? ⟨yb, 6 + i, none⟩ = some (.slice (some ⟨gb, 0, none⟩) N N)) (hrow : w.heap[gb]? = some (.cells (L.map (Value.int .i64)).toArray 3 (0, 0)))
  (c0 : w.cell? ⟨b, o + 0, none⟩ = some (.int .u8 f)) (a1_ : w.cell? ⟨ab, 1, none⟩ = some (.slice (some ⟨vb, vo, none⟩) nv vc)) (vs : ∀ k, k < nv → w.cell? ⟨vb, vo + k, none⟩ = some (.int .i64 (xs.getD k 0)))
  (hend : ∀ a' W, AF a' yb ab (.slice (some ⟨b, o, none⟩) m c1) v10 (k : Int) → Chg w W (fun k => k = gb) → W.heap[gb]? = some (.cells ((setL L A xs).map (Value.int .i64)).toArray 3 (0, 0)) → Q .normal a' W) :
  (Code.block 1 (inC (fstC (sndC (lpC (inC (sndC (fstC (sndC (cJ 6 (cD Tryz.f94))))))))))).wp Tryz.prog Q a w := by
 rw [tO]
 refine wp_block (wp_seq (oP a _ w yb ab g n c k _ v10 ⟨(i : Int), (A : Int), ((nv : Nat) : Int), true⟩ h a0 hk hx (fun a1 W1 f1 e1 hW1 hr1 => ?_)))
 obtain ⟨t0, t1, t2, t3⟩ := nV hr1
 refine wp_seq (wp_seq (oO a1 _ W1 yb ab w.heap.size k _ v10 true f1 e1 t3 (fun a2 f2 e2 e73 => ?_)))
 refine wp_cond_false e73 (wp_skip (wp_seq (fQ a2 _ W1 18 13 _ _ _ _ (.int .i64 0) rfl ?_)))
 obtain ⟨a3, q3⟩ : ∃ a3, a3 = a2.put (some 13) (.int .i64 0) := ⟨_, rfl⟩
 rw [← q3]
 have hz := hW1.size
 have hz1 := (Array.getElem?_eq_some_iff.1 hr1).1
 have f3 := f2.to q3 (by decide) (by decide)
 have e3 := f2.far q3 (by decide) 12 (by decide) e2
 have g3 := f2.at q3 (by decide)
 have hgb := (Array.getElem?_eq_some_iff.1 hrow).1
 have hrow1 := (hW1.block gb hgb).trans hrow
 have hw0 : WI W1 yb ab w.heap.size gb (.slice (some ⟨b, o, none⟩) m c1) v10 (k : Int) L 0 a3 W1 := ⟨f3, e3, g3, Chg.refl _ _, hrow1⟩
 refine sN a3 _ W1 yb ab w.heap.size gb vb vo vc b o m c1 N A nv i v10 (k : Int) f L xs hf hm hi hN hL hn hAn (by omega) hz1 (by omega) (by omega) (fun e => by have := hvb e; omega) ny (by omega) na nb nvb ((hW1.cell (by exact hyb)).trans c1_) t0 t1 t2 ((hW1.cell (by exact hbb)).trans c0) ((hW1.cell (by exact hab)).trans a1_) (fun q hq => (hW1.cell (by exact hvb (by omega))).trans (vs q hq)) hw0 (fun a4 W2 hI => ?_)
 exact hend a4 W2 hI.af ((Chg.of_below hW1 (fun k => k = gb)).trans hI.chg (fun _ e _ => e)) hI.row
theorem xD (a : Act) (Q : Exit → Act → World → Prop) (w : World) (yb ab g n c k gb b o m c1 N A i n0 qx qy : Nat) (v10 : Value) (L : List Int) (h : AF a yb ab (.slice (some ⟨b, o, none⟩) m c1) v10 (k : Int)) (a0 : w.cell? ⟨ab, 0, none⟩ = some (.slice (some ⟨g, 0, none⟩) n c)) (hk : k < n)
  (hx : ∀ j u, (Tch.cells ⟨(i : Int), (A : Int), ((1 : Nat) : Int), true⟩)[j]? = some u → w.cell? ⟨g, k * 4 + j, none⟩ = some u)
  (hm : 0 < m) (hi : i < 4) (hN : N ≤ 200) (hL : L.length = N) (hAn : A < N) (hn0 : n0 < 65536) (hqx : qx < 65536) (hqy : qy < 65536) (hg0 : L.getD A 0 = (n0 : Int))
  (hyb : yb < w.heap.size) (hab : ab < w.heap.size) (hbb : b < w.heap.size) (ny : yb ≠ gb) (na : ab ≠ gb) (nb : b ≠ gb)
  (c1_ : w.cell? ⟨yb, 6 + i, none⟩ = some (.slice (some ⟨gb, 0, none⟩) N N)) (hrow : w.heap[gb]? = some (.cells (L.map (Value.int .i64)).toArray 3 (0, 0)))
  (c0 : w.cell? ⟨b, o + 0, none⟩ = some (.int .u8 22)) (a2_ : w.cell? ⟨ab, 2, none⟩ = some (.int .i64 (qx : Int))) (a3_ : w.cell? ⟨ab, 3, none⟩ = some (.int .i64 (qy : Int)))
  (hend : ∀ a' W, AF a' yb ab (.slice (some ⟨b, o, none⟩) m c1) v10 (k : Int) → Chg w W (fun k => k = gb) → W.heap[gb]? = some (.cells ((L.set A (eG qx n0 qy : Nat)).map (Value.int .i64)).toArray 3 (0, 0)) → Q .normal a' W) :
  (Code.block 1 (inC (fstC (sndC (lpC (inC (sndC (fstC (sndC (cJ 6 (cD Tryz.f94))))))))))).wp Tryz.prog Q a w := by
 rw [tO]
 refine wp_block (wp_seq (oP a _ w yb ab g n c k _ v10 ⟨(i : Int), (A : Int), ((1 : Nat) : Int), true⟩ h a0 hk hx (fun a1 W1 f1 e1 hW1 hr1 => ?_)))
 obtain ⟨t0, t1, t2, t3⟩ := nV hr1
 refine wp_seq (wp_seq (oO a1 _ W1 yb ab w.heap.size k _ v10 true f1 e1 t3 (fun a2 f2 e2 e73 => ?_)))
 refine wp_cond_false e73 (wp_skip (wp_seq (fQ a2 _ W1 18 13 _ _ _ _ (.int .i64 0) rfl ?_)))
 obtain ⟨a3, q3⟩ : ∃ a3, a3 = a2.put (some 13) (.int .i64 0) := ⟨_, rfl⟩
 rw [← q3]
 have hz := hW1.size
 have hz1 := (Array.getElem?_eq_some_iff.1 hr1).1
 have f3 := f2.to q3 (by decide) (by decide)
 have e3 := f2.far q3 (by decide) 12 (by decide) e2
 have g3 := f2.at q3 (by decide)
 have hgb := (Array.getElem?_eq_some_iff.1 hrow).1
 have hrow1 := (hW1.block gb hgb).trans hrow
 have hw0 : WI W1 yb ab w.heap.size gb (.slice (some ⟨b, o, none⟩) m c1) v10 (k : Int) L 0 a3 W1 := ⟨f3, e3, g3, Chg.refl _ _, hrow1⟩
 refine sO a3 _ W1 yb ab w.heap.size gb b o m c1 N A i n0 qx qy v10 (k : Int) L hm hi hN hL hAn hn0 hqx hqy hg0 (by omega) hz1 (by omega) (by omega) ny (by omega) na nb ((hW1.cell (by exact hyb)).trans c1_) t0 t1 t2 ((hW1.cell (by exact hbb)).trans c0) ((hW1.cell (by exact hab)).trans a2_) ((hW1.cell (by exact hab)).trans a3_) hw0 (fun a4 W2 hI => ?_)
 exact hend a4 W2 hI.af ((Chg.of_below hW1 (fun k => k = gb)).trans hI.chg (fun _ e _ => e)) hI.row
theorem aAy {ev : Operand → Value} {w : World} {dst : Option Tmp} {T : TypeId} {p : String} {af : Array Edge} {g : Option (Nat × Bool)} (x : Operand) (a : Option Addr) (n c : Nat) (hx : ev x = .slice a n c) : (execOp ev { dst := dst, op := .call { callee := .builtin .len, args := #[x], argTypes := #[250] }, type := T, pos := p, after := af, guard := g }).run Tryz.prog w = .ok (.value (.int .i64 n)) w := by
 simp [go_sem, hx]
theorem aDf (a : Act) (Q : Exit → Act → World → Prop) (w : World) (yb ab g n c k : Nat) (qv v10 : Value) (h : AF a yb ab qv v10 (k : Int)) (a0 : w.cell? ⟨ab, 0, none⟩ = some (.slice (some ⟨g, 0, none⟩) n c))
  (hend : ∀ a', AF a' yb ab qv v10 (k : Int) → a'.eval (.tmp 63) = .bool (decide (k < n)) → Q .normal a' w) :
  (Code.region 12 ([⟨some 59, .move (.tmp 11), 3, "relay.go:317", #[], none⟩,
 ⟨some 60, .fieldAddr 252 (.tmp 8) 0, 0, "relay.go:317", #[], none⟩,
 ⟨some 61, .load 250 (.tmp 60), 250, "relay.go:317", #[⟨1, .data⟩], none⟩,
 ⟨some 62, .call { callee := .builtin .len, args := #[.tmp 61], argTypes := #[250] }, 3, "relay.go:317", #[⟨2, .data⟩], none⟩,
 ⟨some 63, .binOp .lss 3 (.tmp 59) (.tmp 62) 3, 4, "relay.go:317", #[⟨0, .data⟩, ⟨3, .data⟩], none⟩] : List Oper).toArray false).wp Tryz.prog Q a w := by
 refine wp_region_lit ?_
 refine dD rfl rfl ((aC _).trans (congrArg (fun v => Result.ok (Next.value v) w) h.h11)) (fun a1 q1 => ?_)
 have f1 := h.to q1 (by decide) (by decide)
 have e1 := h.at q1 (by decide)
 refine dD rfl rfl (jK _ ab 0 (by decide) f1.h8) (fun a2 q2 => ?_)
 have f2 := f1.to q2 (by decide) (by decide)
 have e2 := f1.far q2 (by decide) 59 (by decide) e1
 refine dD rfl rfl (oD _ _ _ _ _ (f1.at q2 (by decide)) a0) (fun a3 q3 => ?_)
 have f3 := f2.to q3 (by decide) (by decide)
 have e3 := f2.far q3 (by decide) 59 (by decide) e2
 refine dD rfl rfl (aAy _ _ _ _ (f2.at q3 (by decide))) (fun a4 q4 => ?_)
 have f4 := f3.to q4 (by decide) (by decide)
 have e4 := f3.far q4 (by decide) 59 (by decide) e3
 refine dD rfl rfl (zN _ _ (k : Int) (n : Int) (decide (k < n)) e4 (f3.at q4 (by decide)) (by simp)) (fun a5 q5 => wpList_nil ?_)
 exact hend _ (f4.to q5 (by decide) (by decide)) (f4.at q5 (by decide))
def LI (w : World) (B yb ab gb : Nat) (qv : Value) (i : Int) (L R : List Int) (a : Act) (W : World) : Prop := ∃ v10, AF a yb ab qv v10 i ∧ Chg w W (fun k => k = gb) ∧ W.heap[gb]? = some (.cells (L.map (Value.int .i64)).toArray 3 (0, 0)) ∧ aS W B v10 R
theorem aBf (a : Act) (Q : Exit → Act → World → Prop) (w : World) (B yb ab g gb n c : Nat) (qv : Value) (L R : Nat → List Int) (hn : n ≤ 2) (hab : ab < w.heap.size) (na : ab ≠ gb) (a0 : w.cell? ⟨ab, 0, none⟩ = some (.slice (some ⟨g, 0, none⟩) n c)) (h0 : LI w B yb ab gb qv 0 (L 0) (R 0) a w)
  (hstep : ∀ k a W, k < n → LI w B yb ab gb qv (k : Int) (L k) (R k) a W → ∀ Z : Exit → Act → World → Prop, (∀ a' W', LI w B yb ab gb qv (k : Int) (L (k + 1)) (R (k + 1)) a' W' → Z .normal a' W') → (Code.block 1 (inC (fstC (sndC (lpC (inC (sndC (fstC (sndC (cJ 6 (cD Tryz.f94))))))))))).wp Tryz.prog Z a W)
  (hend : ∀ a' W, LI w B yb ab gb qv (n : Int) (L n) (R n) a' W → Q .normal a' W) : (sndC (fstC (sndC (cJ 6 (cD Tryz.f94))))).wp Tryz.prog Q a w := by
 rw [aFy]
 refine nO n 11 (fun k a W => LI w B yb ab gb qv (k : Int) (L k) (R k) a W) (fun k a W h => by obtain ⟨v10, f, _⟩ := h; exact f.h11) h0 ?_ ?_ hend
 ·rintro k a' W hk ⟨v10, f, hc, hr, ho⟩ Z hZ
  refine aDf a' Z W yb ab g n c k qv v10 f ((World.cell?_of_block (hc.block ab hab na)).trans a0) (fun a1 f1 e63 => hZ _ _ e63 ⟨v10, f1, hc, hr, ho⟩)
 ·intro k a' W hk hI Z hZ
  refine wp_seq (hstep k a' W hk hI _ (fun a1 W1 hI1 => ?_))
  obtain ⟨v10, f, hc, hr, ho⟩ := hI1
  refine sP a1 _ W1 13 11 64 65 k _ _ _ _ _ _ _ _ _ (by rw [f.sz]; decide) (by rw [f.sz]; decide) (by omega) f.h11 (hZ _ _ ⟨v10, ?_, hc, hr, ho⟩)
  have f2 := (f.put 64 (.int .i64 (k : Int)) (by decide) (by decide)).put 65 (.int .i64 ((k + 1 : Nat) : Int)) (by decide) (by decide)
  generalize (a1.put (some 64) (.int .i64 (k : Int))).put (some 65) (.int .i64 ((k + 1 : Nat) : Int)) = a2 at f2 ⊢
  obtain ⟨a3, q3⟩ : ∃ a3, a3 = a2.put (some 11) (.int .i64 ((k + 1 : Nat) : Int)) := ⟨_, rfl⟩
  rw [← q3]
  exact ⟨by rw [q3, aE, f2.sz], by rw [q3, aK]; exact f2.df, f2.far q3 (by decide) 0 (by decide) f2.h0, f2.far q3 (by decide) 2 (by decide) f2.h2, f2.far q3 (by decide) 8 (by decide) f2.h8, f2.far q3 (by decide) 10 (by decide) f2.h10, f2.at q3 (by decide)⟩
theorem aDb (a : Act) (Q : Exit → Act → World → Prop) (w : World) (yb ab b o m c1 : Nat) (v10 : Value) (i f : Int) (h : AF a yb ab (.slice (some ⟨b, o, none⟩) m c1) v10 i) (hm : 0 < m) (c0 : w.cell? ⟨b, o + 0, none⟩ = some (.int .u8 f))
  (hend : ∀ a', AF a' yb ab (.slice (some ⟨b, o, none⟩) m c1) v10 i → a'.eval (.tmp 137) = .int .u8 f → Q .normal a' w) :
  (Code.region 26 ([⟨some 135, .move (.tmp 2), 37, "relay.go:334", #[], none⟩,
 ⟨some 136, .indexAddr 37 (.tmp 135) (.const (.int .i64 0)), 0, "relay.go:334", #[⟨0, .data⟩], none⟩,
 ⟨some 137, .load 5 (.tmp 136), 5, "relay.go:334", #[⟨1, .data⟩], none⟩] : List Oper).toArray false).wp Tryz.prog Q a w := by
 refine wp_region_lit ?_
 refine dD rfl rfl ((aC _).trans (congrArg (fun v => Result.ok (Next.value v) w) h.h2)) (fun a1 q1 => ?_)
 have f1 := h.to q1 (by decide) (by decide)
 refine dD rfl rfl (fF _ _ b o m c1 0 (h.at q1 (by decide)) rfl hm) (fun a2 q2 => ?_)
 have f2 := f1.to q2 (by decide) (by decide)
 refine dD rfl rfl (eI _ b (o + 0) f (f1.at q2 (by decide)) c0) (fun a3 q3 => wpList_nil ?_)
 exact hend _ (f2.to q3 (by decide) (by decide)) (f2.at q3 (by decide))
theorem jP (a : Act) (Q : Exit → Act → World → Prop) (w : World) (id d1 d2 : Nat) (yb ab : Nat) (qv v10 : Value) (i f K : Int) (T1 T2 : TypeId) (p1 p2 : String) (af1 af2 : Array Edge) (h : AF a yb ab qv v10 i) (hd1 : d1 < 157) (hd2 : d2 < 157) (n1 : [0, 2, 8, 10, 11].all (fun k => k != d1) = true) (n2 : [0, 2, 8, 10, 11].all (fun k => k != d2) = true) (n3 : 137 ≠ d1) (n4 : 137 ≠ d2) (hv : a.eval (.tmp 137) = .int .u8 f)
  (hend : ∀ a', AF a' yb ab qv v10 i → a'.eval (.tmp 137) = .int .u8 f → a'.eval (.tmp d2) = .bool (f == K) → Q .normal a' w) :
  (Code.region id ([{ dst := some d1, op := .binOp .eql 5 (.tmp 137) (.const (.int .u8 K)) 5, type := T1, pos := p1, after := af1, guard := none }, { dst := some d2, op := .assign (.tmp d1), type := T2, pos := p2, after := af2, guard := none }] : List Oper).toArray false).wp Tryz.prog Q a w := by
 refine wp_region_lit ?_
 refine dD rfl rfl (zO _ _ f K (f == K) hv rfl rfl) (fun a1 q1 => ?_)
 have f1 := h.to q1 hd1 n1
 refine dD rfl rfl ((aX _).trans (congrArg (fun v => Result.ok (Next.value v) w) (h.at q1 hd1))) (fun a2 q2 => wpList_nil ?_)
 exact hend _ (f1.to q2 hd2 n2) (f1.far q2 hd2 137 n4 (h.far q1 hd1 137 n3 hv)) (f1.at q2 hd2)
theorem yU (args : Array Value) (w : World) : (callFunc 148 args).run Tryz.prog w = .ok (.enter 148 args) w := by
 simp [go_sem]
theorem aC8 (a : Act) (Q : Exit → Act → World → Prop) (w : World) (yb ab b o m c1 : Nat) (v10 : Value) (i f : Int) (T : Value → World → Prop) (h : AF a yb ab (.slice (some ⟨b, o, none⟩) m c1) v10 i) (hm : 0 < m) (c0 : w.cell? ⟨b, o + 0, none⟩ = some (.int .u8 f))
  (ht : Calls Tryz.prog 148 #[.int .u8 f, v10] w fun e w' => ∃ v', e = .returned v' ∧ T v' w')
  (hend : ∀ a' v' W, a'.defers = [] → a'.eval (.tmp 6) = v' → a'.eval (.tmp 7) = .int .i64 0 → T v' W → Q .normal a' W) :
  (Code.region 36 ([⟨some 152, .move (.tmp 2), 37, "relay.go:342", #[], none⟩,
 ⟨some 153, .indexAddr 37 (.tmp 152) (.const (.int .i64 0)), 0, "relay.go:342", #[⟨0, .data⟩], none⟩,
 ⟨some 154, .load 5 (.tmp 153), 5, "relay.go:342", #[⟨1, .data⟩], none⟩,
 ⟨some 155, .move (.tmp 10), 24, "relay.go:342", #[], none⟩,
 ⟨some 156, .call { callee := .value (.func 148), args := #[.tmp 154, .tmp 155], argTypes := #[5, 24] }, 37, "relay.go:342", #[⟨2, .data⟩, ⟨3, .data⟩], none⟩,
 ⟨some 6, .assign (.tmp 156), 37, "relay.go:342", #[⟨4, .data⟩, ⟨4, .chain⟩, ⟨0, .phase⟩, ⟨1, .phase⟩, ⟨2, .phase⟩, ⟨3, .phase⟩, ⟨4, .phase⟩], none⟩,
 ⟨some 7, .assign (.const (.int .i64 0)), 32, "relay.go:342", #[⟨5, .chain⟩, ⟨0, .phase⟩, ⟨1, .phase⟩, ⟨2, .phase⟩, ⟨3, .phase⟩, ⟨4, .phase⟩, ⟨5, .phase⟩], none⟩] : List Oper).toArray false).wp Tryz.prog Q a w := by
 refine wp_region_lit ?_
 refine dD rfl rfl ((aC _).trans (congrArg (fun v => Result.ok (Next.value v) w) h.h2)) (fun a1 q1 => ?_)
 have f1 := h.to q1 (by decide) (by decide)
 refine dD rfl rfl (fF _ _ b o m c1 0 (h.at q1 (by decide)) rfl hm) (fun a2 q2 => ?_)
 have f2 := f1.to q2 (by decide) (by decide)
 refine dD rfl rfl (eI _ b (o + 0) f (f1.at q2 (by decide)) c0) (fun a3 q3 => ?_)
 have f3 := f2.to q3 (by decide) (by decide)
 have e3 := f2.at q3 (by decide)
 refine dD rfl rfl ((aC _).trans (congrArg (fun v => Result.ok (Next.value v) w) f3.h10)) (fun a4 q4 => ?_)
 have f4 := f3.to q4 (by decide) (by decide)
 have e4 := f3.far q4 (by decide) 154 (by decide) e3
 have g4 := f3.at q4 (by decide)
 rw [← e4, ← g4] at ht
 refine iP rfl (mB _ _ _ _ (by simp [Act.eval]) yU) _ ht ?_
 rintro e W ⟨v', rfl, hT⟩
 refine ⟨_, rfl, ?_⟩
 obtain ⟨a5, q5⟩ : ∃ a5, a5 = a4.put (some 156) v' := ⟨_, rfl⟩
 refine Eq.mp (congrArg (fun z => wpList _ _ _ _ z W) q5) ?_
 have f5 := f4.to q5 (by decide) (by decide)
 refine dD rfl rfl ((aX _).trans (congrArg (fun v => Result.ok (Next.value v) W) (f4.at q5 (by decide)))) (fun a6 q6 => ?_)
 have f6 := f5.to q6 (by decide) (by decide)
 refine dD rfl rfl (aX _) (fun a7 q7 => wpList_nil ?_)
 have f7 := f6.to q7 (by decide) (by decide)
 exact hend _ v' W f7.df (f6.far q7 (by decide) 6 (by decide) (f5.at q6 (by decide))) (f6.at q7 (by decide)) hT
theorem aGs {w : World} {b o : Nat} {xs : List Int} (hc : ∀ i, i < xs.length → w.cell? ⟨b, o + i, none⟩ = some (.int .u8 (xs.getD i 0))) :
  ∀ j u, (xs.map (Value.int .u8))[j]? = some u → w.cell? ((⟨b, o, none⟩ : Addr).add j) = some u := fun j u hu => by
 have hj : j < xs.length := by
  rcases Nat.lt_or_ge j xs.length with h | h
  ·exact h
  ·rw [List.getElem?_eq_none (by simpa using h)] at hu
   cases hu
 have e1 : (⟨b, o, none⟩ : Addr).add j = ⟨b, o + j, none⟩ := by unfold Addr.add; split <;> simp_all
 rw [e1, hc j hj]
 rw [List.getElem?_map, List.getElem?_eq_getElem hj] at hu
 simpa [List.getD, List.getElem?_eq_getElem hj] using hu
theorem bone (xs : List Int) : ∀ u ∈ xs.map (Value.int .u8), u.oneCell' = true := fun u hu => by
 obtain ⟨x, _, rfl⟩ := List.mem_map.1 hu
 rfl
theorem uP {ev : Operand → Value} {w : World} {dst : Option Tmp} {T : TypeId} {p : String} {af : Array Edge} {g : Option (Nat × Bool)} (x : Operand) (b o n c : Nat) (hx : ev x = .slice (some ⟨b, o, none⟩) n c) (hk : ev (.const (.int .i64 5)) = .int .i64 5) (hc : 5 ≤ c) : (execOp ev { dst := dst, op := .slice 37 x none (some (.const (.int .i64 5))) none, type := T, pos := p, after := af, guard := g }).run Tryz.prog w = .ok (.value (.slice (some ⟨b, o, none⟩) 5 c)) w := by
 have h1 : (5 : Int) ≤ (c : Int) := by omega
 simp [go_sem, hx, hk, h1]
theorem aC9 (a : Act) (Q : Exit → Act → World → Prop) (w : World) (yb ab b o m c1 : Nat) (v10 : Value) (i : Int) (xs : List Int) (h : AF a yb ab (.slice (some ⟨b, o, none⟩) m c1) v10 i) (h16 : a.eval (.tmp 16) = .slice none 0 0) (hm : 0 < m) (hll : xs.length = m) (hm2 : m ≤ 1000) (hcn : ∀ i, i < xs.length → w.cell? ⟨b, o + i, none⟩ = some (.int .u8 (xs.getD i 0)))
  (hend : ∀ a' v' W, a'.defers = [] → a'.eval (.tmp 6) = v' → a'.eval (.tmp 7) = .int .i64 0 → Owns W w.heap.size v' xs → Below w.heap.size w W → Q .normal a' W) :
  (Code.region 35 ([⟨some 149, .move (.tmp 16), 37, "relay.go:340", #[], none⟩,
 ⟨some 150, .move (.tmp 2), 37, "relay.go:340", #[], none⟩,
 ⟨some 151, .call { callee := .builtin .append, args := #[.tmp 149, .tmp 150], argTypes := #[37, 37] }, 37, "relay.go:340", #[⟨0, .data⟩, ⟨1, .data⟩], none⟩,
 ⟨some 6, .assign (.tmp 151), 37, "relay.go:340", #[⟨2, .data⟩, ⟨2, .chain⟩, ⟨0, .phase⟩, ⟨1, .phase⟩, ⟨2, .phase⟩], none⟩,
 ⟨some 7, .assign (.const (.int .i64 0)), 32, "relay.go:340", #[⟨3, .chain⟩, ⟨0, .phase⟩, ⟨1, .phase⟩, ⟨2, .phase⟩, ⟨3, .phase⟩], none⟩] : List Oper).toArray false).wp Tryz.prog Q a w := by
 obtain ⟨i0, hi0_, hz0_, hz1_, hz2_⟩ := info_parts jS
 refine wp_region_lit ?_
 refine dD rfl rfl ((aC _).trans (congrArg (fun v => Result.ok (Next.value v) w) h16)) (fun a1 q1 => ?_)
 have f1 := h.to q1 (by decide) (by decide)
 have e1 := h.at q1 (by decide)
 refine dD rfl rfl ((aC _).trans (congrArg (fun v => Result.ok (Next.value v) w) f1.h2)) (fun a2 q2 => ?_)
 have f2 := f1.to q2 (by decide) (by decide)
 have e2 := f1.far q2 (by decide) 149 (by decide) e1
 refine aT w rfl (.tmp 149) (.tmp 150) 37 rfl w.heap.size 5 i0 (.int .u8 0) 1 1 Tryz.underlying37 hi0_ hz0_ hz1_ hz2_ rfl (by decide) (.slice none 0 0) 0 [] e2 (World.ownsRow_nil _ _ _ _) ⟨b, o, none⟩ m c1 (xs.map (Value.int .u8)) (f1.at q2 (by decide)) (by rw [List.length_map, Nat.mul_one]; exact hll) (aGs hcn) (bone _) hm (by unfold maxLen; omega) (by omega) (Nat.le_refl _) ?_
 intro v' W r k2
 have hb : Below w.heap.size w W := by
  refine bT (Below.refl _ _) ?_ k2
  intro j e
  cases e
 obtain ⟨a5, q5⟩ : ∃ a5, a5 = a2.put (some 151) v' := ⟨_, rfl⟩
 refine Eq.mp (congrArg (fun z => wpList _ _ _ _ z W) q5) ?_
 have f5 := f2.to q5 (by decide) (by decide)
 refine dD rfl rfl ((aX _).trans (congrArg (fun v => Result.ok (Next.value v) W) (f2.at q5 (by decide)))) (fun a6 q6 => ?_)
 have f6 := f5.to q6 (by decide) (by decide)
 refine dD rfl rfl (aX _) (fun a7 q7 => wpList_nil ?_)
 have f7 := f6.to q7 (by decide) (by decide)
 refine hend _ v' W f7.df (f6.far q7 (by decide) 6 (by decide) (f5.at q6 (by decide))) (f6.at q7 (by decide)) ?_ hb
 unfold Owns
 rw [hll]
 rw [Nat.zero_add] at r
 exact r
theorem aDa (a : Act) (Q : Exit → Act → World → Prop) (w : World) (yb ab b o m c1 : Nat) (v10 : Value) (i : Int) (xs : List Int) (h : AF a yb ab (.slice (some ⟨b, o, none⟩) m c1) v10 i) (h15 : a.eval (.tmp 15) = .slice none 0 0) (hc5 : 5 ≤ c1) (hll : xs.length = 5) (hcn : ∀ i, i < xs.length → w.cell? ⟨b, o + i, none⟩ = some (.int .u8 (xs.getD i 0)))
  (hend : ∀ a' v' W, a'.defers = [] → a'.eval (.tmp 6) = v' → a'.eval (.tmp 7) = .int .i64 0 → Owns W w.heap.size v' xs → Below w.heap.size w W → Q .normal a' W) :
  (Code.region 30 ([⟨some 141, .move (.tmp 15), 37, "relay.go:337", #[], none⟩,
 ⟨some 142, .move (.tmp 2), 37, "relay.go:337", #[], none⟩,
 ⟨some 143, .slice 37 (.tmp 142) none (some (.const (.int .i64 5))) none, 37, "relay.go:337", #[⟨1, .data⟩], none⟩,
 ⟨some 144, .call { callee := .builtin .append, args := #[.tmp 141, .tmp 143], argTypes := #[37, 37] }, 37, "relay.go:337", #[⟨0, .data⟩, ⟨2, .data⟩], none⟩,
 ⟨some 6, .assign (.tmp 144), 37, "relay.go:337", #[⟨3, .data⟩, ⟨3, .chain⟩, ⟨0, .phase⟩, ⟨1, .phase⟩, ⟨2, .phase⟩, ⟨3, .phase⟩], none⟩,
 ⟨some 7, .assign (.const (.int .i64 0)), 32, "relay.go:337", #[⟨4, .chain⟩, ⟨0, .phase⟩, ⟨1, .phase⟩, ⟨2, .phase⟩, ⟨3, .phase⟩, ⟨4, .phase⟩], none⟩] : List Oper).toArray false).wp Tryz.prog Q a w := by
 obtain ⟨i0, hi0_, hz0_, hz1_, hz2_⟩ := info_parts jS
 have hm : 0 < 5 := by decide
 refine wp_region_lit ?_
 refine dD rfl rfl ((aC _).trans (congrArg (fun v => Result.ok (Next.value v) w) h15)) (fun a1 q1 => ?_)
 have f1 := h.to q1 (by decide) (by decide)
 have e1 := h.at q1 (by decide)
 refine dD rfl rfl ((aC _).trans (congrArg (fun v => Result.ok (Next.value v) w) f1.h2)) (fun a2 q2 => ?_)
 have f2 := f1.to q2 (by decide) (by decide)
 have e2 := f1.far q2 (by decide) 141 (by decide) e1
 refine dD rfl rfl (uP _ b o m c1 (f1.at q2 (by decide)) rfl hc5) (fun a3 q3 => ?_)
 have f3 := f2.to q3 (by decide) (by decide)
 have e3 := f2.far q3 (by decide) 141 (by decide) e2
 refine aT w rfl (.tmp 141) (.tmp 143) 37 rfl w.heap.size 5 i0 (.int .u8 0) 1 1 Tryz.underlying37 hi0_ hz0_ hz1_ hz2_ rfl (by decide) (.slice none 0 0) 0 [] e3 (World.ownsRow_nil _ _ _ _) ⟨b, o, none⟩ 5 c1 (xs.map (Value.int .u8)) (f2.at q3 (by decide)) (by rw [List.length_map, Nat.mul_one]; exact hll) (aGs hcn) (bone _) hm (by unfold maxLen; omega) (by omega) (Nat.le_refl _) ?_
 intro v' W r k2
 have hb : Below w.heap.size w W := by
  refine bT (Below.refl _ _) ?_ k2
  intro j e
  cases e
 obtain ⟨a5, q5⟩ : ∃ a5, a5 = a3.put (some 144) v' := ⟨_, rfl⟩
 refine Eq.mp (congrArg (fun z => wpList _ _ _ _ z W) q5) ?_
 have f5 := f3.to q5 (by decide) (by decide)
 refine dD rfl rfl ((aX _).trans (congrArg (fun v => Result.ok (Next.value v) W) (f3.at q5 (by decide)))) (fun a6 q6 => ?_)
 have f6 := f5.to q6 (by decide) (by decide)
 refine dD rfl rfl (aX _) (fun a7 q7 => wpList_nil ?_)
 have f7 := f6.to q7 (by decide) (by decide)
 refine hend _ v' W f7.df (f6.far q7 (by decide) 6 (by decide) (f5.at q6 (by decide))) (f6.at q7 (by decide)) ?_ hb
 unfold Owns
 rw [hll]
 rw [Nat.zero_add] at r
 exact r
theorem sw1 (a : Act) (Q : Exit → Act → World → Prop) (w : World) (yb ab : Nat) (qv v10 : Value) (i f : Int) (h : AF a yb ab qv v10 i) (hv : a.eval (.tmp 137) = .int .u8 f)
  (hend : ∀ a', AF a' yb ab qv v10 i → a'.eval (.tmp 137) = .int .u8 f → a'.eval (.tmp 138) = .bool (f == 15 || f == 16) → Q .normal a' w) :
  (Code.seq (Code.region 27 ([⟨some 139, .binOp .eql 5 (.tmp 137) (.const (.int .u8 15)) 5, 4, "relay.go:335", #[], none⟩,
 ⟨some 138, .assign (.tmp 139), 4, "relay.go:335", #[⟨0, .data⟩], none⟩] : List Oper).toArray false) (Code.cond (.tmp 138) Code.skip (Code.region 28 ([⟨some 140, .binOp .eql 5 (.tmp 137) (.const (.int .u8 16)) 5, 4, "relay.go:335", #[], none⟩,
 ⟨some 138, .assign (.tmp 140), 4, "relay.go:335", #[⟨0, .data⟩], none⟩] : List Oper).toArray false))).wp Tryz.prog Q a w := by
 refine wp_seq (jP a _ w 27 139 138 yb ab qv v10 i f 15 _ _ _ _ _ _ h (by decide) (by decide) (by decide) (by decide) (by decide) (by decide) hv (fun a1 f1 e1 g1 => ?_))
 cases hb : (f == 15) with
 | true =>
  rw [hb] at g1
  exact wp_cond_true g1 (wp_skip (hend a1 f1 e1 (by rw [g1, hb]; rfl)))
 | false =>
  rw [hb] at g1
  refine wp_cond_false g1 (jP a1 _ w 28 140 138 yb ab qv v10 i f 16 _ _ _ _ _ _ f1 (by decide) (by decide) (by decide) (by decide) (by decide) (by decide) e1 (fun a2 f2 e2 g2 => hend a2 f2 e2 (by rw [g2, hb]; rfl)))
theorem sw2 (a : Act) (Q : Exit → Act → World → Prop) (w : World) (yb ab : Nat) (qv v10 : Value) (i f : Int) (h : AF a yb ab qv v10 i) (hv : a.eval (.tmp 137) = .int .u8 f)
  (hend : ∀ a', AF a' yb ab qv v10 i → a'.eval (.tmp 145) = .bool (f == 5 || (f == 6 || f == 22)) → Q .normal a' w) :
  (Code.seq (Code.region 31 ([⟨some 146, .binOp .eql 5 (.tmp 137) (.const (.int .u8 5)) 5, 4, "relay.go:338", #[], none⟩,
 ⟨some 145, .assign (.tmp 146), 4, "relay.go:338", #[⟨0, .data⟩], none⟩] : List Oper).toArray false) (Code.cond (.tmp 145) Code.skip (Code.seq (Code.region 32 ([⟨some 147, .binOp .eql 5 (.tmp 137) (.const (.int .u8 6)) 5, 4, "relay.go:338", #[], none⟩,
 ⟨some 145, .assign (.tmp 147), 4, "relay.go:338", #[⟨0, .data⟩], none⟩] : List Oper).toArray false) (Code.cond (.tmp 145) Code.skip (Code.region 33 ([⟨some 148, .binOp .eql 5 (.tmp 137) (.const (.int .u8 22)) 5, 4, "relay.go:338", #[], none⟩,
 ⟨some 145, .assign (.tmp 148), 4, "relay.go:338", #[⟨0, .data⟩], none⟩] : List Oper).toArray false))))).wp Tryz.prog Q a w := by
 refine wp_seq (jP a _ w 31 146 145 yb ab qv v10 i f 5 _ _ _ _ _ _ h (by decide) (by decide) (by decide) (by decide) (by decide) (by decide) hv (fun a1 f1 e1 g1 => ?_))
 cases hb : (f == 5) with
 | true =>
  rw [hb] at g1
  exact wp_cond_true g1 (wp_skip (hend a1 f1 (by rw [g1, hb]; rfl)))
 | false =>
  rw [hb] at g1
  refine wp_cond_false g1 (wp_seq (jP a1 _ w 32 147 145 yb ab qv v10 i f 6 _ _ _ _ _ _ f1 (by decide) (by decide) (by decide) (by decide) (by decide) (by decide) e1 (fun a2 f2 e2 g2 => ?_)))
  cases hb2 : (f == 6) with
  | true =>
   rw [hb2] at g2
   exact wp_cond_true g2 (wp_skip (hend a2 f2 (by rw [g2, hb, hb2]; rfl)))
  | false =>
   rw [hb2] at g2
   refine wp_cond_false g2 (jP a2 _ w 33 148 145 yb ab qv v10 i f 22 _ _ _ _ _ _ f2 (by decide) (by decide) (by decide) (by decide) (by decide) (by decide) e2 (fun a3 f3 e3 g3 => hend a3 f3 (by rw [g3, hb, hb2]; rfl)))
def Done (w : World) (T : Value → World → Prop) (Q : Exit → Act → World → Prop) : Prop := ∀ a' v' W, a'.defers = [] → a'.eval (.tmp 6) = v' → a'.eval (.tmp 7) = .int .i64 0 → T v' W → Below w.heap.size w W → Q .ret a' W
theorem aFc (a : Act) (Q : Exit → Act → World → Prop) (w : World) (yb ab b o m c1 : Nat) (v10 : Value) (i f : Int) (bs : List Int) (out : List Int) (h : AF a yb ab (.slice (some ⟨b, o, none⟩) m c1) v10 i) (hm : m = bs.length + 1) (hm2 : m ≤ 253) (hmc : m ≤ c1)
  (hcn : ∀ i, i < (f :: bs).length → w.cell? ⟨b, o + i, none⟩ = some (.int .u8 ((f :: bs).getD i 0)))
  (hA : (f == 15 || f == 16) = true → 5 ≤ m ∧ out = (f :: bs).take 5) (hB : (f == 15 || f == 16) = false → (f == 5 || (f == 6 || f == 22)) = true → out = f :: bs)
  (hC : (f == 15 || f == 16) = false → (f == 5 || (f == 6 || f == 22)) = false → Calls Tryz.prog 148 #[.int .u8 f, v10] w fun e w' => ∃ v', e = .returned v' ∧ Owns w' w.heap.size v' out ∧ Below w.heap.size w w')
  (hend : Done w (fun v' W => Owns W w.heap.size v' out) Q) : (Code.seq (fstC (sndC (sndC (cJ 6 (cD Tryz.f94))))) (Code.seq (Code.region 36 ([⟨some 152, .move (.tmp 2), 37, "relay.go:342", #[], none⟩,
 ⟨some 153, .indexAddr 37 (.tmp 152) (.const (.int .i64 0)), 0, "relay.go:342", #[⟨0, .data⟩], none⟩,
 ⟨some 154, .load 5 (.tmp 153), 5, "relay.go:342", #[⟨1, .data⟩], none⟩,
 ⟨some 155, .move (.tmp 10), 24, "relay.go:342", #[], none⟩,
 ⟨some 156, .call { callee := .value (.func 148), args := #[.tmp 154, .tmp 155], argTypes := #[5, 24] }, 37, "relay.go:342", #[⟨2, .data⟩, ⟨3, .data⟩], none⟩,
 ⟨some 6, .assign (.tmp 156), 37, "relay.go:342", #[⟨4, .data⟩, ⟨4, .chain⟩, ⟨0, .phase⟩, ⟨1, .phase⟩, ⟨2, .phase⟩, ⟨3, .phase⟩, ⟨4, .phase⟩], none⟩,
 ⟨some 7, .assign (.const (.int .i64 0)), 32, "relay.go:342", #[⟨5, .chain⟩, ⟨0, .phase⟩, ⟨1, .phase⟩, ⟨2, .phase⟩, ⟨3, .phase⟩, ⟨4, .phase⟩, ⟨5, .phase⟩], none⟩] : List Oper).toArray false) Code.ret)).wp Tryz.prog Q a w := by
 have c0 : w.cell? ⟨b, o + 0, none⟩ = some (.int .u8 f) := hcn 0 (by simp)
 refine wp_seq ?_
 rw [aHw]
 refine wp_seq (aDb a _ w yb ab b o m c1 v10 i f h (by omega) c0 (fun a1 f1 e1 => ?_))
 refine wp_block (wp_seq (sw1 a1 _ w yb ab _ v10 i f f1 e1 (fun a2 f2 e2 g2 => ?_)))
 cases hb : (f == 15 || f == 16) with
 | true =>
  rw [hb] at g2
  obtain ⟨h5, ho⟩ := hA hb
  refine wp_cond_true g2 (wp_seq (fQ a2 _ w 29 15 _ _ _ _ (.slice none 0 0) rfl ?_))
  obtain ⟨a3, q3⟩ : ∃ a3, a3 = a2.put (some 15) (.slice none 0 0) := ⟨_, rfl⟩
  rw [← q3]
  refine wp_seq (aDa a3 _ w yb ab b o m c1 v10 i out (f2.to q3 (by decide) (by decide)) (f2.at q3 (by decide)) (by omega) (by rw [ho, List.length_take]; simp; omega) (fun j hj => ?_) (fun a' v' W hd e6 e7 hO hW => wp_ret (hend a' v' W hd e6 e7 hO hW)))
  rw [ho, List.length_take] at hj
  rw [hcn j (by omega), ho]
  simp only [List.getD_eq_getElem?_getD, List.getElem?_take]
  rw [if_pos (by omega)]
 | false =>
  rw [hb] at g2
  refine wp_cond_false g2 (wp_seq (sw2 a2 _ w yb ab _ v10 i f f2 e2 (fun a3 f3 g3 => ?_)))
  cases hb2 : (f == 5 || (f == 6 || f == 22)) with
  | true =>
   rw [hb2] at g3
   have ho := hB hb hb2
   refine wp_cond_true g3 (wp_seq (fQ a3 _ w 34 16 _ _ _ _ (.slice none 0 0) rfl ?_))
   obtain ⟨a4, q4⟩ : ∃ a4, a4 = a3.put (some 16) (.slice none 0 0) := ⟨_, rfl⟩
   rw [← q4]
   refine wp_seq (aC9 a4 _ w yb ab b o m c1 v10 i out (f3.to q4 (by decide) (by decide)) (f3.at q4 (by decide)) (by omega) (by rw [ho, hm]; simp) (by omega) (by rw [ho]; exact hcn) (fun a' v' W hd e6 e7 hO hW => wp_ret (hend a' v' W hd e6 e7 hO hW)))
  | false =>
   rw [hb2] at g3
   refine wp_cond_false g3 (wp_skip ?_)
   show (Code.seq _ _).wp _ _ _ _
   refine wp_seq (aC8 a3 _ w yb ab b o m c1 v10 i f (fun v' W => Owns W w.heap.size v' out ∧ Below w.heap.size w W) f3 (by omega) c0 (hC hb hb2) (fun a' v' W hd e6 e7 hT => wp_ret (hend a' v' W hd e6 e7 hT.1 hT.2)))
end Go.Proofs.YtfekelmldebplaaGreatDoor
namespace Go.Proofs.YtfekelmldebplaaGreatDoor
open Go.RowKit Go.MuLone
theorem aHx : cJ 7 (cD Tryz.f94) = (Code.seq (Code.seq (Code.region 11 ([⟨some 11, .assign (.const (.int .i64 0)), 3, "relay.go:317", #[], none⟩] : List Oper).toArray false) (sndC (fstC (sndC (cJ 6 (cD Tryz.f94)))))) (Code.seq (fstC (sndC (sndC (cJ 6 (cD Tryz.f94))))) (Code.seq (Code.region 36 ([⟨some 152, .move (.tmp 2), 37, "relay.go:342", #[], none⟩,
 ⟨some 153, .indexAddr 37 (.tmp 152) (.const (.int .i64 0)), 0, "relay.go:342", #[⟨0, .data⟩], none⟩,
 ⟨some 154, .load 5 (.tmp 153), 5, "relay.go:342", #[⟨1, .data⟩], none⟩,
 ⟨some 155, .move (.tmp 10), 24, "relay.go:342", #[], none⟩,
 ⟨some 156, .call { callee := .value (.func 148), args := #[.tmp 154, .tmp 155], argTypes := #[5, 24] }, 37, "relay.go:342", #[⟨2, .data⟩, ⟨3, .data⟩], none⟩,
 ⟨some 6, .assign (.tmp 156), 37, "relay.go:342", #[⟨4, .data⟩, ⟨4, .chain⟩, ⟨0, .phase⟩, ⟨1, .phase⟩, ⟨2, .phase⟩, ⟨3, .phase⟩, ⟨4, .phase⟩], none⟩,
 ⟨some 7, .assign (.const (.int .i64 0)), 32, "relay.go:342", #[⟨5, .chain⟩, ⟨0, .phase⟩, ⟨1, .phase⟩, ⟨2, .phase⟩, ⟨3, .phase⟩, ⟨4, .phase⟩, ⟨5, .phase⟩], none⟩] : List Oper).toArray false) Code.ret))) := by kernel_rfl
theorem aBg (yb : Nat) (s0 s1 s2 s3 rv : Value) (y : T4) (LL : List (List Rule)) (cl : Nat) (rs : List Rule) (f : Nat) (bs : List Int) (q : Req) (v : Value) (w : World) (Post : Ending → World → Prop) (h : RefAt w yb s0 s1 s2 s3 rv y LL) (hcl : LL[cl]? = some rs) (h8 : rs.length ≤ 8) (hv : Lies w v ((f : Int) :: bs)) (hf : f < 256) (hbs : Bys bs) (hlen : bs.length ≤ 252) (hj : aO (f : Int) bs = .inr q) (he : excL (y.at q.t).L.length rs q = 0)
  (HT : ∀ (a : Act) (W : World) (ab g b o c1 : Nat) (va : Option Addr) (vn vc : Nat), v = .slice (some ⟨b, o, none⟩) (bs.length + 1) c1 → AF a yb ab (.slice (some ⟨b, o, none⟩) (bs.length + 1) c1) (.slice none 0 0) 0 → Below w.heap.size w W → w.heap.size ≤ ab → W.heap[ab]? = some (.cells #[.slice (some ⟨g, 0, none⟩) (aM q).length (aM q).length, .slice va vn vc, .int .i64 (xQ q), .int .i64 (yQ q)] 252 (0, 0)) → w.heap.size ≤ g → W.heap[g]? = some (.cells ((aM q).flatMap fun x => x.cells.toList).toArray 257 (0, 0)) → aS W w.heap.size (.slice va vn vc) (lC q) →
    (sndC (fstC (sndC (cJ 6 (cD Tryz.f94))))).wp Tryz.prog (Exit.then (Code.wp Tryz.prog (Code.seq (fstC (sndC (sndC (cJ 6 (cD Tryz.f94))))) (Code.seq (Code.region 36 ([⟨some 152, .move (.tmp 2), 37, "relay.go:342", #[], none⟩,
 ⟨some 153, .indexAddr 37 (.tmp 152) (.const (.int .i64 0)), 0, "relay.go:342", #[⟨0, .data⟩], none⟩,
 ⟨some 154, .load 5 (.tmp 153), 5, "relay.go:342", #[⟨1, .data⟩], none⟩,
 ⟨some 155, .move (.tmp 10), 24, "relay.go:342", #[], none⟩,
 ⟨some 156, .call { callee := .value (.func 148), args := #[.tmp 154, .tmp 155], argTypes := #[5, 24] }, 37, "relay.go:342", #[⟨2, .data⟩, ⟨3, .data⟩], none⟩,
 ⟨some 6, .assign (.tmp 156), 37, "relay.go:342", #[⟨4, .data⟩, ⟨4, .chain⟩, ⟨0, .phase⟩, ⟨1, .phase⟩, ⟨2, .phase⟩, ⟨3, .phase⟩, ⟨4, .phase⟩], none⟩,
 ⟨some 7, .assign (.const (.int .i64 0)), 32, "relay.go:342", #[⟨5, .chain⟩, ⟨0, .phase⟩, ⟨1, .phase⟩, ⟨2, .phase⟩, ⟨3, .phase⟩, ⟨4, .phase⟩, ⟨5, .phase⟩], none⟩] : List Oper).toArray false) Code.ret)) (bodyPost Tryz.prog Tryz.f94 Post)) (bodyPost Tryz.prog Tryz.f94 Post)) a W) :
  Calls Tryz.prog 94 #[.pointer (some ⟨yb, 0, none⟩), .int .i64 (cl : Int), v] w Post := by
 obtain ⟨b, o, c1, rfl, hlc, hbl, hcc⟩ := hv.shape (by simp)
 have hx0 := hcc 0 (by simp)
 rw [Nat.add_zero] at hx0
 simp only [List.getD_cons_zero] at hx0
 have hcc' : ∀ i, i < bs.length → w.cell? ⟨b, o + 1 + i, none⟩ = some (.int .u8 (bs.getD i 0)) := fun i hi => by
  have := hcc (i + 1) (by simp; omega)
  rw [List.getD_cons_succ] at this
  rw [← this]
  congr 2
  omega
 have HASK := hide (tX b o c1 f bs w hf hbl hx0 hcc' hbs hlen (by simpa using hlc))
 rw [hj] at HASK
 obtain ⟨ra, rc, e, hl⟩ := h.rules
 have h5 : w.cell? ⟨yb, 5, none⟩ = some rv := by
  rw [cell_of_row _ _ _ _ _ _ h.row]
  rfl
 rw [e] at h5
 obtain ⟨ts, hts⟩ : ∃ ts, ts = aM q := ⟨_, rfl⟩
 have HBAR : Hid (∀ W g, Below w.heap.size w W → W.heap[g]? = some (.cells (ts.flatMap fun x => x.cells.toList).toArray 257 (0, 0)) → Calls Tryz.prog 146 #[.pointer (some ⟨yb, 0, none⟩), .int .i64 (cl : Int), .slice (some ⟨g, 0, none⟩) ts.length ts.length] W fun e w' => e = .returned (.int .i64 (excL (y.at q.t).L.length rs q)) ∧ Below W.heap.size W w') := fun W g hW hg => by
  rw [← zZ y rs _ bs q hj, ← hts]
  exact pO 0 yb g s0 s1 s2 s3 rv y LL cl rs ts W (h.below hW) hcl h8 ⟨g, rfl, Nat.zero_le _, hg⟩ (by rw [hts]; exact nU _ bs q hbs hlen hj) (by rw [hts]; exact jI q)
 have hc : cl < LL.length := (List.getElem?_eq_some_iff.1 hcl).1
 rw [he] at HBAR
 have HL : Hid (((f : Int) :: bs).length = bs.length + 1) := List.length_cons
 have HB := hide hbl
 have HX0 := hide hcc
 have HTS := hide hts
 clear h hl hv hcc hcc' hj hlc hbl hx0 hbs e hts he
 obtain ⟨m, hm⟩ : ∃ m, m = bs.length + 1 := ⟨_, rfl⟩
 rw [aA HL, ← hm]
 rw [← hm] at HASK
 have hm1 : decide ((m : Int) < 1) = false := by simp; omega
 have hm2 : decide ((253 : Int) < (m : Int)) = false := by simp; omega
 have hm0 : 0 < m := by omega
 have HM := hide hm
 clear hm HL hlen
 have hc1 : decide ((cl : Int) < 0) = false := by simp
 have hc2 : decide ((LL.length : Int) ≤ (cl : Int)) = false := by simp; omega
 go_enter Tryz.func94, Tryz.ntmps94
 go_wp2_with fail
 refine (aA HASK).mono ?_
 rintro e W ⟨ta, tn, tc, va, vn, vc, rfl, ⟨g, hge, hgb, hgr⟩, hvs, hW⟩
 rw [← aA HTS] at hge hgr
 cases hge
 have HGR := hide hgr
 have HVS := hide hvs
 have HGB := hide hgb
 have HW := hide hW
 clear hgr hvs hW hgb
 obtain ⟨qx, hqx⟩ : ∃ z, z = xQ q := ⟨_, rfl⟩
 obtain ⟨qy, hqy⟩ : ∃ z, z = yQ q := ⟨_, rfl⟩
 rw [← hqx, ← hqy]
 have HQX := hide hqx
 have HQY := hide hqy
 clear hqx hqy
 go_upto_region 6 with (refine wpList_store_row rfl 252 _ _ rfl W.heap.size #[.slice (some ⟨g, 0, none⟩) ts.length ts.length, .slice va vn vc, .int .i64 qx, .int .i64 qy] rfl rfl 252 _ (heap_alloc_new W _) gW rfl (by simp [Value.oneCell']) ?_)
 have HAL := hide (pQ w W (aA HW) #[.slice none 0 0, .slice none 0 0, .int .i64 0, .int .i64 0] #[.slice (some ⟨g, 0, none⟩) ts.length ts.length, .slice va vn vc, .int .i64 qx, .int .i64 qy] 252)
 generalize (W.alloc (.cells #[.slice none 0 0, .slice none 0 0, .int .i64 0, .int .i64 0] 252)).setRow W.heap.size #[.slice (some ⟨g, 0, none⟩) ts.length ts.length, .slice va vn vc, .int .i64 qx, .int .i64 qy] = W2 at HAL ⊢
 have hr0 := cell_of_row _ _ 0 _ _ _ (aA HAL).2.1
 simp at hr0
 have HBB := hide (aA HBAR W2 g (aA HAL).1 (((aA HAL).2.2.block g (Array.getElem?_eq_some_iff.1 (aA HGR)).1).trans (aA HGR)))
 go_wp2_with fail
 refine (aA HBB).mono ?_
 rintro e W3 ⟨rfl, hW3⟩
 go_upto_region 10 with fail
 rename_i K hK
 refine fQ _ _ W3 10 10 _ _ _ _ (.slice none 0 0) rfl (hK _ _ ?_)
 change (cJ 7 (cD Tryz.f94)).wp _ _ _ _
 rw [aHx]
 refine wp_seq (wp_seq (fQ _ _ W3 11 11 _ _ _ _ (.int .i64 0) rfl ?_))
 rw [← aA HM, ← aA HTS, ← aA HQX, ← aA HQY] at HT
 have hB3 := aD (aA HAL).1 hW3
 have hz2 := (aA HAL).2.2.size
 have hgl := (Array.getElem?_eq_some_iff.1 (aA HGR)).1
 have hgr2 := ((aA HAL).2.2.block g hgl).trans (aA HGR)
 refine HT _ W3 W.heap.size g b o c1 va vn vc (by rw [aA HM]; rfl) ⟨by simp [Act.put], rfl, rfl, rfl, rfl, rfl, rfl⟩ hB3 (aA HW).size ((hW3.block _ (Array.getElem?_eq_some_iff.1 (aA HAL).2.1).1).trans (aA HAL).2.1) (aA HGB) ((hW3.block g (Array.getElem?_eq_some_iff.1 hgr2).1).trans hgr2) ?_
 exact aJ (aA HVS) fun k _ h2 _ => ((hW3.block k (by omega)).trans ((aA HAL).2.2.block k h2))
end Go.Proofs.YtfekelmldebplaaGreatDoor
namespace Go.Proofs.YtfekelmldebplaaGreatDoor
open Go.RowKit
theorem Owns.shapeI {w : World} {base : Nat} {v : Value} {xs : List Int} (h : aS w base v xs) (hn : xs ≠ []) : ∃ g cap, v = .slice (some ⟨g, 0, none⟩) xs.length cap ∧ base ≤ g ∧ g < w.heap.size := by
 rcases h.2 with ⟨rfl, h0⟩ | ⟨g, cap, cur, rfl, hg, hh, _⟩
 ·exact absurd (List.length_eq_zero_iff.1 h0) hn
 ·exact ⟨g, cap, rfl, hg, (Array.getElem?_eq_some_iff.1 hh).1⟩
def pS (w : World) (yb : Nat) (s0 s1 s2 s3 rv : Value) (y : T4) (LL : List (List Rule)) (i : Nat) (L out : List Int) (e : Ending) (w' : World) : Prop :=
 ∃ a n c, e = .returned (.tuple #[.slice a n c, .int .i64 0]) ∧ Owns w' w.heap.size (.slice a n c) out ∧ RefAt w' yb s0 s1 s2 s3 rv (y.put i L) LL ∧ Chg w w' (fun k => k = (y.at i).g)
theorem aDh (w W W2 : World) (a : Act) (yb : Nat) (s0 s1 s2 s3 rv : Value) (y : T4) (LL : List (List Rule)) (i ab b o c1 : Nat) (ii f : Int) (bs L R out : List Int) (h : RefAt w yb s0 s1 s2 s3 rv y LL) (hi : i < 4) (hW : Below w.heap.size w W)
  (hI : LI W w.heap.size yb ab (y.at i).g (.slice (some ⟨b, o, none⟩) (bs.length + 1) c1) ii L R a W2) (hL : L.length = (y.at i).L.length) (hlen : bs.length ≤ 252) (hc1 : bs.length + 1 ≤ c1)
  (hb : b < w.heap.size) (nb : b ≠ (y.at i).g) (hcn : ∀ i, i < (f :: bs).length → w.cell? ⟨b, o + i, none⟩ = some (.int .u8 ((f :: bs).getD i 0)))
  (hA : (f == 15 || f == 16) = true → 5 ≤ bs.length + 1 ∧ out = (f :: bs).take 5) (hB : (f == 15 || f == 16) = false → (f == 5 || (f == 6 || f == 22)) = true → out = f :: bs)
  (hC : (f == 15 || f == 16) = false → (f == 5 || (f == 6 || f == 22)) = false → 1 ≤ R.length ∧ ((f ≤ 2 ∧ R.length ≤ 2000 ∧ (∀ x ∈ R, x = 0 ∨ x = 1) ∧ out = f :: ((iD R).length : Int) :: iD R) ∨ (2 < f ∧ R.length ≤ 127 ∧ (∀ x ∈ R, 0 ≤ x ∧ x ≤ 65535) ∧ out = f :: ((dH R).length : Int) :: dH R))) :
  (Code.seq (fstC (sndC (sndC (cJ 6 (cD Tryz.f94))))) (Code.seq (Code.region 36 ([⟨some 152, .move (.tmp 2), 37, "relay.go:342", #[], none⟩,
 ⟨some 153, .indexAddr 37 (.tmp 152) (.const (.int .i64 0)), 0, "relay.go:342", #[⟨0, .data⟩], none⟩,
 ⟨some 154, .load 5 (.tmp 153), 5, "relay.go:342", #[⟨1, .data⟩], none⟩,
 ⟨some 155, .move (.tmp 10), 24, "relay.go:342", #[], none⟩,
 ⟨some 156, .call { callee := .value (.func 148), args := #[.tmp 154, .tmp 155], argTypes := #[5, 24] }, 37, "relay.go:342", #[⟨2, .data⟩, ⟨3, .data⟩], none⟩,
 ⟨some 6, .assign (.tmp 156), 37, "relay.go:342", #[⟨4, .data⟩, ⟨4, .chain⟩, ⟨0, .phase⟩, ⟨1, .phase⟩, ⟨2, .phase⟩, ⟨3, .phase⟩, ⟨4, .phase⟩], none⟩,
 ⟨some 7, .assign (.const (.int .i64 0)), 32, "relay.go:342", #[⟨5, .chain⟩, ⟨0, .phase⟩, ⟨1, .phase⟩, ⟨2, .phase⟩, ⟨3, .phase⟩, ⟨4, .phase⟩, ⟨5, .phase⟩], none⟩] : List Oper).toArray false) Code.ret)).wp Tryz.prog (bodyPost Tryz.prog Tryz.f94 (pS w yb s0 s1 s2 s3 rv y LL i L out)) a W2 := by
 obtain ⟨v10, fA, hc, hr, ho⟩ := hI
 have hz := hW.size
 have hz2 := hc.size
 have hcn2 : ∀ i, i < (f :: bs).length → W2.cell? ⟨b, o + i, none⟩ = some (.int .u8 ((f :: bs).getD i 0)) := fun j hj =>
  ((World.cell?_of_block (hc.block b (by omega) nb)).trans (hW.cell (by exact hb))).trans (hcn j hj)
 refine aFc a _ W2 yb ab b o (bs.length + 1) c1 v10 ii f bs out fA rfl (by omega) hc1 hcn2 hA hB (fun e1 e2 => ?_) ?_
 ·obtain ⟨h1, hh⟩ := hC e1 e2
  obtain ⟨g, cap, rfl, hg, hgl⟩ := Owns.shapeI ho (by intro e; rw [e] at h1; simp at h1)
  rcases hh with ⟨q1, q2, q3, q4⟩ | ⟨q1, q2, q3, q4⟩
  ·have ht := aAl f g 0 cap R W2 q1 hgl (fun i hi => by rw [Nat.zero_add]; exact aS.cells ho i hi) q3 h1 q2
   rw [aAn R q3] at ht
   have e : (iD R).length = (R.length + 7) / 8 := by unfold iD; exact eZ _ _ _
   rw [q4, e]
   exact ht
  ·rw [q4]
   exact wS f g 0 cap R W2 q1 hgl (fun i hi => by rw [Nat.zero_add]; exact aS.cells ho i hi) q3 h1 q2
 ·intro a' v' W3 hd e6 e7 hO hW3
  obtain ⟨va, vn, vc, rfl⟩ := aP hO
  refine bodyPost_ret (results_tmp2 Tryz.results94 _ _ _) hd ?_
  refine ⟨va, vn, vc, congrArg Ending.returned (congrArg Value.tuple ?_), fH hO (by omega), (((h.below hW).put i hi hc hr hL).below hW3), chg_below ((Chg.of_below hW (fun k => k = (y.at i).g)).trans hc (fun _ e _ => e)) hW3⟩
  exact (congrArg (fun x => #[x, _]) e6).trans (congrArg (fun x => #[Value.slice va vn vc, x]) e7)
theorem kU (f : Int) (bs : List Int) (q : Req) (e : aO f bs = .inr q) :
  ((f = 15 ∨ f = 16) ∧ 4 ≤ bs.length ∧ q.echo = bs.take 4) ∨ ((f = 5 ∨ f = 6 ∨ f = 22) ∧ bs ≠ [] ∧ q.echo = bs) ∨ (((1 ≤ f ∧ f ≤ 4) ∨ f = 23) ∧ q.echo = [] ∧ 1 ≤ q.rc ∧ ((f ≤ 2 ∧ q.t ≤ 1 ∧ q.rc ≤ 2000) ∨ (2 < f ∧ ¬ q.t ≤ 1 ∧ q.rc ≤ 125))) := by
 have hR : ∀ t m, ((f ≤ 2 ∧ t ≤ 1 ∧ m ≤ 2000) ∨ (2 < f ∧ ¬ t ≤ 1 ∧ m ≤ 125)) → 1 ≤ f → f ≤ 4 → aW f bs t m = .inr q → (((1 ≤ f ∧ f ≤ 4) ∨ f = 23) ∧ q.echo = [] ∧ 1 ≤ q.rc ∧ ((f ≤ 2 ∧ q.t ≤ 1 ∧ q.rc ≤ 2000) ∨ (2 < f ∧ ¬ q.t ≤ 1 ∧ q.rc ≤ 125))) := fun t m ht h1 h2 h => by
  unfold aW at h
  split at h
  ·rename_i hc
   have hc2 := hc.2
   simp only [bS, Bool.and_eq_true, decide_eq_true_eq] at hc2
   cases h
   refine ⟨Or.inl ⟨h1, h2⟩, rfl, hc2.1, ?_⟩
   rcases ht with ⟨a, b, c⟩ | ⟨a, b, c⟩
   ·exact Or.inl ⟨a, b, by show wAt bs 1 ≤ 2000; omega⟩
   ·exact Or.inr ⟨a, b, by show wAt bs 1 ≤ 125; omega⟩
  ·cases h
 unfold aO at e
 split at e
 ·exact Or.inr (Or.inr (hR _ _ (Or.inl ⟨by omega, by omega, by omega⟩) (by omega) (by omega) e))
 split at e
 ·exact Or.inr (Or.inr (hR _ _ (Or.inl ⟨by omega, by omega, by omega⟩) (by omega) (by omega) e))
 split at e
 ·exact Or.inr (Or.inr (hR _ _ (Or.inr ⟨by omega, by omega, by omega⟩) (by omega) (by omega) e))
 split at e
 ·exact Or.inr (Or.inr (hR _ _ (Or.inr ⟨by omega, by omega, by omega⟩) (by omega) (by omega) e))
 have hne : ∀ n, 0 < n → bs.length = n → bs ≠ [] := fun n hn hl h => by
  rw [h] at hl
  simp at hl
  omega
 split at e
 ·unfold dK at e
  split at e
  ·rename_i hf hc
   cases e
   exact Or.inr (Or.inl ⟨Or.inl hf, hne 4 (by decide) hc.1, rfl⟩)
  ·cases e
 split at e
 ·unfold eD at e
  split at e
  ·rename_i hf hc
   cases e
   exact Or.inr (Or.inl ⟨Or.inr (Or.inl hf), hne 4 (by decide) hc, rfl⟩)
  ·cases e
 split at e
 ·unfold eQ at e
  split at e
  ·rename_i hf hc
   cases e
   exact Or.inl ⟨Or.inl hf, hc.1, rfl⟩
  ·cases e
 split at e
 ·unfold eP at e
  split at e
  ·rename_i hf hc
   cases e
   exact Or.inl ⟨Or.inr hf, hc.1, rfl⟩
  ·cases e
 split at e
 ·unfold dE at e
  split at e
  ·rename_i hf hc
   cases e
   exact Or.inr (Or.inl ⟨Or.inr (Or.inr hf), hne 6 (by decide) hc, rfl⟩)
  ·cases e
 split at e
 ·unfold cM at e
  split at e
  ·rename_i hf hc
   have hc2 := hc.2.1
   simp only [bS, Bool.and_eq_true, decide_eq_true_eq] at hc2
   cases e
   exact Or.inr (Or.inr ⟨Or.inr hf, rfl, hc2.1, Or.inr ⟨by omega, by show ¬ (3 : Nat) ≤ 1; omega, hc2.2⟩⟩)
  ·cases e
 ·cases e
theorem aBk (f : Int) (bs : List Int) (q : Req) (R : List Int) (e : aO f bs = .inr q) (hR : R.length = q.rc) (hx : ∀ x ∈ R, 0 ≤ x ∧ x ≤ cT q.t) :
  ((f == 15 || f == 16) = true → 5 ≤ bs.length + 1 ∧ dS q (cV q.t R) = (f :: bs).take 5) ∧ ((f == 15 || f == 16) = false → (f == 5 || (f == 6 || f == 22)) = true → dS q (cV q.t R) = f :: bs) ∧
  ((f == 15 || f == 16) = false → (f == 5 || (f == 6 || f == 22)) = false → 1 ≤ R.length ∧ ((f ≤ 2 ∧ R.length ≤ 2000 ∧ (∀ x ∈ R, x = 0 ∨ x = 1) ∧ dS q (cV q.t R) = f :: ((iD R).length : Int) :: iD R) ∨ (2 < f ∧ R.length ≤ 127 ∧ (∀ x ∈ R, 0 ≤ x ∧ x ≤ 65535) ∧ dS q (cV q.t R) = f :: ((dH R).length : Int) :: dH R))) := by
 have hf := gU f bs q e
 simp only [Bool.or_eq_true, Bool.or_eq_false_iff, beq_iff_eq, beq_eq_false_iff_ne]
 rcases kU f bs q e with ⟨h1, h2, h3⟩ | ⟨h1, h2, h3⟩ | ⟨h1, h2, h3, h4⟩
 ·refine ⟨fun _ => ⟨by omega, ?_⟩, fun hh => by omega, fun hh => by omega⟩
  have hne : q.echo ≠ [] := by
   rw [h3]
   intro h
   have := congrArg List.length h
   rw [List.length_take, List.length_nil] at this
   omega
  unfold dS
  rw [if_neg hne, h3, hf]
  rfl
 ·refine ⟨fun hh => by omega, fun _ _ => ?_, fun _ hh => by omega⟩
  unfold dS
  rw [if_neg (by rw [h3]; exact h2), h3, hf]
 ·refine ⟨fun hh => by omega, fun _ hh => by omega, fun _ _ => ⟨by omega, ?_⟩⟩
  unfold dS cV
  rw [if_pos h2, hf]
  rcases h4 with ⟨a, b, c⟩ | ⟨a, b, c⟩
  ·refine Or.inl ⟨a, by omega, fun x hx2 => ?_, by rw [if_pos b]⟩
   have := hx x hx2
   unfold cT at this
   rw [if_pos b] at this
   omega
  ·refine Or.inr ⟨a, by omega, fun x hx2 => ?_, by rw [if_neg b]⟩
   have := hx x hx2
   unfold cT at this
   rw [if_neg b] at this
   exact this
theorem kD {w : World} {b g o : Nat} {f : Int} {L : List Int} (hc : w.cell? ⟨b, o, none⟩ = some (.int .u8 f)) (hr : w.heap[g]? = some (.cells (L.map (Value.int .i64)).toArray 3 (0, 0))) : b ≠ g := by
 intro e
 subst e
 by_cases h : o < L.length
 ·rw [dP hr o h] at hc
  cases hc
 ·rw [cell_of_row _ _ _ _ _ _ hr] at hc
  simp [Nat.le_of_not_lt h] at hc
structure RMid (w W : World) (yb ab g b o c1 : Nat) (va : Option Addr) (vn vc : Nat) (f : Int) (bs : List Int) (q : Req) : Prop where
 below : Below w.heap.size w W
 hab : w.heap.size ≤ ab
 rowA : W.heap[ab]? = some (.cells #[.slice (some ⟨g, 0, none⟩) (aM q).length (aM q).length, .slice va vn vc, .int .i64 (xQ q), .int .i64 (yQ q)] 252 (0, 0))
 hg : w.heap.size ≤ g
 rowT : W.heap[g]? = some (.cells ((aM q).flatMap fun x => x.cells.toList).toArray 257 (0, 0))
 vals : aS W w.heap.size (.slice va vn vc) (lC q)
 hb : b < w.heap.size
 bytes : ∀ i, i < (f :: bs).length → w.cell? ⟨b, o + i, none⟩ = some (.int .u8 ((f :: bs).getD i 0))
theorem jB (yb : Nat) (s0 s1 s2 s3 rv : Value) (y : T4) (LL : List (List Rule)) (cl : Nat) (rs : List Rule) (f : Nat) (bs : List Int) (q : Req) (v : Value) (w : World) (h : RefAt w yb s0 s1 s2 s3 rv y LL) (hcl : LL[cl]? = some rs) (h8 : rs.length ≤ 8) (hv : Lies w v ((f : Int) :: bs)) (hf : f < 256) (hbs : Bys bs) (hlen : bs.length ≤ 252) (hj : aO (f : Int) bs = .inr q) (he : excL (y.at q.t).L.length rs q = 0)
  (Lk Rk : Nat → List Int) (hL0 : Lk 0 = (y.at q.t).L) (hR0 : Rk 0 = []) (hLn : (Lk (aM q).length).length = (y.at q.t).L.length) (hRn : (Rk (aM q).length).length = q.rc) (hRx : ∀ x ∈ Rk (aM q).length, 0 ≤ x ∧ x ≤ cT q.t)
  (hstep : ∀ W ab g b o c1 va vn vc, RMid w W yb ab g b o c1 va vn vc (f : Int) bs q → ∀ k a W', k < (aM q).length → LI W w.heap.size yb ab (y.at q.t).g (.slice (some ⟨b, o, none⟩) (bs.length + 1) c1) (k : Int) (Lk k) (Rk k) a W' → ∀ Z : Exit → Act → World → Prop, (∀ a' W2, LI W w.heap.size yb ab (y.at q.t).g (.slice (some ⟨b, o, none⟩) (bs.length + 1) c1) (k : Int) (Lk (k + 1)) (Rk (k + 1)) a' W2 → Z .normal a' W2) → (Code.block 1 (inC (fstC (sndC (lpC (inC (sndC (fstC (sndC (cJ 6 (cD Tryz.f94))))))))))).wp Tryz.prog Z a W') :
  Calls Tryz.prog 94 #[.pointer (some ⟨yb, 0, none⟩), .int .i64 (cl : Int), v] w (pS w yb s0 s1 s2 s3 rv y LL q.t (Lk (aM q).length) (dS q (cV q.t (Rk (aM q).length)))) := by
 have ok := cZ (f : Int) bs hbs hlen q hj
 refine aBg yb s0 s1 s2 s3 rv y LL cl rs f bs q v w _ h hcl h8 hv hf hbs hlen hj he (fun a W ab g b o c1 va vn vc hve fA hW hab hrA hg hgr hvs => ?_)
 obtain ⟨b', o', c', hv2, hlc, hbl, hcc⟩ := hv.shape (by simp)
 rw [hve] at hv2
 have e1 : b = b' ∧ o = o' ∧ c1 = c' := by
  simp only [Value.slice.injEq, Option.some.injEq, Addr.mk.injEq] at hv2
  exact ⟨hv2.1.1, hv2.1.2.1, hv2.2.2⟩
 obtain ⟨rfl, rfl, rfl⟩ := e1
 have hrow := h.ent q.t ok.t
 have hgl := (Array.getElem?_eq_some_iff.1 hrow).1
 have hM : RMid w W yb ab g b o c1 va vn vc (f : Int) bs q := ⟨hW, hab, hrA, hg, hgr, hvs, hbl, hcc⟩
 have nb : b ≠ (y.at q.t).g := kD (hcc 0 (by simp)) hrow
 have a0 : W.cell? ⟨ab, 0, none⟩ = some (.slice (some ⟨g, 0, none⟩) (aM q).length (aM q).length) := (cell_of_row _ _ 0 _ _ _ hrA).trans rfl
 obtain ⟨o1, o2, o3⟩ := aBk (f : Int) bs q (Rk (aM q).length) hj hRn hRx
 refine aBf a _ W w.heap.size yb ab g (y.at q.t).g (aM q).length (aM q).length _ Lk Rk (jI q) (Array.getElem?_eq_some_iff.1 hrA).1 (by omega) a0 ⟨.slice none 0 0, fA, Chg.refl _ _, ?_, ?_⟩ (hstep W ab g b o c1 va vn vc hM) (fun a' W2 hI => ?_)
 ·rw [hL0]
  exact (hW.block _ hgl).trans hrow
 ·rw [hR0]
  exact World.ownsRow_nil _ _ _ _
 ·exact aDh w W W2 a' yb s0 s1 s2 s3 rv y LL q.t ab b o c1 _ (f : Int) bs _ _ _ h ok.t hW hI hLn hlen (by simpa using hlc) hbl nb hcc o1 o2 o3
theorem RMid.tch {w W : World} {yb ab g b o c1 : Nat} {va : Option Addr} {vn vc : Nat} {f : Int} {bs : List Int} {q : Req} (h : RMid w W yb ab g b o c1 va vn vc f bs q) (gb k : Nat) (x : Tch) (hx : (aM q)[k]? = some x) (hgb : gb < w.heap.size) (W' : World) (hc : Chg W W' (fun k => k = gb)) : ∀ j u, x.cells[j]? = some u → W'.cell? ⟨g, k * 4 + j, none⟩ = some u := fun j u hu => by
 have hg := h.hg
 refine (World.cell?_of_block (hc.block g (Array.getElem?_eq_some_iff.1 h.rowT).1 (fun e => by have e' : g = gb := e; omega))).trans ?_
 exact aU.cell (B := w.heap.size) (n := (aM q).length) (c := (aM q).length) ⟨g, rfl, hg, h.rowT⟩ k x hx j u hu
theorem RMid.a0 {w W : World} {yb ab g b o c1 : Nat} {va : Option Addr} {vn vc : Nat} {f : Int} {bs : List Int} {q : Req} (h : RMid w W yb ab g b o c1 va vn vc f bs q) (gb : Nat) (hgb : gb < w.heap.size) (W' : World) (hc : Chg W W' (fun k => k = gb)) : W'.cell? ⟨ab, 0, none⟩ = some (.slice (some ⟨g, 0, none⟩) (aM q).length (aM q).length) ∧ W'.cell? ⟨ab, 1, none⟩ = some (.slice va vn vc) ∧ W'.cell? ⟨ab, 2, none⟩ = some (.int .i64 (xQ q)) ∧ W'.cell? ⟨ab, 3, none⟩ = some (.int .i64 (yQ q)) ∧ ab < W'.heap.size ∧ ab ≠ gb := by
 have hab := h.hab
 have hl := (Array.getElem?_eq_some_iff.1 h.rowA).1
 have hr := (hc.block ab hl (fun e => by have e' : ab = gb := e; omega)).trans h.rowA
 have c := fun j => cell_of_row _ ab j _ _ _ hr
 exact ⟨(c 0).trans rfl, (c 1).trans rfl, (c 2).trans rfl, (c 3).trans rfl, (Array.getElem?_eq_some_iff.1 hr).1, by omega⟩
theorem kQ {w W : World} {yb ab g b o c1 : Nat} {va : Option Addr} {vn vc : Nat} {f : Int} {bs : List Int} {q : Req} (hM : RMid w W yb ab g b o c1 va vn vc f bs q) {s0 s1 s2 s3 rv : Value} {y : T4} {LL : List (List Rule)} (h : RefAt w yb s0 s1 s2 s3 rv y LL) (i A m k : Nat) (hi : i < 4) (hk : k < (aM q).length) (hx : (aM q)[k]? = some ⟨(i : Int), (A : Int), (m : Int), false⟩) (L R : List Int) (hL : L.length = (y.at i).L.length) (hAN : A + m ≤ L.length) (hm1 : 0 < m) (a : Act) (W' : World)
  (hI : LI W w.heap.size yb ab (y.at i).g (.slice (some ⟨b, o, none⟩) (bs.length + 1) c1) (k : Int) L R a W') (Z : Exit → Act → World → Prop)
  (hZ : ∀ a' W2, LI W w.heap.size yb ab (y.at i).g (.slice (some ⟨b, o, none⟩) (bs.length + 1) c1) (k : Int) L (bM L A m) a' W2 → Z .normal a' W2) : (Code.block 1 (inC (fstC (sndC (lpC (inC (sndC (fstC (sndC (cJ 6 (cD Tryz.f94))))))))))).wp Tryz.prog Z a W' := by
 obtain ⟨v10, fA, hc, hr, ho⟩ := hI
 have hgl := (Array.getElem?_eq_some_iff.1 (h.ent i hi)).1
 have hyl := (Array.getElem?_eq_some_iff.1 h.row).1
 have hz := hM.below.size
 have hz2 := hc.size
 have ny : yb ≠ (y.at i).g := bG h.row (h.ent i hi) (by decide)
 obtain ⟨a0, -⟩ := hM.a0 (y.at i).g hgl W' hc
 have c1_ : W'.cell? ⟨yb, 6 + i, none⟩ = some (.slice (some ⟨(y.at i).g, 0, none⟩) L.length L.length) := by
  rw [World.cell?_of_block (hc.block yb (by omega) ny), hM.below.cell (by exact hyl), h.tab i hi, dV, hL]
 refine aBe a Z W' yb ab g _ _ k (y.at i).g L.length A m i _ v10 (bM L A m) fA a0 hk (hM.tch (y.at i).g k _ hx hgl W' hc) (by omega) (by omega) hi (by rw [hL]; exact h.len i hi) c1_ hAN hm1 (by unfold bM; simp; omega) (fun j hj => ?_) (fun a' v W2 f' hb' ho' => hZ a' W2 ⟨v, f', chg_below hc hb', (hb'.block _ (Array.getElem?_eq_some_iff.1 hr).1).trans hr, aS.weakB ho' (by omega)⟩)
 rw [dP hr (A + j) (by omega)]
 unfold bM
 simp only [List.getD_eq_getElem?_getD, List.getElem?_take, List.getElem?_drop]
 rw [if_pos hj]
end Go.Proofs.YtfekelmldebplaaGreatDoor
