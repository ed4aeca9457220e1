import Derived.Test.YtfekelmldebplaaGreatDoorSr
namespace Go.Proofs.YtfekelmldebplaaGreatDoor
open Go.RowKit

theorem info27s : (Tryz.prog.info? 114).map (fun i => (i.zero, i.size, i.bytes)) = some (some (.pointer none), 1, 8) := by kernel_rfl
theorem info77s : (Tryz.prog.info? 116).map (fun i => (i.zero, i.size, i.bytes)) = some (some (.pointer none), 1, 8) := by kernel_rfl

/-- A step of a script, as a value. -/
structure OpV where
  A : Int
  B : Int
  C : Int
  D : Int
  s : ByteArray
  l : Value
  n0 : Value
  n1 : Value
  n2 : Value
  n3 : Value
  n4 : Value
  ru : Value
  li : Value
def OpV.cells (o : OpV) (kd : Int) : Array Value := #[.int .i64 kd, .int .i64 o.A, .int .i64 o.B, .int .i64 o.C, .int .i64 o.D, .string o.s, o.l, o.n0, o.n1, o.n2, o.n3, o.n4, o.ru, o.li]

theorem Kept.blk {w w' : World} {B n m : Nat} {v v' : Value} (h : Kept w w' B v v' n m) : v'.ownBlock = v.ownBlock ∨ ∃ i, w.heap.size ≤ i ∧ v'.ownBlock = some i := by
  rcases h with ⟨g, cap, rfl, rfl, _⟩ | ⟨h, _⟩
  · exact .inl rfl
  · exact .inr h
theorem fresh_end {w W1 W2 W4 : World} {B bw : Nat} {xs : List SP} {vs vt vb vf vs' vt' : Value} {rb rf : List Rec} {o : Obj} (h : Inv w B bw xs vs vt vb vf rb rf) (hb1 : Below w.heap.size w W1) (p1 : W1.heap[w.heap.size + 1]? = some (.cells (spl [] false) 181 (0, 0)))
    (g2 : W1.grownBy W2 vs.ownBlock) (r2 : W2.ownsRow B 114 1 vs' (xs.length + 1) (xs.map SP.pv ++ [.pointer (some ⟨w.heap.size + 1, 0, none⟩)])) (b2 : vs'.ownBlock = vs.ownBlock ∨ ∃ i, w.heap.size ≤ i ∧ vs'.ownBlock = some i)
    (g4 : (((W2.setCell ⟨bw, 0, none⟩ vs').alloc (.cells #[.slice none 0 0, .int .i64 0, .bool false] 118)).alloc o).grownBy W4 vt.ownBlock) (r4 : W4.ownsRow B 116 1 vt' (xs.length + 1) (xs.map SP.tv ++ [.pointer (some ⟨W2.heap.size, 0, none⟩)])) (b4 : vt'.ownBlock = vt.ownBlock ∨ ∃ i, w.heap.size ≤ i ∧ vt'.ownBlock = some i) :
    W4.heap[bw]? = some (.cells (wrow vs' vt (.slice none 0 0) vb vf) 91 (0, 0)) ∧ Inv (W4.setCell ⟨bw, 1, none⟩ vt') B bw (xs ++ [⟨w.heap.size + 1, W2.heap.size, .slice none 0 0, []⟩]) vs' vt' vb vf rb rf ∧ Chg w (W4.setCell ⟨bw, 1, none⟩ vt') (fun i => i = bw ∨ vs.ownBlock = some i ∨ vt.ownBlock = some i) := by
  have hbw : bw < w.heap.size := (Array.getElem?_eq_some_iff.1 h.book.row).1
  have z1 := hb1.size
  have z2 := g2.size
  have z3 : (W2.setCell ⟨bw, 0, none⟩ vs').heap.size = W2.heap.size := by simp [World.setCell]
  have z4 := g4.size
  simp [z3] at z4
  have ls : ∀ k, vs.ownBlock = some k → k < w.heap.size := fun k e => (World.ownsRow.lt h.rowS k e).2
  have lt : ∀ k, vt.ownBlock = some k → k < w.heap.size := fun k e => (World.ownsRow.lt h.rowT k e).2
  have nsw : vs.ownBlock ≠ some bw := fun e => absurd (own_elem h.rowS h.book.row e) (by decide)
  have ntw : vt.ownBlock ≠ some bw := fun e => absurd (own_elem h.rowT h.book.row e) (by decide)
  have nst : ∀ k, vs.ownBlock = some k → vt.ownBlock ≠ some k := fun k e e' => by
    obtain ⟨cs, fr, hh⟩ := own_cells h.rowS e
    exact absurd (own_elem h.rowT hh e') (by decide)
  have row2 : W2.heap[bw]? = some (.cells (wrow vs vt (.slice none 0 0) vb vf) 91 (0, 0)) := by
    rw [g2.block bw (by omega) (fun e => nsw e.symm), hb1.block bw hbw]
    exact h.book.row
  have row3 : (W2.setCell ⟨bw, 0, none⟩ vs').heap[bw]? = some (.cells (wrow vs' vt (.slice none 0 0) vb vf) 91 (0, 0)) := by
    have := heap_setCell_same W2 bw 0 _ 91 vs' row2
    simpa [wrow] using this
  -- what lies below W2's end, behind the second append
  have at4 : ∀ k, k < W2.heap.size → vt.ownBlock ≠ some k → W4.heap[k]? = (W2.setCell ⟨bw, 0, none⟩ vs').heap[k]? := fun k p n => by
    rw [g4.block k (by simp [z3]; omega) (fun e => n e.symm), Below.heap_alloc _ _ _ (by simp [z3]; omega), Below.heap_alloc _ _ _ (by omega)]
  have row4 : W4.heap[bw]? = some (.cells (wrow vs' vt (.slice none 0 0) vb vf) 91 (0, 0)) := (at4 bw (by omega) ntw).trans row3
  have ns'w : vs'.ownBlock ≠ some bw := fun e => absurd (own_elem r2 row2 e) (by decide)
  have nt'w : vt'.ownBlock ≠ some bw := fun e => absurd (own_elem r4 row4 e) (by decide)
  have ns't : ∀ k, vs'.ownBlock = some k → vt.ownBlock ≠ some k := fun k e e' => by
    rcases b2 with b | ⟨i, hi, b⟩
    · exact nst k (b.symm.trans e) e'
    · have e4 : i = k := by have := b.symm.trans e; simpa using this
      have := lt k e'
      omega
  have C : Chg w (W4.setCell ⟨bw, 1, none⟩ vt') (fun i => i = bw ∨ vs.ownBlock = some i ∨ vt.ownBlock = some i) := by
    have c1 : Chg w W1 (fun i => i = bw ∨ vs.ownBlock = some i ∨ vt.ownBlock = some i) := Chg.of_below hb1 _
    have c2 := c1.trans (Chg.of_grown g2) (fun _ e _ => .inr (.inl e))
    have c3 := c2.trans (Chg.set W2 bw 0 vs') (fun _ e _ => .inl e)
    have c4 := c3.trans (Chg.of_below (((Below.refl _ _).alloc (Nat.le_refl _) (.cells #[.slice none 0 0, .int .i64 0, .bool false] 118)).alloc (by simp) o) (fun _ => False)) (fun _ e _ => e.elim)
    have c5 := c4.trans (Chg.of_grown g4) (fun _ e _ => .inr (.inr e))
    exact c5.trans (Chg.set W4 bw 1 vt') (fun _ e _ => .inl e)
  refine ⟨row4, h.fresh C ?_ ?_ ?_ ?_ ?_ (by omega) (by omega) b2 b4, C⟩
  · have := heap_setCell_same W4 bw 1 _ 91 vt' row4
    simpa [wrow] using this
  · exact ownsRow_keep r2 fun k _ p q => by
      have nk : k ≠ bw := fun e => ns'w (by rw [q, e])
      rw [heap_setCell_other _ _ _ _ nk, at4 k p (ns't k q), heap_setCell_other _ _ _ _ nk]
  · exact ownsRow_keep r4 fun k _ p q => heap_setCell_other _ _ _ _ (fun e => nt'w (by rw [q, e]))
  · have l1 := (Array.getElem?_eq_some_iff.1 p1).1
    have nk : w.heap.size + 1 ≠ bw := by omega
    rw [heap_setCell_other _ _ _ _ nk, at4 _ (by omega) (fun e => by have := lt _ e; omega), heap_setCell_other _ _ _ _ nk, g2.block _ l1 (fun e => by have := ls _ e.symm; omega)]
    exact p1
  · have nk : W2.heap.size ≠ bw := by omega
    rw [heap_setCell_other _ _ _ _ nk, g4.block _ (by simp [z3]; omega) (fun e => by have := lt _ e.symm; omega), Below.heap_alloc _ _ _ (by simp [z3])]
    have := heap_alloc_new (W2.setCell ⟨bw, 0, none⟩ vs') (.cells #[.slice none 0 0, .int .i64 0, .bool false] 118)
    rwa [z3] at this
theorem new_at (w : World) (o : Obj) (n : Nat) (h : w.heap.size = n) : (w.alloc o).heap[n]? = some o := by
  subst h
  exact heap_alloc_new w o
theorem mid_rowT {w W1 W2 : World} {B bw : Nat} {xs : List SP} {vs vt vb vf v' : Value} {rb rf : List Rec} (h : Inv w B bw xs vs vt vb vf rb rf) (hb1 : Below w.heap.size w W1) (g2 : W1.grownBy W2 vs.ownBlock) : (W2.setCell ⟨bw, 0, none⟩ v').ownsRow B 116 1 vt xs.length (xs.map SP.tv) := by
  refine ownsRow_keep h.rowT fun k _ p q => ?_
  have z := hb1.size
  obtain ⟨cs, fr, hh⟩ := own_cells h.rowT q
  rw [heap_setCell_other _ _ _ _ (fun e => row_ne hh h.book.row (by decide) e), g2.block k (by omega) (fun e => absurd (own_elem h.rowS hh e.symm) (by decide)), hb1.block k p]
theorem fresh1 (w : World) (o : Obj) : Below w.heap.size w ((w.alloc o).alloc (.cells (spl [] false) 181)) ∧ ((w.alloc o).alloc (.cells (spl [] false) 181)).heap[w.heap.size + 1]? = some (.cells (spl [] false) 181 (0, 0)) ∧ ((w.alloc o).alloc (.cells (spl [] false) 181)).heap.size = w.heap.size + 2 := by
  refine ⟨((Below.refl _ _).alloc (Nat.le_refl _) _).alloc (by simp) _, heap_new_of' rfl, by simp⟩
set_option maxRecDepth 100000 in
set_option maxHeartbeats 4000000 in
theorem step_fresh (o : OpV) (B bw : Nat) (xs : List SP) (vs vt vb vf : Value) (rb rf : List Rec) (w : World) (h : Inv w B bw xs vs vt vb vf rb rf) (hn : xs.length ≤ 1000000000) (hB : B ≤ w.heap.size) :
    Calls Tryz.prog 39 #[.pointer (some ⟨bw, 0, none⟩), .agg (o.cells 2)] w fun e w' => e = .returned (.bool true) ∧ ∃ xs' vs' vt', Inv w' B bw xs' vs' vt' vb vf rb rf ∧ xs'.length = xs.length + 1 ∧ (∀ y ∈ xs', y ∈ xs ∨ (w.heap.size ≤ y.pb ∧ w.heap.size ≤ y.tb ∧ y.all = [])) ∧ Chg w w' (fun i => i = bw ∨ vs.ownBlock = some i ∨ vt.ownBlock = some i) := by
  obtain ⟨i0, hi, hz0, hz1, hz2⟩ := info_parts info27s
  obtain ⟨j0, hj, hy0, hy1, hy2⟩ := info_parts info77s
  obtain ⟨os, cs, rfl, hos1, hos2⟩ := ownsRow_opt h.rowS
  obtain ⟨ot, ct, rfl, hot1, hot2⟩ := ownsRow_opt h.rowT
  obtain ⟨A, Bq, C, D, s, l, n0, n1, n2, n3, n4, ru, li⟩ := o
  unfold OpV.cells
  have H := hide h
  have hbw : bw < w.heap.size := (Array.getElem?_eq_some_iff.1 h.book.row).1
  have q0 := cell_of_row _ _ 0 _ _ _ h.book.row
  have q1 := cell_of_row _ _ 1 _ _ _ h.book.row
  simp [wrow] at q0 q1
  clear h hos1 hos2 hot1 hot2
  go_enter Tryz.func39, Tryz.ntmps39
  go_wp2_with fail
  refine (newSplitter_any _).mono ?_
  rintro e w1 ⟨rfl, rfl⟩
  have HF := hide (fresh1 w (.cells #[.int .i64 2, .int .i64 A, .int .i64 Bq, .int .i64 C, .int .i64 D, .string s, l, n0, n1, n2, n3, n4, ru, li] 95))
  have e1 : (w.alloc (.cells #[.int .i64 2, .int .i64 A, .int .i64 Bq, .int .i64 C, .int .i64 D, .string s, l, n0, n1, n2, n3, n4, ru, li] 95)).heap.size = w.heap.size + 1 := by simp
  rw [e1]
  generalize (w.alloc (.cells #[.int .i64 2, .int .i64 A, .int .i64 Bq, .int .i64 C, .int .i64 D, .string s, l, n0, n1, n2, n3, n4, ru, li] 95)).alloc (.cells (spl [] false) 181) = W1 at HF ⊢
  clear e1
  have hb1 := (unhide HF).1
  have z1 := (unhide HF).2.2
  have r1 := (hb1.block bw hbw).trans (unhide H).book.row
  have q0 := cell_of_row _ _ 0 _ _ _ r1
  have f0 := frozen_of_row _ _ 0 _ _ r1
  simp [wrow] at q0
  have RS : Hid (W1.ownsRow B 114 1 (.slice os xs.length cs) xs.length (xs.map SP.pv)) := ownsRow_keep (unhide H).rowS fun k _ p _ => hb1.block k p
  have hB1 : B ≤ W1.heap.size := by omega
  have R1 := hide r1
  have hbw1 : bw < W1.heap.size := by omega
  have Z1 := hide z1
  clear q1 hb1 r1 z1
  go_wp2_with (at_builtin; go_loud (refine append_keep _ rfl (.tmp 84) (.tmp 86) 81 rfl B 114 i0 (.pointer none) 1 8 Tryz.underlying81 hi hz0 hz1 hz2 rfl (by decide) _ xs.length (xs.map SP.pv) rfl (World.ownsRow.alloc (unhide RS) _) ⟨W1.heap.size, 0, none⟩ 1 1 [.pointer (some ⟨w.heap.size + 1, 0, none⟩)] rfl rfl (cellsL _ #[.pointer (some ⟨w.heap.size + 1, 0, none⟩)] 114) (by simp [Value.oneCell']) (by decide) (by unfold maxLen; omega) (by omega) (by simp; omega) ?_))
  intro v2 W2 r2 k2
  obtain ⟨a2, n2', c2, rfl⟩ := own_shape r2
  have hne : (Value.slice os xs.length cs).ownBlock ≠ some bw := fun e => absurd (own_elem (unhide H).rowS (unhide H).book.row e) (by decide)
  have g2 := (World.grownBy_alloc W1 (.cells #[.pointer (some ⟨w.heap.size + 1, 0, none⟩)] 114) (Value.slice os xs.length cs).ownBlock).trans k2.grown
  have r2b := (g2.block bw hbw1 (fun e => hne e.symm)).trans (unhide R1)
  have q0 := cell_of_row _ _ 0 _ _ _ r2b
  have f0 := frozen_of_row _ _ 0 _ _ r2b
  have q1 := cell_of_row _ _ 1 _ _ _ r2b
  have f1 := frozen_of_row _ _ 1 _ _ r2b
  simp [wrow] at q0 q1
  have R2 := hide r2b
  have G2 := hide g2
  have RS2 := hide r2
  have K2 := hide k2
  clear r2b g2 r2 k2 hne
  have hz2 : B ≤ W2.heap.size := Nat.le_trans hB1 (unhide G2).size
  have RT : Hid ((W2.setCell ⟨bw, 0, none⟩ (.slice a2 n2' c2)).ownsRow B 116 1 (.slice ot xs.length ct) xs.length (xs.map SP.tv)) := mid_rowT (unhide H) (unhide HF).1 (unhide G2)
  go_wp2_with (at_builtin; go_loud (refine append_keep _ rfl (.tmp 94) (.tmp 97) 82 rfl B 116 j0 (.pointer none) 1 8 Tryz.underlying82 hj hy0 hy1 hy2 rfl (by decide) _ xs.length (xs.map SP.tv) rfl (World.ownsRow.alloc (World.ownsRow.alloc (unhide RT) _) _) ⟨W2.heap.size + 1, 0, none⟩ 1 1 [.pointer (some ⟨W2.heap.size, 0, none⟩)] rfl rfl (news_heap (cs := #[.pointer (some ⟨W2.heap.size, 0, none⟩)]) (t := 116) (new_at _ _ _ (by simp [World.setCell]))) (by simp [Value.oneCell']) (by decide) (by unfold maxLen; omega) (by omega) (by simp [World.setCell]; omega) ?_))
  intro v4 W4 r4 k4
  obtain ⟨a4, n4', c4, rfl⟩ := own_shape r4
  have q := fresh_end (unhide H) (unhide HF).1 (unhide HF).2.1 (unhide G2) (unhide RS2) ((unhide K2).blk.imp id (fun ⟨i, hi, e⟩ => ⟨i, by have := unhide Z1; simp at hi; omega, e⟩)) k4.grown r4 (k4.blk.imp id (fun ⟨i, hi, e⟩ => ⟨i, by have := unhide Z1; have := (unhide G2).size; simp [World.setCell] at hi; omega, e⟩))
  have q7 := cell_of_row _ _ 1 _ _ _ q.1
  have f7 := frozen_of_row _ _ 1 _ _ q.1
  simp [wrow] at q7
  have Q := hide q.2
  clear q k4 r4
  go_wp2
  go_ret
  refine ⟨rfl, _, _, _, (unhide Q).1, by simp, fun y m => ?_, (unhide Q).2⟩
  rcases List.mem_append.1 m with m | m
  · exact .inl m
  · rw [List.mem_singleton.1 m]
    have := unhide Z1
    have := (unhide G2).size
    exact .inr ⟨by show w.heap.size ≤ w.heap.size + 1; omega, by show w.heap.size ≤ W2.heap.size; omega, rfl⟩
end Go.Proofs.YtfekelmldebplaaGreatDoor
