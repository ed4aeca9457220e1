import Derived.Test.YtfekelmldebplaaGreatDoorGl
import Derived.Deep.DeepCutAuto
import Derived.Deep.QuietTactic
import Derived.BigQuiet
namespace Go.Proofs.YtfekelmldebplaaGreatDoor
open Go.RowKit Go.MuLone

/-- A pick, as a number. -/
theorem pick_nat (x n : Int) (h0 : 0 < n) (hn : n ≤ 65536) (hx : -9223372036854775808 ≤ x ∧ x ≤ 9223372036854775807) : ∃ k : Nat, (k : Int) < n ∧ ∀ W, Calls Tryz.prog 15 #[.int .i64 x, .int .i64 n] W fun r w' => r = .returned (.int .i64 (k : Int)) ∧ w' = W := by
  have hb := pickI_bd x n h0
  refine ⟨(pickI x n).toNat, by omega, fun W => (pick_any x n W h0 hn hx.1 hx.2).mono ?_⟩
  rintro r w' ⟨rfl, rfl⟩
  exact ⟨by rw [Int.toNat_of_nonneg hb.1], rfl⟩
theorem list_of_row {w : World} {b : Nat} {T : TypeId} {fr : Nat × Nat} (rs : List Rule) (n c : Nat) (hn : n = rs.length) (h : w.heap[b]? = some (.cells (rs.flatMap fun x => x.cells.toList).toArray T fr)) : ListAt w (.slice (some ⟨b, 0, none⟩) n c) rs := by
  subst hn
  refine ⟨_, _, rfl, .inr ⟨b, 0, rfl, (Array.getElem?_eq_some_iff.1 h).1, fun i x hx j u hu => ?_⟩⟩
  have hj : j < 5 := by
    have := (Array.getElem?_eq_some_iff.1 hu).1
    simpa [Rule.cells] using this
  have e := rules_get rs i j x hx hj
  rw [hu] at e
  rw [cell_of_row _ _ _ _ _ _ h, Nat.zero_add]
  simpa using e
theorem ruled_lists (V : World) (lo hi wl wh : Nat) : ListsAt (((V.alloc (.cells #[.int .i64 2, .int .i64 0, .int .i64 65535, .bool true, .bool true] 52)).alloc (.cells #[.int .i64 2, .int .i64 0, .int .i64 65535, .bool true, .bool true, .int .i64 3, .int .i64 (lo : Int), .int .i64 (hi : Int), .bool true, .bool false, .int .i64 3, .int .i64 (wl : Int), .int .i64 (wh : Int), .bool false, .bool true] 52)).alloc
    (.cells #[.slice (some ⟨V.heap.size, 0, none⟩) 1 1, .slice (some ⟨V.heap.size + 1, 0, none⟩) 3 3] 55)) (.slice (some ⟨V.heap.size + 1 + 1, 0, none⟩) 2 2) (ruledLL lo hi wl wh) := by
  obtain ⟨V1, hV1⟩ : ∃ V1, V.alloc (.cells #[.int .i64 2, .int .i64 0, .int .i64 65535, .bool true, .bool true] 52) = V1 := ⟨_, rfl⟩
  have r1 : V1.heap[V.heap.size]? = some (.cells ([otherR].flatMap fun x => x.cells.toList).toArray 52 (0, 0)) := by
    rw [← hV1]; exact heap_alloc_new V _
  have z1 : V1.heap.size = V.heap.size + 1 := by rw [← hV1]; simp
  rw [hV1]
  obtain ⟨V2, hV2⟩ : ∃ V2, V1.alloc (.cells #[.int .i64 2, .int .i64 0, .int .i64 65535, .bool true, .bool true, .int .i64 3, .int .i64 (lo : Int), .int .i64 (hi : Int), .bool true, .bool false, .int .i64 3, .int .i64 (wl : Int), .int .i64 (wh : Int), .bool false, .bool true] 52) = V2 := ⟨_, rfl⟩
  have b2 : Below V1.heap.size V1 V2 := by rw [← hV2]; exact rule_new _ _
  have r2 : V2.heap[V1.heap.size]? = some (.cells ((threeR lo hi wl wh).flatMap fun x => x.cells.toList).toArray 52 (0, 0)) := by
    rw [← hV2]; exact heap_alloc_new V1 _
  have z2 : V2.heap.size = V1.heap.size + 1 := by rw [← hV2]; simp
  have r12 := (b2.block _ (Array.getElem?_eq_some_iff.1 r1).1).trans r1
  rw [hV2]
  have b3 := rule_new V2 (.cells #[.slice (some ⟨V.heap.size, 0, none⟩) 1 1, .slice (some ⟨V.heap.size + 1, 0, none⟩) 3 3] 55)
  have r3 := heap_alloc_new V2 (.cells #[.slice (some ⟨V.heap.size, 0, none⟩) 1 1, .slice (some ⟨V.heap.size + 1, 0, none⟩) 3 3] 55)
  have r13 := (b3.block _ (Array.getElem?_eq_some_iff.1 r12).1).trans r12
  have r23 := (b3.block _ (Array.getElem?_eq_some_iff.1 r2).1).trans r2
  rw [z1] at r23
  rw [show V.heap.size + 1 + 1 = V2.heap.size by omega]
  refine ⟨_, _, rfl, .inr ⟨V2.heap.size, 0, rfl, by simp, fun i rs hx => ?_⟩⟩
  match i, hx with
  | 0, hx =>
    cases hx
    exact ⟨_, cell_of_row _ _ 0 _ _ _ r3, list_of_row _ _ _ rfl r13⟩
  | 1, hx =>
    cases hx
    exact ⟨_, cell_of_row _ _ 1 _ _ _ r3, list_of_row _ _ _ rfl r23⟩
theorem ruled_new (w W4 : World) (lo hi wl wh b17 b18 : Nat) (h1 : lo ≤ hi) (h2 : hi ≤ 65535) (h3 : wl ≤ wh) (h4 : wh ≤ 65535) (hgl : 0 < w.heap.size) (hB : Below w.heap.size w W4) (hG : ErrVar W4) (hr17 : W4.heap[b17]? = some (.cells #[.int .i64 3, .int .i64 (lo : Int), .int .i64 (hi : Int), .bool true, .bool false] 52 (0, 0))) (hr18 : W4.heap[b18]? = some (.cells #[.int .i64 3, .int .i64 (wl : Int), .int .i64 (wh : Int), .bool false, .bool true] 52 (0, 0))) :
    Calls Tryz.prog 29 #[.agg #[.int .i64 0, .int .i64 0, .int .i64 50, .int .i64 50, .int .i64 1, .slice (some ⟨W4.heap.size + 1 + 1 + 1, 0, none⟩) 2 2]] ((((W4.alloc (.cells #[.int .i64 2, .int .i64 0, .int .i64 65535, .bool true, .bool true] 52)).alloc (.cells #[.int .i64 2, .int .i64 0, .int .i64 65535, .bool true, .bool true] 52)).alloc (.cells #[.int .i64 2, .int .i64 0, .int .i64 65535, .bool true, .bool true, .int .i64 3, .int .i64 (lo : Int), .int .i64 (hi : Int), .bool true, .bool false, .int .i64 3, .int .i64 (wl : Int), .int .i64 (wh : Int), .bool false, .bool true] 52)).alloc
      (.cells #[.slice (some ⟨W4.heap.size + 1, 0, none⟩) 1 1, .slice (some ⟨W4.heap.size + 1 + 1, 0, none⟩) 3 3] 55))
      fun e w' => ∃ x : RI, e = .returned (.tuple #[.pointer (some ⟨x.rb, 0, none⟩), .int .i64 0]) ∧ LS w w' x (List.replicate 50 0) ∧ x.lo = lo ∧ x.hi = hi ∧ x.wlo = wl ∧ x.whi = wh ∧ x.b17 = b17 ∧ x.b18 = b18 := by
  have hL := ruled_lists (W4.alloc (.cells #[.int .i64 2, .int .i64 0, .int .i64 65535, .bool true, .bool true] 52)) lo hi wl wh
  rw [World.size_alloc] at hL
  obtain ⟨V, hV⟩ : ∃ V, ((((W4.alloc (.cells #[.int .i64 2, .int .i64 0, .int .i64 65535, .bool true, .bool true] 52)).alloc (.cells #[.int .i64 2, .int .i64 0, .int .i64 65535, .bool true, .bool true] 52)).alloc (.cells #[.int .i64 2, .int .i64 0, .int .i64 65535, .bool true, .bool true, .int .i64 3, .int .i64 (lo : Int), .int .i64 (hi : Int), .bool true, .bool false, .int .i64 3, .int .i64 (wl : Int), .int .i64 (wh : Int), .bool false, .bool true] 52)).alloc
      (.cells #[.slice (some ⟨W4.heap.size + 1, 0, none⟩) 1 1, .slice (some ⟨W4.heap.size + 1 + 1, 0, none⟩) 3 3] 55)) = V := ⟨_, rfl⟩
  have hb : Below W4.heap.size W4 V := by
    rw [← hV]
    exact bl_trans (bl_trans (bl_trans (rule_new _ _) (rule_new _ _)) (rule_new _ _)) (rule_new _ _)
  rw [hV] at hL ⊢
  have := relayNew_ok 0 0 50 50 1 _ (ruledLL lo hi wl wh) V (by omega) (by omega) (by omega) (by omega) (by omega) (by omega) hL (by simp [ruledLL]) (ruled_ok lo hi wl wh h1 h2 h3 h4)
  refine this.mono ?_
  rintro e w' ⟨rb, sb, tb, kb, e0, g0, e1, g1, e2, g2, e3, g3, us, rfl, hBk, hb'⟩
  have hb2 := bl_trans hb hb'
  have q17 := hb.block _ (Array.getElem?_eq_some_iff.1 hr17).1
  have q18 := hb.block _ (Array.getElem?_eq_some_iff.1 hr18).1
  have l17 := (Array.getElem?_eq_some_iff.1 hr17).1
  have l18 := (Array.getElem?_eq_some_iff.1 hr18).1
  have zz := hb.size
  have z0 := hB.size
  refine ⟨⟨V.heap.size, rb, sb, tb, kb, lo, hi, wl, wh, b17, b18, us⟩, rfl, ⟨bl_trans hB hb2, hG.below hb2, by show w.heap.size ≤ V.heap.size; omega, by show 0 < V.heap.size; omega, (hb2.block _ l17).trans hr17, (hb2.block _ l18).trans hr18, by show b17 < V.heap.size; omega, by show b18 < V.heap.size; omega, by simp, zeros_bd, _, hBk, rfl, fun i hi y hy => ?_⟩, rfl, rfl, rfl, rfl, rfl, rfl⟩
  have hk : i = 0 ∨ i = 1 ∨ i = 2 := by omega
  rcases hk with rfl | rfl | rfl
  · exact absurd hy (by simp [T4.at])
  · exact absurd hy (by simp [T4.at])
  · have : y = 0 := List.eq_of_mem_replicate (n := 50) hy
    subst this
    exact ⟨by omega, by decide⟩
theorem ErrVar.drew {w : World} (h : ErrVar w) : ErrVar w.drew := h

theorem ruled_ret (w : World) (a : Act) (W : World) (h1 : a.eval (.tmp 16) = .bool true) (h2 : a.defers = []) (h3 : Below w.heap.size w W) : bodyPost Tryz.prog Tryz.f12 (fun e w' => e = .returned (.bool true) ∧ Below w.heap.size w w') .ret a W := by
  refine bodyPost_ret (results_tmp rfl _ _ _) h2 ⟨?_, h3⟩
  rw [← h1]
  rfl
set_option maxRecDepth 10000 in
set_option maxHeartbeats 2000000 in
theorem ruled_any (xlo xhi xwl xwh xat xco xfr xma : Int) (w : World) (b1 : -9223372036854775808 ≤ xlo ∧ xlo ≤ 9223372036854775807) (b2 : -9223372036854775808 ≤ xhi ∧ xhi ≤ 9223372036854775807) (b3 : -9223372036854775808 ≤ xwl ∧ xwl ≤ 9223372036854775807) (b4 : -9223372036854775808 ≤ xwh ∧ xwh ≤ 9223372036854775807) (b5 : -9223372036854775808 ≤ xat ∧ xat ≤ 9223372036854775807) (b6 : -9223372036854775808 ≤ xco ∧ xco ≤ 9223372036854775807) (b7 : -9223372036854775808 ≤ xfr ∧ xfr ≤ 9223372036854775807) (b8 : -9223372036854775808 ≤ xma ∧ xma ≤ 9223372036854775807) (hg : ErrVar w) :
    Calls Tryz.prog 12 #[.int .i64 xlo, .int .i64 xhi, .int .i64 xwl, .int .i64 xwh, .int .i64 xat, .int .i64 xco, .int .i64 xfr, .int .i64 xma] w fun e w' => e = .returned (.bool true) ∧ Below w.heap.size w w' := by
  obtain ⟨lo, hlo, hP1⟩ := pick_nat xlo 30 (by omega) (by omega) b1
  obtain ⟨dh, hdh, hP2⟩ := pick_nat xhi 12 (by omega) (by omega) b2
  obtain ⟨wl, hwl, hP3⟩ := pick_nat xwl 30 (by omega) (by omega) b3
  obtain ⟨dw, hdw, hP4⟩ := pick_nat xwh 12 (by omega) (by omega) b4
  obtain ⟨p, hp, hP5⟩ := pick_nat xat 40 (by omega) (by omega) b5
  obtain ⟨n0, hn0, hP6⟩ := pick_nat xco 8 (by omega) (by omega) b6
  obtain ⟨c, hc, hP7⟩ := pick_nat xfr 40 (by omega) (by omega) b7
  obtain ⟨m0, hm0, hP8⟩ := pick_nat xma 8 (by omega) (by omega) b8
  have HP1 := hide hP1
  have HP2 := hide hP2
  have HP3 := hide hP3
  have HP4 := hide hP4
  have HP5 := hide hP5
  have HP6 := hide hP6
  have HP7 := hide hP7
  have HP8 := hide hP8
  have HG := hide hg
  have hgl : 0 < w.heap.size := World.block_lt_of_cell? w _ hg
  clear hP1 hP2 hP3 hP4 hP5 hP6 hP7 hP8 hg b1 b2 b3 b4 b5 b6 b7 b8
  go_enter Tryz.func12, Tryz.ntmps12
  go_wp2_with fail
  refine (unhide HP1 w).mono ?_
  rintro e w ⟨rfl, rfl⟩
  clear HP1
  go_upto_region 2 with fail
  have hbn := rule_new w (.cells #[.int .i64 3, .int .i64 (lo : Int), .int .i64 0, .bool true, .bool false] 52)
  refine ruled_r2 _ _ _ 2 (fun W => Below w.heap.size w W ∧ ErrVar W) w.heap.size lo dh xhi (by simp) (by omega) (by omega) (unhide HP2) rfl rfl ⟨⟨hbn.os, hbn.tape, hbn.output, hbn.size, hbn.block⟩, ((unhide HG).below hbn).drew⟩ (heap_alloc_new w _) (fun W v h => ?_) ?_
  · have hch := Chg.set W w.heap.size 2 v
    exact ⟨below_chg h.1 hch (fun k e => by have e2 : k = w.heap.size := e; omega), (World.cell?_of_block (hch.block 0 (World.block_lt_of_cell? W _ h.2) (fun e => by have e2 : 0 = w.heap.size := e; omega))).trans h.2⟩
  rintro u2 W2 ⟨hB2, hG2⟩ hr17
  have HB2 := hide hB2
  have HG2 := hide hG2
  have HR17 := hide hr17
  have hz2 := hB2.size
  clear hB2 hG2 hr17 hbn HP2 HG
  simp only [over, dsR2]
  go_wp2_with fail
  refine (unhide HP3 W2).mono ?_
  rintro e W2 ⟨rfl, rfl⟩
  clear HP3
  go_upto_region 4 with fail
  have hbn := rule_new W2 (.cells #[.int .i64 3, .int .i64 (wl : Int), .int .i64 0, .bool false, .bool true] 52)
  have hb0 := bl_trans (unhide HB2) hbn
  have hl17 : w.heap.size < W2.heap.size := (Array.getElem?_eq_some_iff.1 (unhide HR17)).1
  refine ruled_r4 _ _ _ 4 (fun W => Below w.heap.size w W ∧ ErrVar W ∧ W.heap[w.heap.size]? = some (.cells #[.int .i64 3, .int .i64 (lo : Int), .int .i64 ((lo : Int) + (dh : Int)), .bool true, .bool false] 52 (0, 0))) W2.heap.size wl dw xwh (by simp) (by omega) (by omega) (unhide HP4) rfl rfl ⟨⟨hb0.os, hb0.tape, hb0.output, hb0.size, hb0.block⟩, ((unhide HG2).below hbn).drew, (hbn.block _ hl17).trans (unhide HR17)⟩ (heap_alloc_new W2 _) (fun W v h => ?_) ?_
  · have hch := Chg.set W W2.heap.size 2 v
    exact ⟨below_chg h.1 hch (fun k e => by have e2 : k = W2.heap.size := e; omega), (World.cell?_of_block (hch.block 0 (World.block_lt_of_cell? W _ h.2.1) (fun e => by have e2 : 0 = W2.heap.size := e; omega))).trans h.2.1, (hch.block _ (Array.getElem?_eq_some_iff.1 h.2.2).1 (fun e => by have e2 : w.heap.size = W2.heap.size := e; omega)).trans h.2.2⟩
  rintro u4 W4 ⟨hB4, hG4, hr17⟩ hr18
  obtain ⟨hi, hhi⟩ : ∃ hi : Nat, (lo : Int) + (dh : Int) = (hi : Int) := ⟨lo + dh, by omega⟩
  obtain ⟨wh, hwh⟩ : ∃ wh : Nat, (wl : Int) + (dw : Int) = (wh : Int) := ⟨wl + dw, by omega⟩
  rw [hhi] at hr17
  rw [hwh] at hr18
  have HB4 := hide hB4
  have HG4 := hide hG4
  have HR17 := hide hr17
  have HR18 := hide hr18
  have hl18 : W2.heap.size < W4.heap.size := (Array.getElem?_eq_some_iff.1 hr18).1
  have HN := hide (ruled_new w W4 lo hi wl wh w.heap.size W2.heap.size (by omega) (by omega) (by omega) (by omega) hgl hB4 hG4 hr17 hr18)
  have hbA := bl_trans (rule_new W4 (.cells #[.int .i64 2, .int .i64 0, .int .i64 65535, .bool true, .bool true] 52)) (rule_new (W4.alloc (.cells #[.int .i64 2, .int .i64 0, .int .i64 65535, .bool true, .bool true] 52)) (.cells #[.int .i64 2, .int .i64 0, .int .i64 65535, .bool true, .bool true] 52))
  have hr17 := (hbA.block _ (Array.getElem?_eq_some_iff.1 hr17).1).trans hr17
  have hr18 := (hbA.block _ (Array.getElem?_eq_some_iff.1 hr18).1).trans hr18
  have c0 := cell_of_row _ _ 0 _ _ _ hr17
  have c1 := cell_of_row _ _ 1 _ _ _ hr17
  have c2 := cell_of_row _ _ 2 _ _ _ hr17
  have c3 := cell_of_row _ _ 3 _ _ _ hr17
  have c4 := cell_of_row _ _ 4 _ _ _ hr17
  have d0 := cell_of_row _ _ 0 _ _ _ hr18
  have d1 := cell_of_row _ _ 1 _ _ _ hr18
  have d2 := cell_of_row _ _ 2 _ _ _ hr18
  have d3 := cell_of_row _ _ 3 _ _ _ hr18
  have d4 := cell_of_row _ _ 4 _ _ _ hr18
  simp at c0 c1 c2 c3 c4 d0 d1 d2 d3 d4
  clear hB4 hG4 hr17 hr18 hbn hb0 hbA HP4 HG2 HB2
  simp only [over, dsR4]
  go_wp2_with fail
  refine (unhide HN).mono ?_
  rintro e W5 ⟨x, rfl, hS5, e1, e2, e3, e4, e5, e6⟩
  have HS5 := hide hS5
  have hr17 := hS5.r17
  have hr18 := hS5.r18
  rw [e1, e2, e5] at hr17
  rw [e3, e4, e6] at hr18
  have c1 := cell_of_row _ _ 1 _ _ _ hr17
  have c2 := cell_of_row _ _ 2 _ _ _ hr17
  have d1 := cell_of_row _ _ 1 _ _ _ hr18
  have d2 := cell_of_row _ _ 2 _ _ _ hr18
  simp [rdR, wrR, Rule.cells] at c1 c2 d1 d2
  obtain ⟨n, hn⟩ : ∃ n : Nat, 1 + (n0 : Int) = (n : Int) := ⟨1 + n0, by omega⟩
  obtain ⟨m, hm⟩ : ∃ m : Nat, 1 + (m0 : Int) = (m : Int) := ⟨1 + m0, by omega⟩
  clear hS5 hr17 hr18 HN c0 c3 c4 d0 d3 d4 HB4 HG4 HR17 HR18
  go_wp2_with fail
  refine (unhide HP5 W5).mono ?_
  rintro e W5 ⟨rfl, rfl⟩
  go_wp2_with fail
  refine (unhide HP6 W5).mono ?_
  rintro e W5 ⟨rfl, rfl⟩
  go_wp2_with fail
  refine (unhide HP7 W5).mono ?_
  rintro e W5 ⟨rfl, rfl⟩
  go_wp2_with fail
  refine (unhide HP8 W5).mono ?_
  rintro e W5 ⟨rfl, rfl⟩
  clear HP5 HP6 HP7 HP8
  go_upto_region 13 with fail
  rename_i K hK
  have hS5 := unhide HS5
  subst e1
  subst e2
  subst e3
  subst e4
  refine wp_mono (ruled_tail w x p n c m (by omega) (by omega) (by omega) (by omega) (by omega) (by omega) _ (ruled_ret w) _ W5 (by simp) rfl ?_ ?_ rfl rfl rfl rfl rfl hS5) ?_
  · rw [e5]
    rfl
  · rw [e6]
    rfl
  · intro e a W h
    cases e with
    | normal => exact hK _ _ h
    | _ => exact h
end Go.Proofs.YtfekelmldebplaaGreatDoor
