import Derived.Test.YtfekelmldebplaaGreatDoorPn
set_option maxRecDepth 100000
set_option maxHeartbeats 8000000
namespace Go.Proofs.YtfekelmldebplaaGreatDoor
open Go.RowKit
def sndC : Code → Code
 | .seq _ b => b
 | c => c
def fstC : Code → Code
 | .seq a _ => a
 | c => c
def cJ : Nat → Code → Code
 | 0, c => c
 | n + 1, c => cJ n (sndC c)
def cD (f : Func) : Code := f.body.getD .skip
def inC : Code → Code
 | .block _ c => c
 | c => c
def elsC : Code → Code
 | .cond _ _ e => e
 | c => c
theorem cA_6 : (inC (fstC (cJ 5 (cD Tryz.f145)))) = (Code.seq (Code.region 6 ([⟨some 21, .move (.tmp 4), 3, "relay.go:213", #[], none⟩,
 ⟨some 22, .call { callee := .value (.func 177), args := #[.tmp 21, .const (.int .i64 1), .const (.int .i64 4)], argTypes := #[3, 3, 3] }, 4, "relay.go:213", #[⟨0, .data⟩], none⟩,
 ⟨some 20, .assign (.tmp 22), 4, "relay.go:213", #[⟨1, .data⟩, ⟨1, .chain⟩], none⟩] : List Oper).toArray false) (Code.cond (.tmp 20) (Code.seq (Code.region 7 ([⟨some 8, .assign (.const (.int .i64 2000)), 3, "relay.go:214", #[], none⟩] : List Oper).toArray false) (Code.seq (Code.seq (Code.region 8 ([⟨some 23, .move (.tmp 4), 3, "relay.go:215", #[], none⟩,
 ⟨some 24, .binOp .gtr 3 (.tmp 23) (.const (.int .i64 2)) 3, 4, "relay.go:215", #[⟨0, .data⟩], none⟩] : List Oper).toArray false) (Code.cond (.tmp 24) (Code.region 9 ([⟨some 8, .assign (.const (.int .i64 125)), 3, "relay.go:216", #[], none⟩] : List Oper).toArray false) Code.skip)) (Code.seq (Code.region 10 sV.toArray false) (Code.cond (.tmp 37) (Code.seq (Code.region 11 sU.toArray true) Code.ret) Code.skip)))) (elsC (sndC (inC (fstC (cJ 5 (cD Tryz.f145)))))))) := by kernel_rfl
theorem aH3 : (elsC (sndC (inC (fstC (cJ 5 (cD Tryz.f145)))))) = (Code.seq (Code.region 12 ([⟨some 50, .move (.tmp 4), 3, "relay.go:221", #[], none⟩,
 ⟨some 51, .binOp .eql 3 (.tmp 50) (.const (.int .i64 5)) 3, 4, "relay.go:221", #[⟨0, .data⟩], none⟩,
 ⟨some 49, .assign (.tmp 51), 4, "relay.go:221", #[⟨1, .data⟩], none⟩] : List Oper).toArray false) (Code.cond (.tmp 49) (Code.seq (Code.region 13 yE.toArray false) (Code.cond (.tmp 63) (Code.seq (Code.region 14 yD.toArray false) Code.ret) Code.skip)) (elsC (sndC (elsC (sndC (inC (fstC (cJ 5 (cD Tryz.f145)))))))))) := by kernel_rfl
theorem aH2 : (elsC (sndC (elsC (sndC (inC (fstC (cJ 5 (cD Tryz.f145)))))))) = (Code.seq (Code.region 15 ([⟨some 74, .move (.tmp 4), 3, "relay.go:225", #[], none⟩,
 ⟨some 75, .binOp .eql 3 (.tmp 74) (.const (.int .i64 6)) 3, 4, "relay.go:225", #[⟨0, .data⟩], none⟩,
 ⟨some 73, .assign (.tmp 75), 4, "relay.go:225", #[⟨1, .data⟩], none⟩] : List Oper).toArray false) (Code.cond (.tmp 73) (Code.seq (Code.region 16 ([⟨some 76, .move (.tmp 6), 3, "relay.go:226", #[], none⟩,
 ⟨some 77, .binOp .eql 3 (.tmp 76) (.const (.int .i64 4)) 3, 4, "relay.go:226", #[⟨0, .data⟩], none⟩] : List Oper).toArray false) (Code.cond (.tmp 77) (Code.seq (Code.region 17 yC.toArray false) Code.ret) Code.skip)) (elsC (sndC (elsC (sndC (elsC (sndC (inC (fstC (cJ 5 (cD Tryz.f145)))))))))))) := by kernel_rfl
theorem aH1 : (elsC (sndC (elsC (sndC (elsC (sndC (inC (fstC (cJ 5 (cD Tryz.f145)))))))))) = (Code.seq (Code.region 18 ([⟨some 87, .move (.tmp 4), 3, "relay.go:229", #[], none⟩,
 ⟨some 88, .binOp .eql 3 (.tmp 87) (.const (.int .i64 15)) 3, 4, "relay.go:229", #[⟨0, .data⟩], none⟩,
 ⟨some 86, .assign (.tmp 88), 4, "relay.go:229", #[⟨1, .data⟩], none⟩] : List Oper).toArray false) (Code.cond (.tmp 86) (Code.seq (Code.region 19 yB.toArray true) (Code.cond (.tmp 120) (Code.seq (Code.region 20 yA.toArray true) Code.ret) Code.skip)) (elsC (sndC (elsC (sndC (elsC (sndC (elsC (sndC (inC (fstC (cJ 5 (cD Tryz.f145)))))))))))))) := by kernel_rfl
theorem aH0 : (elsC (sndC (elsC (sndC (elsC (sndC (elsC (sndC (inC (fstC (cJ 5 (cD Tryz.f145)))))))))))) = (Code.seq (Code.region 21 ([⟨some 134, .move (.tmp 4), 3, "relay.go:233", #[], none⟩,
 ⟨some 135, .binOp .eql 3 (.tmp 134) (.const (.int .i64 16)) 3, 4, "relay.go:233", #[⟨0, .data⟩], none⟩,
 ⟨some 133, .assign (.tmp 135), 4, "relay.go:233", #[⟨1, .data⟩], none⟩] : List Oper).toArray false) (Code.cond (.tmp 133) (Code.seq (Code.region 22 xZ.toArray true) (Code.cond (.tmp 166) (Code.seq (Code.region 23 xY.toArray true) Code.ret) Code.skip)) (elsC (sndC (elsC (sndC (elsC (sndC (elsC (sndC (elsC (sndC (inC (fstC (cJ 5 (cD Tryz.f145)))))))))))))))) := by kernel_rfl
theorem aHz : (elsC (sndC (elsC (sndC (elsC (sndC (elsC (sndC (elsC (sndC (inC (fstC (cJ 5 (cD Tryz.f145)))))))))))))) = (Code.seq (Code.region 24 ([⟨some 178, .move (.tmp 4), 3, "relay.go:237", #[], none⟩,
 ⟨some 179, .binOp .eql 3 (.tmp 178) (.const (.int .i64 22)) 3, 4, "relay.go:237", #[⟨0, .data⟩], none⟩,
 ⟨some 177, .assign (.tmp 179), 4, "relay.go:237", #[⟨1, .data⟩], none⟩] : List Oper).toArray false) (Code.cond (.tmp 177) (Code.seq (Code.region 25 ([⟨some 180, .move (.tmp 6), 3, "relay.go:238", #[], none⟩,
 ⟨some 181, .binOp .eql 3 (.tmp 180) (.const (.int .i64 6)) 3, 4, "relay.go:238", #[⟨0, .data⟩], none⟩] : List Oper).toArray false) (Code.cond (.tmp 181) (Code.seq (Code.region 26 ([⟨some 182, .move (.tmp 5), 37, "relay.go:239", #[], none⟩,
 ⟨some 183, .call { callee := .value (.func 176), args := #[.tmp 182, .const (.int .i64 0)], argTypes := #[37, 3] }, 3, "relay.go:239", #[⟨0, .data⟩], none⟩,
 ⟨some 9, .assign (.tmp 183), 3, "relay.go:239", #[⟨1, .data⟩, ⟨1, .chain⟩, ⟨0, .phase⟩, ⟨1, .phase⟩], none⟩] : List Oper).toArray false) (Code.seq (Code.region 27 xX.toArray false) Code.ret)) Code.skip)) (elsC (sndC (elsC (sndC (elsC (sndC (elsC (sndC (elsC (sndC (elsC (sndC (inC (fstC (cJ 5 (cD Tryz.f145)))))))))))))))))) := by kernel_rfl
theorem aHy : (elsC (sndC (elsC (sndC (elsC (sndC (elsC (sndC (elsC (sndC (elsC (sndC (inC (fstC (cJ 5 (cD Tryz.f145)))))))))))))))) = (Code.seq (Code.region 28 ([⟨some 195, .move (.tmp 4), 3, "relay.go:242", #[], none⟩,
 ⟨some 196, .binOp .eql 3 (.tmp 195) (.const (.int .i64 23)) 3, 4, "relay.go:242", #[⟨0, .data⟩], none⟩,
 ⟨some 194, .assign (.tmp 196), 4, "relay.go:242", #[⟨1, .data⟩], none⟩] : List Oper).toArray false) (Code.cond (.tmp 194) (Code.seq (Code.region 29 xW.toArray true) (Code.cond (.tmp 227) (Code.seq (Code.region 30 xV.toArray true) Code.ret) Code.skip)) (Code.seq (Code.region 5 ([⟨some 19, .build 252 #[], 252, "relay.go:247", #[], none⟩,
 ⟨none, .store 252 (.tmp 2) (.tmp 19), 0, "relay.go:247", #[⟨0, .data⟩, ⟨0, .phase⟩], none⟩,
 ⟨some 3, .assign (.const (.int .i64 1)), 3, "relay.go:247", #[⟨1, .chain⟩, ⟨0, .phase⟩, ⟨1, .phase⟩], none⟩] : List Oper).toArray false) Code.ret))) := by kernel_rfl
theorem cA_0 : cJ 5 (cD Tryz.f145) = Code.seq (Code.block 0 (inC (fstC (cJ 5 (cD Tryz.f145))))) (Code.seq (Code.region 31 ([⟨some 243, .build 252 #[], 252, "relay.go:249", #[], none⟩,
 ⟨none, .store 252 (.tmp 2) (.tmp 243), 0, "relay.go:249", #[⟨0, .data⟩, ⟨0, .phase⟩], none⟩,
 ⟨some 3, .assign (.const (.int .i64 3)), 3, "relay.go:249", #[⟨1, .chain⟩, ⟨0, .phase⟩, ⟨1, .phase⟩], none⟩] : List Oper).toArray false) Code.ret) := by kernel_rfl
theorem dW (a : Act) (Q : Exit → Act → World → Prop) (w : World) (id s d1 d2 d3 : Nat) (n k : Int) (bb : Bool) (T1 T2 T3 : TypeId) (p1 p2 p3 : String) (af1 af2 af3 : Array Edge) (h1 : d1 < a.tmps.size) (h2 : d2 < a.tmps.size) (hv : a.eval (.tmp s) = .int .i64 n) (hb : (n == k) = bb) (h : Q .normal (((a.put (some d1) (.int .i64 n)).put (some d2) (.bool bb)).put (some d3) (.bool bb)) w) :
  (Code.region id ([{ dst := some d1, op := .move (.tmp s), type := T1, pos := p1, after := af1, guard := none }, { dst := some d2, op := .binOp .eql 3 (.tmp d1) (.const (.int .i64 k)) 3, type := T2, pos := p2, after := af2, guard := none }, { dst := some d3, op := .assign (.tmp d2), type := T3, pos := p3, after := af3, guard := none }] : List Oper).toArray false).wp Tryz.prog Q a w := by
 refine wp_region_lit (aG rfl (aC _) ?_)
 rw [hv]
 have e1 : (a.put (some d1) (.int .i64 n)).eval (.tmp d1) = .int .i64 n := by rw [aI _ _ _ _ h1, if_pos rfl]
 refine aG rfl (dM _ _ n k bb e1 rfl hb) (aG rfl (aX _) (wpList_nil ?_))
 have e2 : ((a.put (some d1) (.int .i64 n)).put (some d2) (.bool bb)).eval (.tmp d2) = .bool bb := by rw [aI _ _ _ _ (by rw [aE]; exact h2), if_pos rfl]
 show Q .normal (Act.put _ (some d3) (Act.eval ((a.put (some d1) (.int .i64 n)).put (some d2) (.bool bb)) (.tmp d2))) w
 rw [e2]
 exact h
theorem oR (a : Act) (Q : Exit → Act → World → Prop) (w : World) (id s d1 d2 : Nat) (n k : Int) (bb : Bool) (T1 T2 : TypeId) (p1 p2 : String) (af1 af2 : Array Edge) (h1 : d1 < a.tmps.size) (hv : a.eval (.tmp s) = .int .i64 n) (hb : (n == k) = bb) (h : Q .normal ((a.put (some d1) (.int .i64 n)).put (some d2) (.bool bb)) w) :
  (Code.region id ([{ dst := some d1, op := .move (.tmp s), type := T1, pos := p1, after := af1, guard := none }, { dst := some d2, op := .binOp .eql 3 (.tmp d1) (.const (.int .i64 k)) 3, type := T2, pos := p2, after := af2, guard := none }] : List Oper).toArray false).wp Tryz.prog Q a w := by
 refine wp_region_lit (aG rfl (aC _) ?_)
 rw [hv]
 have e1 : (a.put (some d1) (.int .i64 n)).eval (.tmp d1) = .int .i64 n := by rw [aI _ _ _ _ h1, if_pos rfl]
 exact aG rfl (dM _ _ n k bb e1 rfl hb) (wpList_nil h)
theorem aE8 {ev : Operand → Value} {w : World} {dst : Option Tmp} {T : TypeId} {p : String} {af : Array Edge} {g : Option (Nat × Bool)} (x y : Operand) (n m : Int) (b : Bool) (hx : ev x = .int .i64 n) (hy : ev y = .int .i64 m) (hb : decide (m < n) = b) : (execOp ev { dst := dst, op := .binOp .gtr 3 x y 3, type := T, pos := p, after := af, guard := g }).run Tryz.prog w = .ok (.value (.bool b)) w := by
 simp [go_sem, hx, hy, ← hb]
theorem vH (a : Act) (Q : Exit → Act → World → Prop) (w : World) (id s d1 d2 : Nat) (n k : Int) (bb : Bool) (T1 T2 : TypeId) (p1 p2 : String) (af1 af2 : Array Edge) (h1 : d1 < a.tmps.size) (hv : a.eval (.tmp s) = .int .i64 n) (hb : decide (k < n) = bb) (h : Q .normal ((a.put (some d1) (.int .i64 n)).put (some d2) (.bool bb)) w) :
  (Code.region id ([{ dst := some d1, op := .move (.tmp s), type := T1, pos := p1, after := af1, guard := none }, { dst := some d2, op := .binOp .gtr 3 (.tmp d1) (.const (.int .i64 k)) 3, type := T2, pos := p2, after := af2, guard := none }] : List Oper).toArray false).wp Tryz.prog Q a w := by
 refine wp_region_lit (aG rfl (aC _) ?_)
 rw [hv]
 have e1 : (a.put (some d1) (.int .i64 n)).eval (.tmp d1) = .int .i64 n := by rw [aI _ _ _ _ h1, if_pos rfl]
 exact aG rfl (aE8 _ _ n k bb e1 rfl hb) (wpList_nil h)
theorem fQ (a : Act) (Q : Exit → Act → World → Prop) (w : World) (id d : Nat) (x : Operand) (T : TypeId) (p : String) (af : Array Edge) (v : Value) (hv : a.eval x = v) (h : Q .normal (a.put (some d) v) w) : (Code.region id ([{ dst := some d, op := .assign x, type := T, pos := p, after := af, guard := none }] : List Oper).toArray false).wp Tryz.prog Q a w := by
 subst hv
 exact wp_region_lit (aG rfl (aX _) (wpList_nil h))
theorem iP {P : Program} {ops : Array Oper} {Q : Exit → Act → World → Prop} {rest : List Oper} {o : Oper} {a : Act} {w w' : World} {f : FuncId} {args : Array Value} (hg : o.guard = none) (hr : (execOp a.eval o).run P w = .ok (.enter f args) w') (C : Ending → World → Prop) (hc : Calls P f args w' C) (h : ∀ e w'', C e w'' → ∃ r, e = .returned r ∧ wpList P ops Q rest (a.put o.dst r) w'') : wpList P ops Q (o :: rest) a w :=
 wpList_plain hg fun _ hK => uD hr C hc (fun e w'' hC => by
  obtain ⟨r, e1, h1⟩ := h e w'' hC
  exact ⟨r, e1, hK _ _ h1⟩)
theorem aG0 (a : Act) (Q : Exit → Act → World → Prop) (w : World) (id s d1 d2 d3 : Nat) (n lo hi : Int) (bb : Bool) (T1 T2 T3 : TypeId) (ts : Array TypeId) (p1 p2 p3 : String) (af1 af2 af3 : Array Edge) (h1 : d1 < a.tmps.size) (h2 : d2 < a.tmps.size) (hv : a.eval (.tmp s) = .int .i64 n) (hb : inB lo n hi = bb) (h : Q .normal (((a.put (some d1) (.int .i64 n)).put (some d2) (.bool bb)).put (some d3) (.bool bb)) w) :
  (Code.region id ([{ dst := some d1, op := .move (.tmp s), type := T1, pos := p1, after := af1, guard := none }, { dst := some d2, op := .call { callee := .value (.func 177), args := #[.tmp d1, .const (.int .i64 lo), .const (.int .i64 hi)], argTypes := ts }, type := T2, pos := p2, after := af2, guard := none }, { dst := some d3, op := .assign (.tmp d2), type := T3, pos := p3, after := af3, guard := none }] : List Oper).toArray false).wp Tryz.prog Q a w := by
 refine wp_region_lit (aG rfl (aC _) ?_)
 rw [hv]
 have e1 : (a.put (some d1) (.int .i64 n)).eval (.tmp d1) = .int .i64 n := by rw [aI _ _ _ _ h1, if_pos rfl]
 have hj := lH n lo hi w
 rw [← e1] at hj
 refine iP rfl (fZ _ _ _ _ _ (by simp [Act.eval]) kC) _ hj ?_
 rintro e w' ⟨rfl, rfl⟩
 refine ⟨_, rfl, aG rfl (aX _) (wpList_nil ?_)⟩
 rw [hb]
 have e2 : ((a.put (some d1) (.int .i64 n)).put (some d2) (.bool bb)).eval (.tmp d2) = .bool bb := by rw [aI _ _ _ _ (by rw [aE]; exact h2), if_pos rfl]
 show Q .normal (Act.put _ (some d3) (Act.eval ((a.put (some d1) (.int .i64 n)).put (some d2) (.bool bb)) (.tmp d2))) _
 rw [e2]
 exact h
theorem iK (m n : Nat) : (((m : Int)) == ((n : Int))) = decide (m = n) := by
 rw [Bool.eq_iff_iff]
 simp
 omega
theorem dX {n m : Nat} : bS n m = true ↔ 1 ≤ n ∧ n ≤ m := by simp [bS]
theorem aGg (bs : List Int) : (decide ((5 : Int) ≤ (bs.length : Int)) && decide ((1 : Int) ≤ (wAt bs 1 : Int)) && decide ((wAt bs 1 : Int) ≤ 1968) && (bs.getD 4 0 == ((wAt bs 1 : Int) + 7) / 8) && ((bs.length : Int) == 5 + bs.getD 4 0)) = decide (4 ≤ bs.length ∧ bS (wAt bs 1) 1968 = true ∧ bs.length = 5 + (wAt bs 1 + 7) / 8 ∧ bs.getD 4 0 = (((wAt bs 1 + 7) / 8 : Nat) : Int)) := by
 rw [Bool.eq_iff_iff]
 simp only [Bool.and_eq_true, decide_eq_true_eq, beq_iff_eq, dX]
 omega
theorem aGf (bs : List Int) : (decide ((5 : Int) ≤ (bs.length : Int)) && decide ((1 : Int) ≤ (wAt bs 1 : Int)) && decide ((wAt bs 1 : Int) ≤ 123) && (bs.getD 4 0 == 2 * (wAt bs 1 : Int)) && ((bs.length : Int) == 5 + bs.getD 4 0)) = decide (4 ≤ bs.length ∧ bS (wAt bs 1) 123 = true ∧ bs.length = 5 + 2 * wAt bs 1 ∧ bs.getD 4 0 = ((2 * wAt bs 1 : Nat) : Int)) := by
 rw [Bool.eq_iff_iff]
 simp only [Bool.and_eq_true, decide_eq_true_eq, beq_iff_eq, dX]
 omega
theorem aGe (bs : List Int) : (decide ((9 : Int) ≤ (bs.length : Int)) && inB 1 (wAt bs 1 : Int) 125 && inB 1 (wAt bs 3 : Int) 121 && (bs.getD 8 0 == 2 * (wAt bs 3 : Int)) && ((bs.length : Int) == 9 + bs.getD 8 0)) = decide (8 ≤ bs.length ∧ bS (wAt bs 1) 125 = true ∧ bS (wAt bs 3) 121 = true ∧ bs.length = 9 + 2 * wAt bs 3 ∧ bs.getD 8 0 = ((2 * wAt bs 3 : Nat) : Int)) := by
 rw [Bool.eq_iff_iff]
 simp only [Bool.and_eq_true, decide_eq_true_eq, beq_iff_eq, dX, zT]
 omega
theorem aG1 (a : Act) (Q : Exit → Act → World → Prop) (w : World) (id b o c i k sl d1 d2 d3 : Nat) (bs : List Int) (T1 T2 T3 : TypeId) (ts : Array TypeId) (p1 p2 p3 : String) (af1 af2 af3 : Array Edge) (h1 : d1 < a.tmps.size) (h2 : d2 < a.tmps.size) (hi : i = 2 * k) (hk : 2 * k + 1 < bs.length) (hl : bs.length ≤ 1000) (hx : Bys bs) (hb : b < w.heap.size) (hcc : ∀ i, i < bs.length → w.cell? ⟨b, o + i, none⟩ = some (.int .u8 (bs.getD i 0))) (hv : a.eval (.tmp sl) = .slice (some ⟨b, o, none⟩) bs.length c)
  (h : ∀ W, Below w.heap.size w W → Q .normal (((a.put (some d1) (.slice (some ⟨b, o, none⟩) bs.length c)).put (some d2) (.int .i64 (wAt bs k : Int))).put (some d3) (.int .i64 (wAt bs k : Int))) W) :
  (Code.region id ([{ dst := some d1, op := .move (.tmp sl), type := T1, pos := p1, after := af1, guard := none }, { dst := some d2, op := .call { callee := .value (.func 176), args := #[.tmp d1, .const (.int .i64 (i : Int))], argTypes := ts }, type := T2, pos := p2, after := af2, guard := none }, { dst := some d3, op := .assign (.tmp d2), type := T3, pos := p3, after := af3, guard := none }] : List Oper).toArray false).wp Tryz.prog Q a w := by
 refine wp_region_lit (aG rfl (aC _) ?_)
 rw [hv]
 have e1 : (a.put (some d1) (.slice (some ⟨b, o, none⟩) bs.length c)).eval (.tmp d1) = .slice (some ⟨b, o, none⟩) bs.length c := by rw [aI _ _ _ _ h1, if_pos rfl]
 have hj := eO b o bs.length c i k bs w w hi rfl hk hl hx hb hcc (Below.refl _ _)
 rw [← e1] at hj
 refine iP rfl (bF _ _ _ _ (by simp [Act.eval]) rfl bO) _ hj ?_
 rintro e w' ⟨rfl, nq, rfl⟩
 refine ⟨_, rfl, aG rfl (aX _) (wpList_nil ?_)⟩
 have e2 : ((a.put (some d1) (.slice (some ⟨b, o, none⟩) bs.length c)).put (some d2) (.int .i64 (wAt bs k : Int))).eval (.tmp d2) = .int .i64 (wAt bs k : Int) := by rw [aI _ _ _ _ (by rw [aE]; exact h2), if_pos rfl]
 show Q .normal (Act.put _ (some d3) (Act.eval ((a.put (some d1) (.slice (some ⟨b, o, none⟩) bs.length c)).put (some d2) (.int .i64 (wAt bs k : Int))) (.tmp d2))) _
 rw [e2]
 exact h _ (aY _ _)
theorem aEu (w W0 : World) (b o c b2 tb : Nat) (f : Nat) (bs : List Int) (Q : Exit → Act → World → Prop) (hf : f < 256) (hx : Bys bs) (hl : bs.length ≤ 252) (hb : b < W0.heap.size) (hnb : b ≠ b2) (hcc : ∀ i, i < bs.length → W0.cell? ⟨b, o + i, none⟩ = some (.int .u8 (bs.getD i 0))) (hc : bs.length ≤ c) (htl : tb < W0.heap.size) (htb : tb ≠ b2)
  (ht : ∀ i, i < 5 → W0.cell? ⟨tb, i, none⟩ = some (.int .i64 (([-1, 0, 1, 3, 2] : List Int).getD i 0))) (hrow : W0.heap[b2]? = some (.cells #[.slice none 0 0, .slice none 0 0, .int .i64 0, .int .i64 0] 252 (0, 0)))
  (hB : Below w.heap.size w W0) (hb2 : w.heap.size ≤ b2) (hQ : Q = bodyPost Tryz.prog Tryz.f145 (fun e w' => lN w (aO (f : Int) bs) e w'))
  (a0 : Act) (z0 : 244 ≤ a0.tmps.size) (d0 : a0.defers = []) (h2_0 : a0.eval (.tmp 2) = .pointer (some ⟨b2, 0, none⟩)) (h4_0 : a0.eval (.tmp 4) = .int .i64 (f : Int)) (h5_0 : a0.eval (.tmp 5) = .slice (some ⟨b, o, none⟩) bs.length c) (h6_0 : a0.eval (.tmp 6) = .int .i64 (bs.length : Int)) (h7_0 : a0.eval (.tmp 7) = .slice (some ⟨tb, 0, none⟩) 5 5) : (cJ 5 (cD Tryz.f145)).wp Tryz.prog Q a0 W0 := by
 have hl2 : bs.length ≤ 1000 := by omega
 have w0 := dU bs hx 0
 have w1 := dU bs hx 1
 have w2 := dU bs hx 2
 have w3 := dU bs hx 3
 have hOK : ∀ q, aO (f : Int) bs = .inr q → ∀ (a : Act) (W : World), a.defers = [] → a.eval (.tmp 2) = .pointer (some ⟨b2, 0, none⟩) → a.eval (.tmp 3) = .int .i64 0 → Chg W0 W (fun k => k = b2) ∧ pT W0.heap.size W b2 (aM q) (lC q) (xQ q) (yQ q) → Q .ret a W := fun q hq a W hd h2 h3 hS => by
  rw [hQ, hq]
  exact aHi w W0 W b2 a q hB hb2 hS.1 hS.2 hd h2 h3
 have hBAD : aO (f : Int) bs = .inl 3 → ∀ (a : Act) (W : World), 244 ≤ a.tmps.size → a.defers = [] → a.eval (.tmp 2) = .pointer (some ⟨b2, 0, none⟩) → Below W0.heap.size W0 W → (sndC (cJ 5 (cD Tryz.f145))).wp Tryz.prog Q a W := fun hq a W hz hd h2 hW => by
  rw [cA_0]
  have hr := (hW.block _ (Array.getElem?_eq_some_iff.1 hrow).1).trans hrow
  refine wp_seq (aAa a _ W 31 243 b2 3 _ _ _ _ _ _ _ _ _ (by omega) (by decide) h2 hr (fun W' hch hr' => ?_))
  refine wp_ret ?_
  rw [hQ, hq]
  refine aAb w W' b2 _ 3 (gL (aD hB hW) hb2 hch) hr' (by rw [aK, aK]; exact hd) ?_ ?_
  ·rw [aI _ _ _ _ (by rw [aE]; omega), if_neg (by decide), aI _ _ _ _ (by omega), if_neg (by decide)]
   exact h2
  ·rw [aI _ _ _ _ (by rw [aE]; omega), if_pos rfl]
 rw [cA_0]
 refine wp_seq (wp_block ?_)
 rw [cA_6]
 refine wp_seq (aG0 a0 _ W0 6 4 21 22 20 (f : Int) 1 4 _ _ _ _ _ _ _ _ _ _ _ (by omega) (by omega) h4_0 rfl ?_)
 show Code.wp Tryz.prog _ _ (((a0.put (some 21) (.int .i64 (f : Int))).put (some 22) (.bool (inB 1 (f : Int) 4))).put (some 20) (.bool (inB 1 (f : Int) 4))) W0
 obtain ⟨a1, ha⟩ : ∃ x, x = (((a0.put (some 21) (.int .i64 (f : Int))).put (some 22) (.bool (inB 1 (f : Int) 4))).put (some 20) (.bool (inB 1 (f : Int) 4))) := ⟨_, rfl⟩
 rw [← ha]
 have z1 : 244 ≤ a1.tmps.size := by rw [ha, aE, aE, aE]; exact z0
 have d1 : a1.defers = [] := by rw [ha, aK, aK, aK]; exact d0
 have h2_1 : a1.eval (.tmp 2) = .pointer (some ⟨b2, 0, none⟩) := by rw [ha, pne _ _ _ _ (by decide), pne _ _ _ _ (by decide), pne _ _ _ _ (by decide)]; exact h2_0
 have h4_1 : a1.eval (.tmp 4) = .int .i64 (f : Int) := by rw [ha, pne _ _ _ _ (by decide), pne _ _ _ _ (by decide), pne _ _ _ _ (by decide)]; exact h4_0
 have h5_1 : a1.eval (.tmp 5) = .slice (some ⟨b, o, none⟩) bs.length c := by rw [ha, pne _ _ _ _ (by decide), pne _ _ _ _ (by decide), pne _ _ _ _ (by decide)]; exact h5_0
 have h6_1 : a1.eval (.tmp 6) = .int .i64 (bs.length : Int) := by rw [ha, pne _ _ _ _ (by decide), pne _ _ _ _ (by decide), pne _ _ _ _ (by decide)]; exact h6_0
 have h7_1 : a1.eval (.tmp 7) = .slice (some ⟨tb, 0, none⟩) 5 5 := by rw [ha, pne _ _ _ _ (by decide), pne _ _ _ _ (by decide), pne _ _ _ _ (by decide)]; exact h7_0
 have h20_1 : a1.eval (.tmp 20) = .bool (inB 1 (f : Int) 4) := by rw [ha, aI _ _ _ _ (by (try simp only [aE]); omega), if_pos rfl]
 clear ha h2_0 h4_0 h5_0 h6_0 h7_0 z0 d0
 by_cases hr14 : 1 ≤ f ∧ f ≤ 4
 ·have hin : inB 1 (f : Int) 4 = true := aEg (by omega) (by omega)
  rw [hin] at h20_1
  refine wp_cond_true h20_1 ?_
  refine wp_seq (fQ a1 _ W0 7 8 _ _ _ _ (.int .i64 2000) rfl ?_)
  show Code.wp Tryz.prog _ _ (a1.put (some 8) (.int .i64 2000)) W0
  obtain ⟨a2, ha⟩ : ∃ x, x = (a1.put (some 8) (.int .i64 2000)) := ⟨_, rfl⟩
  rw [← ha]
  have z2 : 244 ≤ a2.tmps.size := by rw [ha, aE]; exact z1
  have d2 : a2.defers = [] := by rw [ha, aK]; exact d1
  have h2_2 : a2.eval (.tmp 2) = .pointer (some ⟨b2, 0, none⟩) := by rw [ha, pne _ _ _ _ (by decide)]; exact h2_1
  have h4_2 : a2.eval (.tmp 4) = .int .i64 (f : Int) := by rw [ha, pne _ _ _ _ (by decide)]; exact h4_1
  have h5_2 : a2.eval (.tmp 5) = .slice (some ⟨b, o, none⟩) bs.length c := by rw [ha, pne _ _ _ _ (by decide)]; exact h5_1
  have h6_2 : a2.eval (.tmp 6) = .int .i64 (bs.length : Int) := by rw [ha, pne _ _ _ _ (by decide)]; exact h6_1
  have h7_2 : a2.eval (.tmp 7) = .slice (some ⟨tb, 0, none⟩) 5 5 := by rw [ha, pne _ _ _ _ (by decide)]; exact h7_1
  have h8_2 : a2.eval (.tmp 8) = .int .i64 2000 := by rw [ha, aI _ _ _ _ (by (try simp only [aE]); omega), if_pos rfl]
  clear ha h2_1 h4_1 h5_1 h6_1 h7_1 z1 d1
  refine wp_seq (wp_seq (vH a2 _ W0 8 4 23 24 (f : Int) 2 (decide (2 < f)) _ _ _ _ _ _ (by omega) h4_2 (by rw [Bool.eq_iff_iff]; simp; omega) ?_))
  show Code.wp Tryz.prog _ _ ((a2.put (some 23) (.int .i64 (f : Int))).put (some 24) (.bool (decide (2 < f)))) W0
  obtain ⟨a3, ha⟩ : ∃ x, x = ((a2.put (some 23) (.int .i64 (f : Int))).put (some 24) (.bool (decide (2 < f)))) := ⟨_, rfl⟩
  rw [← ha]
  have z3 : 244 ≤ a3.tmps.size := by rw [ha, aE, aE]; exact z2
  have d3 : a3.defers = [] := by rw [ha, aK, aK]; exact d2
  have h2_3 : a3.eval (.tmp 2) = .pointer (some ⟨b2, 0, none⟩) := by rw [ha, pne _ _ _ _ (by decide), pne _ _ _ _ (by decide)]; exact h2_2
  have h4_3 : a3.eval (.tmp 4) = .int .i64 (f : Int) := by rw [ha, pne _ _ _ _ (by decide), pne _ _ _ _ (by decide)]; exact h4_2
  have h5_3 : a3.eval (.tmp 5) = .slice (some ⟨b, o, none⟩) bs.length c := by rw [ha, pne _ _ _ _ (by decide), pne _ _ _ _ (by decide)]; exact h5_2
  have h6_3 : a3.eval (.tmp 6) = .int .i64 (bs.length : Int) := by rw [ha, pne _ _ _ _ (by decide), pne _ _ _ _ (by decide)]; exact h6_2
  have h7_3 : a3.eval (.tmp 7) = .slice (some ⟨tb, 0, none⟩) 5 5 := by rw [ha, pne _ _ _ _ (by decide), pne _ _ _ _ (by decide)]; exact h7_2
  have h8_3 : a3.eval (.tmp 8) = .int .i64 2000 := by rw [ha, pne _ _ _ _ (by decide), pne _ _ _ _ (by decide)]; exact h8_2
  have h24_3 : a3.eval (.tmp 24) = .bool (decide (2 < f)) := by rw [ha, aI _ _ _ _ (by (try simp only [aE]); omega), if_pos rfl]
  clear ha h2_2 h4_2 h5_2 h6_2 h7_2 h8_2 z2 d2
  obtain ⟨most, hmost⟩ : ∃ most : Nat, most = if f ≤ 2 then 2000 else 125 := ⟨_, rfl⟩
  obtain ⟨t, htt⟩ : ∃ t : Nat, t = if f = 1 then 0 else if f = 2 then 1 else if f = 3 then 3 else 2 := ⟨_, rfl⟩
  have hpr : aO (f : Int) bs = aW (f : Int) bs t most := by
   have hk : f = 1 ∨ f = 2 ∨ f = 3 ∨ f = 4 := by omega
   rcases hk with rfl | rfl | rfl | rfl <;> (subst hmost; subst htt; rfl)
  have htv : W0.cell? ⟨tb, f, none⟩ = some (.int .i64 (t : Int)) := by
   rw [ht f (by omega)]
   have hk : f = 1 ∨ f = 2 ∨ f = 3 ∨ f = 4 := by omega
   rcases hk with rfl | rfl | rfl | rfl <;> (subst htt; rfl)
  have rest : ∀ a : Act, 244 ≤ a.tmps.size → a.defers = [] → a.eval (.tmp 2) = .pointer (some ⟨b2, 0, none⟩) → a.eval (.tmp 4) = .int .i64 (f : Int) → a.eval (.tmp 5) = .slice (some ⟨b, o, none⟩) bs.length c → a.eval (.tmp 6) = .int .i64 (bs.length : Int) → a.eval (.tmp 7) = .slice (some ⟨tb, 0, none⟩) 5 5 → a.eval (.tmp 8) = .int .i64 (most : Int) → Code.wp Tryz.prog (Code.seq (Code.region 10 sV.toArray false) (Code.cond (.tmp 37) (Code.seq (Code.region 11 sU.toArray true) Code.ret) Code.skip)) (Exit.inBlock 0 (Exit.then ((sndC (cJ 5 (cD Tryz.f145))).wp Tryz.prog Q) Q)) a W0 := by
   intro a103 z103 d103 h2_103 h4_103 h5_103 h6_103 h7_103 h8_103
   refine wp_seq (aGd a103 _ W0 10 b o c bs (most : Int) _ _ _ z103 hl2 hx hb hcc h5_103 h6_103 h8_103 rfl rfl rfl (fun u W hW hu => ?_))
   show Code.wp Tryz.prog _ _ (over a103 dA u) W
   obtain ⟨a104, ha⟩ : ∃ x, x = over a103 dA u := ⟨_, rfl⟩
   rw [← ha]
   have z104 : 244 ≤ a104.tmps.size := by rw [ha, dG]; exact z103
   have d104 : a104.defers = [] := by rw [ha, bP]; exact d103
   have h2_104 : a104.eval (.tmp 2) = .pointer (some ⟨b2, 0, none⟩) := by rw [ha]; exact (aQ a103 dA u 2 (by decide) (by omega)).trans h2_103
   have h4_104 : a104.eval (.tmp 4) = .int .i64 (f : Int) := by rw [ha]; exact (aQ a103 dA u 4 (by decide) (by omega)).trans h4_103
   have h5_104 : a104.eval (.tmp 5) = .slice (some ⟨b, o, none⟩) bs.length c := by rw [ha]; exact (aQ a103 dA u 5 (by decide) (by omega)).trans h5_103
   have h6_104 : a104.eval (.tmp 6) = .int .i64 (bs.length : Int) := by rw [ha]; exact (aQ a103 dA u 6 (by decide) (by omega)).trans h6_103
   have h7_104 : a104.eval (.tmp 7) = .slice (some ⟨tb, 0, none⟩) 5 5 := by rw [ha]; exact (aQ a103 dA u 7 (by decide) (by omega)).trans h7_103
   have h37_104 : a104.eval (.tmp 37) = .bool (decide (bs.length = 4 ∧ bS (wAt bs 1) most = true)) := by rw [ha]; exact (dB a103 dA u 37 (by decide) (by omega)).trans (hu.trans (congrArg Value.bool (by rw [Bool.eq_iff_iff]; simp [bS]; omega)))
   clear ha h2_103 h4_103 h5_103 h6_103 h7_103 h8_103 z103 d103
   by_cases hok : bs.length = 4 ∧ bS (wAt bs 1) most = true
   ·rw [decide_eq_true hok] at h37_104
    have hp : aO (f : Int) bs = .inr ⟨(f : Int), t, wAt bs 0, wAt bs 1, 0, 0, [], 0, []⟩ := by rw [hpr, aW, if_pos hok]
    refine wp_cond_true h37_104 ?_
    have hrW := (hW.block _ (Array.getElem?_eq_some_iff.1 hrow).1).trans hrow
    refine wp_seq (aGc a104 _ W 11 b o c b2 bs tb f (t : Int) z104 hl2 hx (Nat.lt_of_lt_of_le hb hW.size) hnb (fun i hi => (hW.cell (by exact hb)).trans (hcc i hi)) h5_104 h2_104 hrW hok.1 (by omega) (Nat.lt_of_lt_of_le htl hW.size) htb ((hW.cell (by exact htl)).trans htv) h7_104 h4_104 (fun u W' hS hu => ?_))
    refine wp_ret (hOK _ hp _ W' ?_ ?_ ?_ ?_)
    ·rw [bP]; exact d104
    ·exact (aQ a104 kA u 2 (by decide) (by omega)).trans h2_104
    ·exact (dB a104 kA u 3 (by decide) (by omega)).trans hu
    ·exact gZ hW hS (by unfold aM; rw [if_neg (by show ((f : Int)) ≠ 23; omega), if_neg (by show ((f : Int)) ≠ 22; omega), if_pos rfl]) (by unfold lC; rw [if_neg (by show ((f : Int)) ≠ 22; omega)]) (by unfold xQ; rw [if_neg (by show ((f : Int)) ≠ 22; omega)]) (by unfold yQ; rw [if_neg (by show ((f : Int)) ≠ 22; omega)])
   ·rw [decide_eq_false hok] at h37_104
    refine wp_cond_false h37_104 (wp_skip ?_)
    exact hBAD (by rw [hpr, aW, if_neg hok]) _ W z104 d104 h2_104 hW
  by_cases hf2 : f ≤ 2
  ·rw [decide_eq_false (by omega)] at h24_3
   refine wp_cond_false h24_3 (wp_skip ?_)
   rw [if_pos hf2] at hmost
   subst hmost
   exact rest a3 z3 d3 h2_3 h4_3 h5_3 h6_3 h7_3 h8_3
  ·rw [decide_eq_true (by omega)] at h24_3
   refine wp_cond_true h24_3 ?_
   refine fQ a3 _ W0 9 8 _ _ _ _ (.int .i64 125) rfl ?_
   show Code.wp Tryz.prog _ _ (a3.put (some 8) (.int .i64 125)) W0
   obtain ⟨a4, ha⟩ : ∃ x, x = (a3.put (some 8) (.int .i64 125)) := ⟨_, rfl⟩
   rw [← ha]
   have z4 : 244 ≤ a4.tmps.size := by rw [ha, aE]; exact z3
   have d4 : a4.defers = [] := by rw [ha, aK]; exact d3
   have h2_4 : a4.eval (.tmp 2) = .pointer (some ⟨b2, 0, none⟩) := by rw [ha, pne _ _ _ _ (by decide)]; exact h2_3
   have h4_4 : a4.eval (.tmp 4) = .int .i64 (f : Int) := by rw [ha, pne _ _ _ _ (by decide)]; exact h4_3
   have h5_4 : a4.eval (.tmp 5) = .slice (some ⟨b, o, none⟩) bs.length c := by rw [ha, pne _ _ _ _ (by decide)]; exact h5_3
   have h6_4 : a4.eval (.tmp 6) = .int .i64 (bs.length : Int) := by rw [ha, pne _ _ _ _ (by decide)]; exact h6_3
   have h7_4 : a4.eval (.tmp 7) = .slice (some ⟨tb, 0, none⟩) 5 5 := by rw [ha, pne _ _ _ _ (by decide)]; exact h7_3
   have h8_4 : a4.eval (.tmp 8) = .int .i64 125 := by rw [ha, aI _ _ _ _ (by (try simp only [aE]); omega), if_pos rfl]
   clear ha h2_3 h4_3 h5_3 h6_3 h7_3 h8_3 h24_3 z3 d3
   rw [if_neg hf2] at hmost
   subst hmost
   exact rest a4 z4 d4 h2_4 h4_4 h5_4 h6_4 h7_4 h8_4
 ·have hin : inB 1 (f : Int) 4 = false := by rw [Bool.eq_false_iff]; intro e; rw [zT] at e; omega
  rw [hin] at h20_1
  refine wp_cond_false h20_1 ?_
  rw [aH3]
  refine wp_seq (dW a1 _ W0 12 4 50 51 49 (f : Int) 5 (decide (f = 5)) _ _ _ _ _ _ _ _ _ (by omega) (by omega) h4_1 (iK f 5) ?_)
  show Code.wp Tryz.prog _ _ (((a1.put (some 50) (.int .i64 (f : Int))).put (some 51) (.bool (decide (f = 5)))).put (some 49) (.bool (decide (f = 5)))) W0
  obtain ⟨a2, ha⟩ : ∃ x, x = (((a1.put (some 50) (.int .i64 (f : Int))).put (some 51) (.bool (decide (f = 5)))).put (some 49) (.bool (decide (f = 5)))) := ⟨_, rfl⟩
  rw [← ha]
  have z2 : 244 ≤ a2.tmps.size := by rw [ha, aE, aE, aE]; exact z1
  have d2 : a2.defers = [] := by rw [ha, aK, aK, aK]; exact d1
  have h2_2 : a2.eval (.tmp 2) = .pointer (some ⟨b2, 0, none⟩) := by rw [ha, pne _ _ _ _ (by decide), pne _ _ _ _ (by decide), pne _ _ _ _ (by decide)]; exact h2_1
  have h4_2 : a2.eval (.tmp 4) = .int .i64 (f : Int) := by rw [ha, pne _ _ _ _ (by decide), pne _ _ _ _ (by decide), pne _ _ _ _ (by decide)]; exact h4_1
  have h5_2 : a2.eval (.tmp 5) = .slice (some ⟨b, o, none⟩) bs.length c := by rw [ha, pne _ _ _ _ (by decide), pne _ _ _ _ (by decide), pne _ _ _ _ (by decide)]; exact h5_1
  have h6_2 : a2.eval (.tmp 6) = .int .i64 (bs.length : Int) := by rw [ha, pne _ _ _ _ (by decide), pne _ _ _ _ (by decide), pne _ _ _ _ (by decide)]; exact h6_1
  have h7_2 : a2.eval (.tmp 7) = .slice (some ⟨tb, 0, none⟩) 5 5 := by rw [ha, pne _ _ _ _ (by decide), pne _ _ _ _ (by decide), pne _ _ _ _ (by decide)]; exact h7_1
  have h49_2 : a2.eval (.tmp 49) = .bool (decide (f = 5)) := by rw [ha, aI _ _ _ _ (by (try simp only [aE]); omega), if_pos rfl]
  clear ha h2_1 h4_1 h5_1 h6_1 h7_1 z1 d1
  by_cases hf5 : f = 5
  ·rw [decide_eq_true hf5] at h49_2
   refine wp_cond_true h49_2 ?_
   have hf0 : (f : Int) = 5 := by omega
   refine wp_seq (aGb a2 _ W0 13 b o c bs _ _ _ z2 hl2 hx hb hcc h5_2 h6_2 rfl rfl rfl (fun u W hW hu => ?_))
   show Code.wp Tryz.prog _ _ (over a2 cR u) W
   obtain ⟨a3, ha⟩ : ∃ x, x = over a2 cR u := ⟨_, rfl⟩
   rw [← ha]
   have z3 : 244 ≤ a3.tmps.size := by rw [ha, dG]; exact z2
   have d3 : a3.defers = [] := by rw [ha, bP]; exact d2
   have h2_3 : a3.eval (.tmp 2) = .pointer (some ⟨b2, 0, none⟩) := by rw [ha]; exact (aQ a2 cR u 2 (by decide) (by omega)).trans h2_2
   have h4_3 : a3.eval (.tmp 4) = .int .i64 (f : Int) := by rw [ha]; exact (aQ a2 cR u 4 (by decide) (by omega)).trans h4_2
   have h5_3 : a3.eval (.tmp 5) = .slice (some ⟨b, o, none⟩) bs.length c := by rw [ha]; exact (aQ a2 cR u 5 (by decide) (by omega)).trans h5_2
   have h6_3 : a3.eval (.tmp 6) = .int .i64 (bs.length : Int) := by rw [ha]; exact (aQ a2 cR u 6 (by decide) (by omega)).trans h6_2
   have h7_3 : a3.eval (.tmp 7) = .slice (some ⟨tb, 0, none⟩) 5 5 := by rw [ha]; exact (aQ a2 cR u 7 (by decide) (by omega)).trans h7_2
   have h63_3 : a3.eval (.tmp 63) = .bool (decide (bs.length = 4 ∧ (wAt bs 1 = 0 ∨ wAt bs 1 = 65280))) := by rw [ha]; exact (dB a2 cR u 63 (by decide) (by omega)).trans (hu.trans (congrArg Value.bool (by rw [Bool.eq_iff_iff]; simp; omega)))
   clear ha h2_2 h4_2 h5_2 h6_2 h7_2 z2 d2
   by_cases hok : bs.length = 4 ∧ (wAt bs 1 = 0 ∨ wAt bs 1 = 65280)
   ·rw [decide_eq_true hok] at h63_3
    have hp : aO (f : Int) bs = .inr ⟨5, 0, 0, 0, wAt bs 0, 1, [((wAt bs 1 / 65280 : Nat) : Int)], 0, bs⟩ := by rw [hf0]; exact (show dK 5 bs = _ from if_pos hok)
    refine wp_cond_true h63_3 ?_
    have hrW := (hW.block _ (Array.getElem?_eq_some_iff.1 hrow).1).trans hrow
    refine wp_seq (aGa a3 _ W 14 b o c b2 bs z3 hl2 hx (Nat.lt_of_lt_of_le hb hW.size) hnb (fun i hi => (hW.cell (by exact hb)).trans (hcc i hi)) h5_3 h2_3 hrW hok.1 (fun u W' hS hu => ?_))
    refine wp_ret (hOK _ hp _ W' ?_ ?_ ?_ ?_)
    ·rw [bP]; exact d3
    ·exact (aQ a3 jZ u 2 (by decide) (by omega)).trans h2_3
    ·exact (dB a3 jZ u 3 (by decide) (by omega)).trans hu
    ·exact gZ hW hS rfl rfl rfl rfl
   ·rw [decide_eq_false hok] at h63_3
    refine wp_cond_false h63_3 (wp_skip ?_)
    exact hBAD (by rw [hf0]; exact (show dK 5 bs = _ from if_neg hok)) _ W z3 d3 h2_3 hW
  rw [decide_eq_false hf5] at h49_2
  refine wp_cond_false h49_2 ?_
  rw [aH2]
  refine wp_seq (dW a2 _ W0 15 4 74 75 73 (f : Int) 6 (decide (f = 6)) _ _ _ _ _ _ _ _ _ (by omega) (by omega) h4_2 (iK f 6) ?_)
  show Code.wp Tryz.prog _ _ (((a2.put (some 74) (.int .i64 (f : Int))).put (some 75) (.bool (decide (f = 6)))).put (some 73) (.bool (decide (f = 6)))) W0
  obtain ⟨a3, ha⟩ : ∃ x, x = (((a2.put (some 74) (.int .i64 (f : Int))).put (some 75) (.bool (decide (f = 6)))).put (some 73) (.bool (decide (f = 6)))) := ⟨_, rfl⟩
  rw [← ha]
  have z3 : 244 ≤ a3.tmps.size := by rw [ha, aE, aE, aE]; exact z2
  have d3 : a3.defers = [] := by rw [ha, aK, aK, aK]; exact d2
  have h2_3 : a3.eval (.tmp 2) = .pointer (some ⟨b2, 0, none⟩) := by rw [ha, pne _ _ _ _ (by decide), pne _ _ _ _ (by decide), pne _ _ _ _ (by decide)]; exact h2_2
  have h4_3 : a3.eval (.tmp 4) = .int .i64 (f : Int) := by rw [ha, pne _ _ _ _ (by decide), pne _ _ _ _ (by decide), pne _ _ _ _ (by decide)]; exact h4_2
  have h5_3 : a3.eval (.tmp 5) = .slice (some ⟨b, o, none⟩) bs.length c := by rw [ha, pne _ _ _ _ (by decide), pne _ _ _ _ (by decide), pne _ _ _ _ (by decide)]; exact h5_2
  have h6_3 : a3.eval (.tmp 6) = .int .i64 (bs.length : Int) := by rw [ha, pne _ _ _ _ (by decide), pne _ _ _ _ (by decide), pne _ _ _ _ (by decide)]; exact h6_2
  have h7_3 : a3.eval (.tmp 7) = .slice (some ⟨tb, 0, none⟩) 5 5 := by rw [ha, pne _ _ _ _ (by decide), pne _ _ _ _ (by decide), pne _ _ _ _ (by decide)]; exact h7_2
  have h73_3 : a3.eval (.tmp 73) = .bool (decide (f = 6)) := by rw [ha, aI _ _ _ _ (by (try simp only [aE]); omega), if_pos rfl]
  clear ha h2_2 h4_2 h5_2 h6_2 h7_2 z2 d2
  by_cases hf6 : f = 6
  ·rw [decide_eq_true hf6] at h73_3
   refine wp_cond_true h73_3 ?_
   have hf0 : (f : Int) = 6 := by omega
   refine wp_seq (oR a3 _ W0 16 6 76 77 (bs.length : Int) 4 (decide (bs.length = 4)) _ _ _ _ _ _ (by omega) h6_3 (iK bs.length 4) ?_)
   show Code.wp Tryz.prog _ _ ((a3.put (some 76) (.int .i64 (bs.length : Int))).put (some 77) (.bool (decide (bs.length = 4)))) W0
   obtain ⟨a4, ha⟩ : ∃ x, x = ((a3.put (some 76) (.int .i64 (bs.length : Int))).put (some 77) (.bool (decide (bs.length = 4)))) := ⟨_, rfl⟩
   rw [← ha]
   have z4 : 244 ≤ a4.tmps.size := by rw [ha, aE, aE]; exact z3
   have d4 : a4.defers = [] := by rw [ha, aK, aK]; exact d3
   have h2_4 : a4.eval (.tmp 2) = .pointer (some ⟨b2, 0, none⟩) := by rw [ha, pne _ _ _ _ (by decide), pne _ _ _ _ (by decide)]; exact h2_3
   have h4_4 : a4.eval (.tmp 4) = .int .i64 (f : Int) := by rw [ha, pne _ _ _ _ (by decide), pne _ _ _ _ (by decide)]; exact h4_3
   have h5_4 : a4.eval (.tmp 5) = .slice (some ⟨b, o, none⟩) bs.length c := by rw [ha, pne _ _ _ _ (by decide), pne _ _ _ _ (by decide)]; exact h5_3
   have h6_4 : a4.eval (.tmp 6) = .int .i64 (bs.length : Int) := by rw [ha, pne _ _ _ _ (by decide), pne _ _ _ _ (by decide)]; exact h6_3
   have h7_4 : a4.eval (.tmp 7) = .slice (some ⟨tb, 0, none⟩) 5 5 := by rw [ha, pne _ _ _ _ (by decide), pne _ _ _ _ (by decide)]; exact h7_3
   have h77_4 : a4.eval (.tmp 77) = .bool (decide (bs.length = 4)) := by rw [ha, aI _ _ _ _ (by (try simp only [aE]); omega), if_pos rfl]
   clear ha h2_3 h4_3 h5_3 h6_3 h7_3 z3 d3
   have hW := Below.refl W0.heap.size W0
   by_cases hok : bs.length = 4
   ·rw [decide_eq_true hok] at h77_4
    have hp : aO (f : Int) bs = .inr ⟨6, 3, 0, 0, wAt bs 0, 1, [(wAt bs 1 : Int)], 0, bs⟩ := by rw [hf0]; exact (show eD 6 bs = _ from if_pos hok)
    refine wp_cond_true h77_4 ?_
    have hrW := (hW.block _ (Array.getElem?_eq_some_iff.1 hrow).1).trans hrow
    refine wp_seq (aF9 a4 _ W0 17 b o c b2 bs z4 hl2 hx hb hnb hcc h5_4 h2_4 hrW hok (fun u W' hS hu => ?_))
    refine wp_ret (hOK _ hp _ W' ?_ ?_ ?_ ?_)
    ·rw [bP]; exact d4
    ·exact (aQ a4 jY u 2 (by decide) (by omega)).trans h2_4
    ·exact (dB a4 jY u 3 (by decide) (by omega)).trans hu
    ·exact gZ hW hS rfl rfl rfl rfl
   ·rw [decide_eq_false hok] at h77_4
    refine wp_cond_false h77_4 (wp_skip ?_)
    exact hBAD (by rw [hf0]; exact (show eD 6 bs = _ from if_neg hok)) _ W0 z4 d4 h2_4 hW
  rw [decide_eq_false hf6] at h73_3
  refine wp_cond_false h73_3 ?_
  rw [aH1]
  refine wp_seq (dW a3 _ W0 18 4 87 88 86 (f : Int) 15 (decide (f = 15)) _ _ _ _ _ _ _ _ _ (by omega) (by omega) h4_3 (iK f 15) ?_)
  show Code.wp Tryz.prog _ _ (((a3.put (some 87) (.int .i64 (f : Int))).put (some 88) (.bool (decide (f = 15)))).put (some 86) (.bool (decide (f = 15)))) W0
  obtain ⟨a4, ha⟩ : ∃ x, x = (((a3.put (some 87) (.int .i64 (f : Int))).put (some 88) (.bool (decide (f = 15)))).put (some 86) (.bool (decide (f = 15)))) := ⟨_, rfl⟩
  rw [← ha]
  have z4 : 244 ≤ a4.tmps.size := by rw [ha, aE, aE, aE]; exact z3
  have d4 : a4.defers = [] := by rw [ha, aK, aK, aK]; exact d3
  have h2_4 : a4.eval (.tmp 2) = .pointer (some ⟨b2, 0, none⟩) := by rw [ha, pne _ _ _ _ (by decide), pne _ _ _ _ (by decide), pne _ _ _ _ (by decide)]; exact h2_3
  have h4_4 : a4.eval (.tmp 4) = .int .i64 (f : Int) := by rw [ha, pne _ _ _ _ (by decide), pne _ _ _ _ (by decide), pne _ _ _ _ (by decide)]; exact h4_3
  have h5_4 : a4.eval (.tmp 5) = .slice (some ⟨b, o, none⟩) bs.length c := by rw [ha, pne _ _ _ _ (by decide), pne _ _ _ _ (by decide), pne _ _ _ _ (by decide)]; exact h5_3
  have h6_4 : a4.eval (.tmp 6) = .int .i64 (bs.length : Int) := by rw [ha, pne _ _ _ _ (by decide), pne _ _ _ _ (by decide), pne _ _ _ _ (by decide)]; exact h6_3
  have h7_4 : a4.eval (.tmp 7) = .slice (some ⟨tb, 0, none⟩) 5 5 := by rw [ha, pne _ _ _ _ (by decide), pne _ _ _ _ (by decide), pne _ _ _ _ (by decide)]; exact h7_3
  have h86_4 : a4.eval (.tmp 86) = .bool (decide (f = 15)) := by rw [ha, aI _ _ _ _ (by (try simp only [aE]); omega), if_pos rfl]
  clear ha h2_3 h4_3 h5_3 h6_3 h7_3 z3 d3
  by_cases hf15 : f = 15
  ·rw [decide_eq_true hf15] at h86_4
   refine wp_cond_true h86_4 ?_
   have hf0 : (f : Int) = 15 := by omega
   have h40 := (hx.at 4)
   refine wp_seq (aF8 a4 _ W0 19 b o c bs _ _ _ _ _ z4 hl2 hx hb hcc h5_4 h6_4 rfl rfl rfl rfl rfl (fun u W hW hu => ?_))
   show Code.wp Tryz.prog _ _ (over a4 bN u) W
   obtain ⟨a5, ha⟩ : ∃ x, x = over a4 bN u := ⟨_, rfl⟩
   rw [← ha]
   have z5 : 244 ≤ a5.tmps.size := by rw [ha, dG]; exact z4
   have d5 : a5.defers = [] := by rw [ha, bP]; exact d4
   have h2_5 : a5.eval (.tmp 2) = .pointer (some ⟨b2, 0, none⟩) := by rw [ha]; exact (aQ a4 bN u 2 (by decide) (by omega)).trans h2_4
   have h4_5 : a5.eval (.tmp 4) = .int .i64 (f : Int) := by rw [ha]; exact (aQ a4 bN u 4 (by decide) (by omega)).trans h4_4
   have h5_5 : a5.eval (.tmp 5) = .slice (some ⟨b, o, none⟩) bs.length c := by rw [ha]; exact (aQ a4 bN u 5 (by decide) (by omega)).trans h5_4
   have h6_5 : a5.eval (.tmp 6) = .int .i64 (bs.length : Int) := by rw [ha]; exact (aQ a4 bN u 6 (by decide) (by omega)).trans h6_4
   have h7_5 : a5.eval (.tmp 7) = .slice (some ⟨tb, 0, none⟩) 5 5 := by rw [ha]; exact (aQ a4 bN u 7 (by decide) (by omega)).trans h7_4
   have h120_5 : a5.eval (.tmp 120) = .bool (decide (4 ≤ bs.length ∧ bS (wAt bs 1) 1968 = true ∧ bs.length = 5 + (wAt bs 1 + 7) / 8 ∧ bs.getD 4 0 = (((wAt bs 1 + 7) / 8 : Nat) : Int))) := by rw [ha]; exact (dB a4 bN u 120 (by decide) (by omega)).trans (hu.trans (congrArg Value.bool (aGg bs)))
   clear ha h2_4 h4_4 h5_4 h6_4 h7_4 z4 d4
   by_cases hok : 4 ≤ bs.length ∧ bS (wAt bs 1) 1968 = true ∧ bs.length = 5 + (wAt bs 1 + 7) / 8 ∧ bs.getD 4 0 = (((wAt bs 1 + 7) / 8 : Nat) : Int)
   ·rw [decide_eq_true hok] at h120_5
    have hp : aO (f : Int) bs = .inr ⟨15, 0, 0, 0, wAt bs 0, wAt bs 1, eN (bs.drop 5) (wAt bs 1), 0, bs.take 4⟩ := by rw [hf0]; exact (show eQ 15 bs = _ from if_pos hok)
    refine wp_cond_true h120_5 ?_
    have hrW := (hW.block _ (Array.getElem?_eq_some_iff.1 hrow).1).trans hrow
    refine wp_seq (aF7 a5 _ W 20 b o c b2 bs z5 hl2 hx (Nat.lt_of_lt_of_le hb hW.size) hnb (fun i hi => (hW.cell (by exact hb)).trans (hcc i hi)) h5_5 h2_5 hrW hc hok.2.2.1 (dX.1 hok.2.1).1 (dX.1 hok.2.1).2 (fun u W' hS hu => ?_))
    refine wp_ret (hOK _ hp _ W' ?_ ?_ ?_ ?_)
    ·rw [bP]; exact d5
    ·exact (aQ a5 jX u 2 (by decide) (by omega)).trans h2_5
    ·exact (dB a5 jX u 3 (by decide) (by omega)).trans hu
    ·exact gZ hW hS (by unfold aM; rw [if_neg (show ¬ ((15 : Int) = 23) by decide), if_neg (show ¬ ((15 : Int) = 22) by decide), if_neg (show ¬ (wAt bs 1 = 0) by have := (dX.1 hok.2.1).1; omega)]; rfl) rfl rfl rfl
   ·rw [decide_eq_false hok] at h120_5
    refine wp_cond_false h120_5 (wp_skip ?_)
    exact hBAD (by rw [hf0]; exact (show eQ 15 bs = _ from if_neg hok)) _ W z5 d5 h2_5 hW
  rw [decide_eq_false hf15] at h86_4
  refine wp_cond_false h86_4 ?_
  rw [aH0]
  refine wp_seq (dW a4 _ W0 21 4 134 135 133 (f : Int) 16 (decide (f = 16)) _ _ _ _ _ _ _ _ _ (by omega) (by omega) h4_4 (iK f 16) ?_)
  show Code.wp Tryz.prog _ _ (((a4.put (some 134) (.int .i64 (f : Int))).put (some 135) (.bool (decide (f = 16)))).put (some 133) (.bool (decide (f = 16)))) W0
  obtain ⟨a5, ha⟩ : ∃ x, x = (((a4.put (some 134) (.int .i64 (f : Int))).put (some 135) (.bool (decide (f = 16)))).put (some 133) (.bool (decide (f = 16)))) := ⟨_, rfl⟩
  rw [← ha]
  have z5 : 244 ≤ a5.tmps.size := by rw [ha, aE, aE, aE]; exact z4
  have d5 : a5.defers = [] := by rw [ha, aK, aK, aK]; exact d4
  have h2_5 : a5.eval (.tmp 2) = .pointer (some ⟨b2, 0, none⟩) := by rw [ha, pne _ _ _ _ (by decide), pne _ _ _ _ (by decide), pne _ _ _ _ (by decide)]; exact h2_4
  have h4_5 : a5.eval (.tmp 4) = .int .i64 (f : Int) := by rw [ha, pne _ _ _ _ (by decide), pne _ _ _ _ (by decide), pne _ _ _ _ (by decide)]; exact h4_4
  have h5_5 : a5.eval (.tmp 5) = .slice (some ⟨b, o, none⟩) bs.length c := by rw [ha, pne _ _ _ _ (by decide), pne _ _ _ _ (by decide), pne _ _ _ _ (by decide)]; exact h5_4
  have h6_5 : a5.eval (.tmp 6) = .int .i64 (bs.length : Int) := by rw [ha, pne _ _ _ _ (by decide), pne _ _ _ _ (by decide), pne _ _ _ _ (by decide)]; exact h6_4
  have h7_5 : a5.eval (.tmp 7) = .slice (some ⟨tb, 0, none⟩) 5 5 := by rw [ha, pne _ _ _ _ (by decide), pne _ _ _ _ (by decide), pne _ _ _ _ (by decide)]; exact h7_4
  have h133_5 : a5.eval (.tmp 133) = .bool (decide (f = 16)) := by rw [ha, aI _ _ _ _ (by (try simp only [aE]); omega), if_pos rfl]
  clear ha h2_4 h4_4 h5_4 h6_4 h7_4 z4 d4
  by_cases hf16 : f = 16
  ·rw [decide_eq_true hf16] at h133_5
   refine wp_cond_true h133_5 ?_
   have hf0 : (f : Int) = 16 := by omega
   refine wp_seq (aF6 a5 _ W0 22 b o c bs _ _ _ _ _ z5 hl2 hx hb hcc h5_5 h6_5 rfl rfl rfl rfl rfl (fun u W hW hu => ?_))
   show Code.wp Tryz.prog _ _ (over a5 bR u) W
   obtain ⟨a6, ha⟩ : ∃ x, x = over a5 bR u := ⟨_, rfl⟩
   rw [← ha]
   have z6 : 244 ≤ a6.tmps.size := by rw [ha, dG]; exact z5
   have d6 : a6.defers = [] := by rw [ha, bP]; exact d5
   have h2_6 : a6.eval (.tmp 2) = .pointer (some ⟨b2, 0, none⟩) := by rw [ha]; exact (aQ a5 bR u 2 (by decide) (by omega)).trans h2_5
   have h4_6 : a6.eval (.tmp 4) = .int .i64 (f : Int) := by rw [ha]; exact (aQ a5 bR u 4 (by decide) (by omega)).trans h4_5
   have h5_6 : a6.eval (.tmp 5) = .slice (some ⟨b, o, none⟩) bs.length c := by rw [ha]; exact (aQ a5 bR u 5 (by decide) (by omega)).trans h5_5
   have h6_6 : a6.eval (.tmp 6) = .int .i64 (bs.length : Int) := by rw [ha]; exact (aQ a5 bR u 6 (by decide) (by omega)).trans h6_5
   have h7_6 : a6.eval (.tmp 7) = .slice (some ⟨tb, 0, none⟩) 5 5 := by rw [ha]; exact (aQ a5 bR u 7 (by decide) (by omega)).trans h7_5
   have h166_6 : a6.eval (.tmp 166) = .bool (decide (4 ≤ bs.length ∧ bS (wAt bs 1) 123 = true ∧ bs.length = 5 + 2 * wAt bs 1 ∧ bs.getD 4 0 = ((2 * wAt bs 1 : Nat) : Int))) := by rw [ha]; exact (dB a5 bR u 166 (by decide) (by omega)).trans (hu.trans (congrArg Value.bool (aGf bs)))
   clear ha h2_5 h4_5 h5_5 h6_5 h7_5 z5 d5
   by_cases hok : 4 ≤ bs.length ∧ bS (wAt bs 1) 123 = true ∧ bs.length = 5 + 2 * wAt bs 1 ∧ bs.getD 4 0 = ((2 * wAt bs 1 : Nat) : Int)
   ·rw [decide_eq_true hok] at h166_6
    have hp : aO (f : Int) bs = .inr ⟨16, 3, 0, 0, wAt bs 0, wAt bs 1, bY (bs.drop 5) (wAt bs 1), 0, bs.take 4⟩ := by rw [hf0]; exact (show eP 16 bs = _ from if_pos hok)
    refine wp_cond_true h166_6 ?_
    have hrW := (hW.block _ (Array.getElem?_eq_some_iff.1 hrow).1).trans hrow
    refine wp_seq (aF5 a6 _ W 23 b o c b2 bs z6 hl2 hx (Nat.lt_of_lt_of_le hb hW.size) hnb (fun i hi => (hW.cell (by exact hb)).trans (hcc i hi)) h5_6 h2_6 hrW hc hok.2.2.1 (dX.1 hok.2.1).1 (dX.1 hok.2.1).2 (fun u W' hS hu => ?_))
    refine wp_ret (hOK _ hp _ W' ?_ ?_ ?_ ?_)
    ·rw [bP]; exact d6
    ·exact (aQ a6 jW u 2 (by decide) (by omega)).trans h2_6
    ·exact (dB a6 jW u 3 (by decide) (by omega)).trans hu
    ·exact gZ hW hS (by unfold aM; rw [if_neg (show ¬ ((16 : Int) = 23) by decide), if_neg (show ¬ ((16 : Int) = 22) by decide), if_neg (show ¬ (wAt bs 1 = 0) by have := (dX.1 hok.2.1).1; omega)]; rfl) rfl rfl rfl
   ·rw [decide_eq_false hok] at h166_6
    refine wp_cond_false h166_6 (wp_skip ?_)
    exact hBAD (by rw [hf0]; exact (show eP 16 bs = _ from if_neg hok)) _ W z6 d6 h2_6 hW
  rw [decide_eq_false hf16] at h133_5
  refine wp_cond_false h133_5 ?_
  rw [aHz]
  refine wp_seq (dW a5 _ W0 24 4 178 179 177 (f : Int) 22 (decide (f = 22)) _ _ _ _ _ _ _ _ _ (by omega) (by omega) h4_5 (iK f 22) ?_)
  show Code.wp Tryz.prog _ _ (((a5.put (some 178) (.int .i64 (f : Int))).put (some 179) (.bool (decide (f = 22)))).put (some 177) (.bool (decide (f = 22)))) W0
  obtain ⟨a6, ha⟩ : ∃ x, x = (((a5.put (some 178) (.int .i64 (f : Int))).put (some 179) (.bool (decide (f = 22)))).put (some 177) (.bool (decide (f = 22)))) := ⟨_, rfl⟩
  rw [← ha]
  have z6 : 244 ≤ a6.tmps.size := by rw [ha, aE, aE, aE]; exact z5
  have d6 : a6.defers = [] := by rw [ha, aK, aK, aK]; exact d5
  have h2_6 : a6.eval (.tmp 2) = .pointer (some ⟨b2, 0, none⟩) := by rw [ha, pne _ _ _ _ (by decide), pne _ _ _ _ (by decide), pne _ _ _ _ (by decide)]; exact h2_5
  have h4_6 : a6.eval (.tmp 4) = .int .i64 (f : Int) := by rw [ha, pne _ _ _ _ (by decide), pne _ _ _ _ (by decide), pne _ _ _ _ (by decide)]; exact h4_5
  have h5_6 : a6.eval (.tmp 5) = .slice (some ⟨b, o, none⟩) bs.length c := by rw [ha, pne _ _ _ _ (by decide), pne _ _ _ _ (by decide), pne _ _ _ _ (by decide)]; exact h5_5
  have h6_6 : a6.eval (.tmp 6) = .int .i64 (bs.length : Int) := by rw [ha, pne _ _ _ _ (by decide), pne _ _ _ _ (by decide), pne _ _ _ _ (by decide)]; exact h6_5
  have h7_6 : a6.eval (.tmp 7) = .slice (some ⟨tb, 0, none⟩) 5 5 := by rw [ha, pne _ _ _ _ (by decide), pne _ _ _ _ (by decide), pne _ _ _ _ (by decide)]; exact h7_5
  have h177_6 : a6.eval (.tmp 177) = .bool (decide (f = 22)) := by rw [ha, aI _ _ _ _ (by (try simp only [aE]); omega), if_pos rfl]
  clear ha h2_5 h4_5 h5_5 h6_5 h7_5 z5 d5
  by_cases hf22 : f = 22
  ·rw [decide_eq_true hf22] at h177_6
   refine wp_cond_true h177_6 ?_
   have hf0 : (f : Int) = 22 := by omega
   refine wp_seq (oR a6 _ W0 25 6 180 181 (bs.length : Int) 6 (decide (bs.length = 6)) _ _ _ _ _ _ (by omega) h6_6 (iK bs.length 6) ?_)
   show Code.wp Tryz.prog _ _ ((a6.put (some 180) (.int .i64 (bs.length : Int))).put (some 181) (.bool (decide (bs.length = 6)))) W0
   obtain ⟨a7, ha⟩ : ∃ x, x = ((a6.put (some 180) (.int .i64 (bs.length : Int))).put (some 181) (.bool (decide (bs.length = 6)))) := ⟨_, rfl⟩
   rw [← ha]
   have z7 : 244 ≤ a7.tmps.size := by rw [ha, aE, aE]; exact z6
   have d7 : a7.defers = [] := by rw [ha, aK, aK]; exact d6
   have h2_7 : a7.eval (.tmp 2) = .pointer (some ⟨b2, 0, none⟩) := by rw [ha, pne _ _ _ _ (by decide), pne _ _ _ _ (by decide)]; exact h2_6
   have h4_7 : a7.eval (.tmp 4) = .int .i64 (f : Int) := by rw [ha, pne _ _ _ _ (by decide), pne _ _ _ _ (by decide)]; exact h4_6
   have h5_7 : a7.eval (.tmp 5) = .slice (some ⟨b, o, none⟩) bs.length c := by rw [ha, pne _ _ _ _ (by decide), pne _ _ _ _ (by decide)]; exact h5_6
   have h6_7 : a7.eval (.tmp 6) = .int .i64 (bs.length : Int) := by rw [ha, pne _ _ _ _ (by decide), pne _ _ _ _ (by decide)]; exact h6_6
   have h7_7 : a7.eval (.tmp 7) = .slice (some ⟨tb, 0, none⟩) 5 5 := by rw [ha, pne _ _ _ _ (by decide), pne _ _ _ _ (by decide)]; exact h7_6
   have h181_7 : a7.eval (.tmp 181) = .bool (decide (bs.length = 6)) := by rw [ha, aI _ _ _ _ (by (try simp only [aE]); omega), if_pos rfl]
   clear ha h2_6 h4_6 h5_6 h6_6 h7_6 z6 d6
   by_cases hok : bs.length = 6
   ·rw [decide_eq_true hok] at h181_7
    have hp : aO (f : Int) bs = .inr ⟨22, 3, wAt bs 0, 1, wAt bs 0, 1, [(wAt bs 2 : Int)], wAt bs 1, bs⟩ := by rw [hf0]; exact (show dE 22 bs = _ from if_pos hok)
    refine wp_cond_true h181_7 ?_
    refine wp_seq (aG1 a7 _ W0 26 b o c 0 0 5 182 183 9 bs _ _ _ _ _ _ _ _ _ _ (by omega) (by omega) rfl (by omega) hl2 hx hb hcc h5_7 (fun W hW => ?_))
    show Code.wp Tryz.prog _ _ (((a7.put (some 182) (.slice (some ⟨b, o, none⟩) bs.length c)).put (some 183) (.int .i64 (wAt bs 0 : Int))).put (some 9) (.int .i64 (wAt bs 0 : Int))) W
    obtain ⟨a8, ha⟩ : ∃ x, x = (((a7.put (some 182) (.slice (some ⟨b, o, none⟩) bs.length c)).put (some 183) (.int .i64 (wAt bs 0 : Int))).put (some 9) (.int .i64 (wAt bs 0 : Int))) := ⟨_, rfl⟩
    rw [← ha]
    have z8 : 244 ≤ a8.tmps.size := by rw [ha, aE, aE, aE]; exact z7
    have d8 : a8.defers = [] := by rw [ha, aK, aK, aK]; exact d7
    have h2_8 : a8.eval (.tmp 2) = .pointer (some ⟨b2, 0, none⟩) := by rw [ha, pne _ _ _ _ (by decide), pne _ _ _ _ (by decide), pne _ _ _ _ (by decide)]; exact h2_7
    have h4_8 : a8.eval (.tmp 4) = .int .i64 (f : Int) := by rw [ha, pne _ _ _ _ (by decide), pne _ _ _ _ (by decide), pne _ _ _ _ (by decide)]; exact h4_7
    have h5_8 : a8.eval (.tmp 5) = .slice (some ⟨b, o, none⟩) bs.length c := by rw [ha, pne _ _ _ _ (by decide), pne _ _ _ _ (by decide), pne _ _ _ _ (by decide)]; exact h5_7
    have h6_8 : a8.eval (.tmp 6) = .int .i64 (bs.length : Int) := by rw [ha, pne _ _ _ _ (by decide), pne _ _ _ _ (by decide), pne _ _ _ _ (by decide)]; exact h6_7
    have h7_8 : a8.eval (.tmp 7) = .slice (some ⟨tb, 0, none⟩) 5 5 := by rw [ha, pne _ _ _ _ (by decide), pne _ _ _ _ (by decide), pne _ _ _ _ (by decide)]; exact h7_7
    have h9_8 : a8.eval (.tmp 9) = .int .i64 (wAt bs 0 : Int) := by rw [ha, aI _ _ _ _ (by (try simp only [aE]); omega), if_pos rfl]
    clear ha h2_7 h4_7 h5_7 h6_7 h7_7 z7 d7
    have hrW := (hW.block _ (Array.getElem?_eq_some_iff.1 hrow).1).trans hrow
    refine wp_seq (aF4 a8 _ W 27 b o c b2 bs z8 hl2 hx (Nat.lt_of_lt_of_le hb hW.size) hnb (fun i hi => (hW.cell (by exact hb)).trans (hcc i hi)) h5_8 h2_8 hrW hok h9_8 (fun u W' hS hu => ?_))
    refine wp_ret (hOK _ hp _ W' ?_ ?_ ?_ ?_)
    ·rw [bP]; exact d8
    ·exact (aQ a8 jV u 2 (by decide) (by omega)).trans h2_8
    ·exact (dB a8 jV u 3 (by decide) (by omega)).trans hu
    ·exact gZ hW hS rfl rfl rfl rfl
   ·rw [decide_eq_false hok] at h181_7
    refine wp_cond_false h181_7 (wp_skip ?_)
    exact hBAD (by rw [hf0]; exact (show dE 22 bs = _ from if_neg hok)) _ W0 z7 d7 h2_7 (Below.refl _ _)
  rw [decide_eq_false hf22] at h177_6
  refine wp_cond_false h177_6 ?_
  rw [aHy]
  refine wp_seq (dW a6 _ W0 28 4 195 196 194 (f : Int) 23 (decide (f = 23)) _ _ _ _ _ _ _ _ _ (by omega) (by omega) h4_6 (iK f 23) ?_)
  show Code.wp Tryz.prog _ _ (((a6.put (some 195) (.int .i64 (f : Int))).put (some 196) (.bool (decide (f = 23)))).put (some 194) (.bool (decide (f = 23)))) W0
  obtain ⟨a7, ha⟩ : ∃ x, x = (((a6.put (some 195) (.int .i64 (f : Int))).put (some 196) (.bool (decide (f = 23)))).put (some 194) (.bool (decide (f = 23)))) := ⟨_, rfl⟩
  rw [← ha]
  have z7 : 244 ≤ a7.tmps.size := by rw [ha, aE, aE, aE]; exact z6
  have d7 : a7.defers = [] := by rw [ha, aK, aK, aK]; exact d6
  have h2_7 : a7.eval (.tmp 2) = .pointer (some ⟨b2, 0, none⟩) := by rw [ha, pne _ _ _ _ (by decide), pne _ _ _ _ (by decide), pne _ _ _ _ (by decide)]; exact h2_6
  have h4_7 : a7.eval (.tmp 4) = .int .i64 (f : Int) := by rw [ha, pne _ _ _ _ (by decide), pne _ _ _ _ (by decide), pne _ _ _ _ (by decide)]; exact h4_6
  have h5_7 : a7.eval (.tmp 5) = .slice (some ⟨b, o, none⟩) bs.length c := by rw [ha, pne _ _ _ _ (by decide), pne _ _ _ _ (by decide), pne _ _ _ _ (by decide)]; exact h5_6
  have h6_7 : a7.eval (.tmp 6) = .int .i64 (bs.length : Int) := by rw [ha, pne _ _ _ _ (by decide), pne _ _ _ _ (by decide), pne _ _ _ _ (by decide)]; exact h6_6
  have h7_7 : a7.eval (.tmp 7) = .slice (some ⟨tb, 0, none⟩) 5 5 := by rw [ha, pne _ _ _ _ (by decide), pne _ _ _ _ (by decide), pne _ _ _ _ (by decide)]; exact h7_6
  have h194_7 : a7.eval (.tmp 194) = .bool (decide (f = 23)) := by rw [ha, aI _ _ _ _ (by (try simp only [aE]); omega), if_pos rfl]
  clear ha h2_6 h4_6 h5_6 h6_6 h7_6 z6 d6
  by_cases hf23 : f = 23
  ·rw [decide_eq_true hf23] at h194_7
   refine wp_cond_true h194_7 ?_
   have hf0 : (f : Int) = 23 := by omega
   refine wp_seq (aF3 a7 _ W0 29 b o c bs _ _ _ _ _ z7 hl2 hx hb hcc h5_7 h6_7 rfl rfl rfl rfl rfl (fun u W hW hu => ?_))
   show Code.wp Tryz.prog _ _ (over a7 bQ u) W
   obtain ⟨a8, ha⟩ : ∃ x, x = over a7 bQ u := ⟨_, rfl⟩
   rw [← ha]
   have z8 : 244 ≤ a8.tmps.size := by rw [ha, dG]; exact z7
   have d8 : a8.defers = [] := by rw [ha, bP]; exact d7
   have h2_8 : a8.eval (.tmp 2) = .pointer (some ⟨b2, 0, none⟩) := by rw [ha]; exact (aQ a7 bQ u 2 (by decide) (by omega)).trans h2_7
   have h4_8 : a8.eval (.tmp 4) = .int .i64 (f : Int) := by rw [ha]; exact (aQ a7 bQ u 4 (by decide) (by omega)).trans h4_7
   have h5_8 : a8.eval (.tmp 5) = .slice (some ⟨b, o, none⟩) bs.length c := by rw [ha]; exact (aQ a7 bQ u 5 (by decide) (by omega)).trans h5_7
   have h6_8 : a8.eval (.tmp 6) = .int .i64 (bs.length : Int) := by rw [ha]; exact (aQ a7 bQ u 6 (by decide) (by omega)).trans h6_7
   have h7_8 : a8.eval (.tmp 7) = .slice (some ⟨tb, 0, none⟩) 5 5 := by rw [ha]; exact (aQ a7 bQ u 7 (by decide) (by omega)).trans h7_7
   have h227_8 : a8.eval (.tmp 227) = .bool (decide (8 ≤ bs.length ∧ bS (wAt bs 1) 125 = true ∧ bS (wAt bs 3) 121 = true ∧ bs.length = 9 + 2 * wAt bs 3 ∧ bs.getD 8 0 = ((2 * wAt bs 3 : Nat) : Int))) := by rw [ha]; exact (dB a7 bQ u 227 (by decide) (by omega)).trans (hu.trans (congrArg Value.bool (aGe bs)))
   clear ha h2_7 h4_7 h5_7 h6_7 h7_7 z7 d7
   by_cases hok : 8 ≤ bs.length ∧ bS (wAt bs 1) 125 = true ∧ bS (wAt bs 3) 121 = true ∧ bs.length = 9 + 2 * wAt bs 3 ∧ bs.getD 8 0 = ((2 * wAt bs 3 : Nat) : Int)
   ·rw [decide_eq_true hok] at h227_8
    have hp : aO (f : Int) bs = .inr ⟨23, 3, wAt bs 0, wAt bs 1, wAt bs 2, wAt bs 3, bY (bs.drop 9) (wAt bs 3), 0, []⟩ := by rw [hf0]; exact (show cM 23 bs = _ from if_pos hok)
    refine wp_cond_true h227_8 ?_
    have hrW := (hW.block _ (Array.getElem?_eq_some_iff.1 hrow).1).trans hrow
    refine wp_seq (aF2 a8 _ W 30 b o c b2 bs z8 hl2 hx (Nat.lt_of_lt_of_le hb hW.size) hnb (fun i hi => (hW.cell (by exact hb)).trans (hcc i hi)) h5_8 h2_8 hrW hc hok.2.2.2.1 (dX.1 hok.2.2.1).1 (dX.1 hok.2.2.1).2 (fun u W' hS hu => ?_))
    refine wp_ret (hOK _ hp _ W' ?_ ?_ ?_ ?_)
    ·rw [bP]; exact d8
    ·exact (aQ a8 jU u 2 (by decide) (by omega)).trans h2_8
    ·exact (dB a8 jU u 3 (by decide) (by omega)).trans hu
    ·exact gZ hW hS rfl rfl rfl rfl
   ·rw [decide_eq_false hok] at h227_8
    refine wp_cond_false h227_8 (wp_skip ?_)
    exact hBAD (by rw [hf0]; exact (show cM 23 bs = _ from if_neg hok)) _ W z8 d8 h2_8 hW
  rw [decide_eq_false hf23] at h194_7
  refine wp_cond_false h194_7 ?_
  have hp : aO (f : Int) bs = .inl 1 := by
   unfold aO
   rw [if_neg (by omega), if_neg (by omega), if_neg (by omega), if_neg (by omega), if_neg (by omega), if_neg (by omega), if_neg (by omega), if_neg (by omega), if_neg (by omega), if_neg (by omega)]
  refine wp_seq (aAa a7 _ W0 5 19 b2 1 _ _ _ _ _ _ _ _ _ (by omega) (by decide) h2_7 hrow (fun W' hch hr' => ?_))
  refine wp_ret ?_
  show Q .ret _ W'
  rw [hQ, hp]
  refine aAb w W' b2 _ 1 (gL hB hb2 hch) hr' (by rw [aK, aK]; exact d7) ?_ ?_
  ·rw [aI _ _ _ _ (by rw [aE]; omega), if_neg (by decide), aI _ _ _ _ (by omega), if_neg (by decide)]
   exact h2_7
  ·rw [aI _ _ _ _ (by rw [aE]; omega), if_pos rfl]
end Go.Proofs.YtfekelmldebplaaGreatDoor
