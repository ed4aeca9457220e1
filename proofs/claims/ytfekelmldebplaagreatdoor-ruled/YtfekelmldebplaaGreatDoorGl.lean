import Derived.Test.YtfekelmldebplaaGreatDoorGh
namespace Go.Proofs.YtfekelmldebplaaGreatDoor
open Go.RowKit Go.MuLone

theorem Does.le {P : Program} {o : Oper} {A : Act} {w : World} {R : Value → World → Prop} {Le Le2 : World → World → Prop} {S : World → Prop} {Q : Exit → Act → World → Prop} (h : Does P o A w R Le S Q) (hl : ∀ w', Le w w' → Le2 w w') : Does P o A w R Le2 S Q :=
  ⟨Oper.wp_mono (by
    rintro a' w' ⟨v, e, h1, h2, h3⟩
    exact ⟨v, e, h1, hl _ h2, h3⟩) h.go⟩
theorem callf_get (args : Array Value) (w : World) : (callFunc 19 args).run Tryz.prog w = .ok (.enter 19 args) w := by
  simp [go_sem]
theorem callf_ans (args : Array Value) (w : World) : (callFunc 28 args).run Tryz.prog w = .ok (.enter 28 args) w := by
  simp [go_sem]
def opsR17 : List Oper := [
  { dst := some 150, op := Op.buildSlice 37 1 #[(0, Operand.const (Value.int IntKind.u8 6))], type := 37, pos := "turns.go:76", after := #[], guard := none },
  { dst := some 151, op := Op.move (Operand.tmp 24), type := 3, pos := "turns.go:76", after := #[], guard := none },
  { dst := some 152, op := Op.call { callee := Callee.value (Operand.func 25), args := #[Operand.tmp 151], argTypes := #[3] }, type := 37, pos := "turns.go:76", after := #[{ on := 1, ground := Ground.data }], guard := none },
  { dst := some 153, op := Op.buildSlice 37 2 #[(0, Operand.const (Value.int IntKind.u8 0)), (1, Operand.const (Value.int IntKind.u8 5))], type := 37, pos := "turns.go:76", after := #[], guard := none },
  { dst := some 154, op := Op.buildSlice 45 3 #[(0, Operand.tmp 150), (1, Operand.tmp 152), (2, Operand.tmp 153)], type := 45, pos := "turns.go:76", after := #[{ on := 0, ground := Ground.data }, { on := 2, ground := Ground.data }, { on := 3, ground := Ground.data }], guard := none },
  { dst := some 155, op := Op.call { callee := Callee.value (Operand.func 24), args := #[Operand.tmp 154], argTypes := #[45] }, type := 37, pos := "turns.go:76", after := #[{ on := 4, ground := Ground.data }, { on := 2, ground := Ground.chain }], guard := none },
  { dst := some 30, op := Op.assign (Operand.tmp 155), type := 37, pos := "turns.go:76", after := #[{ on := 5, ground := Ground.data }, { on := 5, ground := Ground.chain }, { on := 0, ground := Ground.phase }, { on := 1, ground := Ground.phase }, { on := 2, ground := Ground.phase }, { on := 3, ground := Ground.phase }, { on := 4, ground := Ground.phase }, { on := 5, ground := Ground.phase }], guard := none }]
def dsR17 : List (Option Nat) := [some 150, some 151, some 152, some 153, some 154, some 155, some 30]
set_option maxRecDepth 10000 in
set_option maxHeartbeats 1000000 in
theorem ruled_r17 (a : Act) (Q : Exit → Act → World → Prop) (w : World) (id : Nat) (c : Nat) (hsz : 360 ≤ a.tmps.size)
    (B : Nat) (S0 : World → Prop) (hS0 : S0 w) (hSb : ∀ W W', S0 W → Below W.heap.size W W' → S0 W') (hSz : ∀ W, S0 W → B ≤ W.heap.size)
    (hc : c ≤ 100) (h24 : a.eval (.tmp 24) = .int .i64 (c : Int))
    
    (hend : ∀ u W, S0 W → Fact.ok B (.bytes (6 :: b6 c 5)) (u 30) W → Q .normal (over a dsR17 u) W) : (Code.region id opsR17.toArray false).wp Tryz.prog Q a w := by
  have ein : ∀ u k, some k ∈ dsR17 → k < 360 → (over a dsR17 u).eval (.tmp k) = u k := fun u k h1 h2 => eval_in a dsR17 u k h1 (by omega)
  have eout : ∀ u k, some k ∉ dsR17 → k < 360 → (over a dsR17 u).eval (.tmp k) = a.eval (.tmp k) := fun u k h1 h2 => eval_out a dsR17 u k h1 (by omega)
  have ef : ∀ u f, (over a dsR17 u).eval (.func f) = .func (.func f) #[] #[] := fun u f => by simp [Act.eval]
  refine wp_region_factsG dsR17 (fun _ => S0) (RF B [.bytes [6], .val (.int .i64 (c : Int)), .bytes (wd (c : Int)), .bytes [0, 5], .row [[6], wd (c : Int), [0, 5]], .bytes (6 :: b6 c 5), .bytes (6 :: b6 c 5)]) (by decide) rfl hS0 [true, true, true, true, true, true, true] ?_ (fun u W hS hR => hend u W hS (hR 6 (by decide)))
  unfold opsR17
  refine StepAllG.cons rfl (fun u W hS hd => ?_) (StepAllG.cons rfl (fun u W hS hd => ?_) (StepAllG.cons rfl (fun u W hS hd => ?_) (StepAllG.cons rfl (fun u W hS hd => ?_) (StepAllG.cons rfl (fun u W hS hd => ?_) (StepAllG.cons rfl (fun u W hS hd => ?_) (StepAllG.cons rfl (fun u W hS hd => ?_) (trivial)))))))
  · have hS : S0 W := hS
    refine DoesG.plain rfl ?_
    exact step_value _ rfl (run_bytes1 _ 6 rfl) (Fact.fresh W [6] B (hSz W hS) (by simp)) (KeepTo.le (LeB.new _ _)) (hSb _ _ hS (rule_new _ _))
  · have hS : S0 W := hS
    refine DoesG.plain rfl ?_
    exact step_value _ rfl (run_move _) ((eout u 24 (by decide) (by omega)).trans h24) KeepTo.refl hS
  · have hS : S0 W := hS
    refine DoesG.plain rfl ?_
    have e1 : u 151 = (.int .i64 (c : Int)) := hd 1 (by decide)
    exact (step_word _ _ _ hS (hSz W hS) hSb ((ein u 151 (by decide) (by omega)).trans e1) (by omega) (by omega) (fun _ _ h => h)).le (fun _ h => KeepTo.le h)
  · have hS : S0 W := hS
    refine DoesG.plain rfl ?_
    exact step_value _ rfl (run_bytes2 _ _ 0 5 rfl rfl) (Fact.fresh W [0, 5] B (hSz W hS) (by simp)) (KeepTo.le (LeB.new _ _)) (hSb _ _ hS (rule_new _ _))
  · have hS : S0 W := hS
    refine DoesG.plain rfl ?_
    have e0 : Fact.ok B (.bytes [6]) (u 150) W := hd 0 (by decide)
    have e2 : Fact.ok B (.bytes (wd (c : Int))) (u 152) W := hd 2 (by decide)
    have e3 : Fact.ok B (.bytes [0, 5]) (u 153) W := hd 3 (by decide)
    obtain ⟨⟨a0, n0, c0, q0⟩, o0⟩ := e0
    rw [q0] at o0
    obtain ⟨⟨a1, n1, c1, q1⟩, o1⟩ := e2
    rw [q1] at o1
    obtain ⟨⟨a2, n2, c2, q2⟩, o2⟩ := e3
    rw [q2] at o2
    exact step_value _ rfl (run_row3 _ _ _ a0 a1 a2 n0 c0 n1 c1 n2 c2 ((ein u 150 (by decide) (by omega)).trans q0) ((ein u 152 (by decide) (by omega)).trans q1) ((ein u 153 (by decide) (by omega)).trans q2)) (Fact.newRow W [.slice a0 n0 c0, .slice a1 n1 c1, .slice a2 n2 c2] [[6], wd (c : Int), [0, 5]] B rfl (fun i hi => by
      match i, hi with
      | 0, _ => exact o0
      | 1, _ => exact o1
      | 2, _ => exact o2)) (KeepTo.le (LeB.new _ _)) (hSb _ _ hS (rule_new _ _))
  · have hS : S0 W := hS
    refine DoesG.plain rfl ?_
    have e4 : Fact.ok B (.row [[6], wd (c : Int), [0, 5]]) (u 154) W := hd 4 (by decide)
    refine (step_join _ _ [[6], wd (c : Int), [0, 5]] _ hS (hSz W hS) hSb (by rw [ein u 154 (by decide) (by omega)]; exact e4) (fun i hi => by
      match i, hi with
      | 0, _ => exact (by simp)
      | 1, _ => exact (by simp [wd])
      | 2, _ => exact (by simp)) (by simp) (by simp [wd]) (by simp [b6, wd]) (fun _ _ h => h)).le (fun _ h => KeepTo.le h)
  · have hS : S0 W := hS
    refine DoesG.plain rfl ?_
    have e5 : Fact.ok B (.bytes (6 :: b6 c 5)) (u 155) W := hd 5 (by decide)
    exact step_value _ rfl (run_assign _) (show Fact.ok B (.bytes (6 :: b6 c 5)) _ W by rw [ein u 155 (by decide) (by omega)]; exact e5) KeepTo.refl hS

def opsR18 : List Oper := [
  { dst := some 156, op := Op.move (Operand.tmp 20), type := 28, pos := "turns.go:77", after := #[], guard := none },
  { dst := some 157, op := Op.move (Operand.tmp 30), type := 37, pos := "turns.go:77", after := #[], guard := none },
  { dst := some 158, op := Op.move (Operand.tmp 29), type := 4, pos := "turns.go:77", after := #[], guard := none },
  { dst := some 159, op := Op.move (Operand.tmp 30), type := 37, pos := "turns.go:77", after := #[], guard := none },
  { dst := some 160, op := Op.call { callee := Callee.value (Operand.func 30), args := #[Operand.tmp 158, Operand.const (Value.int IntKind.u8 6), Operand.tmp 159], argTypes := #[4, 5, 37] }, type := 37, pos := "turns.go:77", after := #[{ on := 2, ground := Ground.data }, { on := 3, ground := Ground.data }], guard := none },
  { dst := some 161, op := Op.call { callee := Callee.value (Operand.func 23), args := #[Operand.tmp 156, Operand.const (Value.int IntKind.i64 1), Operand.tmp 157, Operand.tmp 160], argTypes := #[28, 3, 37, 37] }, type := 4, pos := "turns.go:77", after := #[{ on := 0, ground := Ground.data }, { on := 1, ground := Ground.data }, { on := 4, ground := Ground.data }, { on := 4, ground := Ground.chain }], guard := none },
  { dst := some 31, op := Op.assign (Operand.tmp 161), type := 4, pos := "turns.go:77", after := #[{ on := 5, ground := Ground.data }, { on := 5, ground := Ground.chain }, { on := 0, ground := Ground.phase }, { on := 1, ground := Ground.phase }, { on := 2, ground := Ground.phase }, { on := 3, ground := Ground.phase }, { on := 4, ground := Ground.phase }, { on := 5, ground := Ground.phase }], guard := none }]
def dsR18 : List (Option Nat) := [some 156, some 157, some 158, some 159, some 160, some 161, some 31]
set_option maxRecDepth 10000 in
set_option maxHeartbeats 1000000 in
theorem ruled_r18 (a : Act) (Q : Exit → Act → World → Prop) (w : World) (id : Nat) (rb c : Nat) (o : Bool) (hsz : 360 ≤ a.tmps.size)
    (B : Nat) (S0 S1 : World → Prop) (hS0 : S0 w) (hSb : ∀ W W', S0 W → Below W.heap.size W W' → S0 W') (hSz : ∀ W, S0 W → B ≤ W.heap.size)
    (h20 : a.eval (.tmp 20) = .pointer (some ⟨rb, 0, none⟩)) (h29 : a.eval (.tmp 29) = .bool o) (h30 : ∀ W, S0 W → Fact.ok B (.bytes (6 :: b6 c 5)) (a.eval (.tmp 30)) W)
    (hdone : ∀ W v x, S0 W → Owns W B v (6 :: b6 c 5) → Owns W B x (if o then 6 :: b6 c 5 else excB 6 4) → Calls Tryz.prog 23 #[.pointer (some ⟨rb, 0, none⟩), .int .i64 1, v, x] W fun r w' => r = .returned (.bool true) ∧ S1 w' ∧ LeB W w')
    (hend : ∀ u W, S1 W → u 31 = .bool true → Q .normal (over a dsR18 u) W) : (Code.region id opsR18.toArray false).wp Tryz.prog Q a w := by
  have ein : ∀ u k, some k ∈ dsR18 → k < 360 → (over a dsR18 u).eval (.tmp k) = u k := fun u k h1 h2 => eval_in a dsR18 u k h1 (by omega)
  have eout : ∀ u k, some k ∉ dsR18 → k < 360 → (over a dsR18 u).eval (.tmp k) = a.eval (.tmp k) := fun u k h1 h2 => eval_out a dsR18 u k h1 (by omega)
  have ef : ∀ u f, (over a dsR18 u).eval (.func f) = .func (.func f) #[] #[] := fun u f => by simp [Act.eval]
  refine wp_region_factsG dsR18 (S2 5 S0 S1) (RF B [.val (.pointer (some ⟨rb, 0, none⟩)), .bytes (6 :: b6 c 5), .val (.bool o), .bytes (6 :: b6 c 5), .bytes (if o then 6 :: b6 c 5 else excB 6 4), .val (.bool true), .val (.bool true)]) (by decide) rfl hS0 [true, true, true, true, true, true, true] ?_ (fun u W hS hR => hend u W hS (hR 6 (by decide)))
  unfold opsR18
  refine StepAllG.cons rfl (fun u W hS hd => ?_) (StepAllG.cons rfl (fun u W hS hd => ?_) (StepAllG.cons rfl (fun u W hS hd => ?_) (StepAllG.cons rfl (fun u W hS hd => ?_) (StepAllG.cons rfl (fun u W hS hd => ?_) (StepAllG.cons rfl (fun u W hS hd => ?_) (StepAllG.cons rfl (fun u W hS hd => ?_) (trivial)))))))
  · have hS : S0 W := hS
    refine DoesG.plain rfl ?_
    exact step_value _ rfl (run_move _) ((eout u 20 (by decide) (by omega)).trans h20) KeepTo.refl hS
  · have hS : S0 W := hS
    refine DoesG.plain rfl ?_
    exact step_value _ rfl (run_move _) (show Fact.ok B (.bytes (6 :: b6 c 5)) _ W by rw [eout u 30 (by decide) (by omega)]; exact h30 W hS) KeepTo.refl hS
  · have hS : S0 W := hS
    refine DoesG.plain rfl ?_
    exact step_value _ rfl (run_move _) ((eout u 29 (by decide) (by omega)).trans h29) KeepTo.refl hS
  · have hS : S0 W := hS
    refine DoesG.plain rfl ?_
    exact step_value _ rfl (run_move _) (show Fact.ok B (.bytes (6 :: b6 c 5)) _ W by rw [eout u 30 (by decide) (by omega)]; exact h30 W hS) KeepTo.refl hS
  · have hS : S0 W := hS
    refine DoesG.plain rfl ?_
    have e2 : u 158 = (.bool o) := hd 2 (by decide)
    have e3 : Fact.ok B (.bytes (6 :: b6 c 5)) (u 159) W := hd 3 (by decide)
    have hj := told_any o 6 B (u 159) (6 :: b6 c 5) W (hSz W hS) e3
    rw [← e2, ← ein u 158 (by decide) (by omega), ← ein u 159 (by decide) (by omega)] at hj
    refine step_enter _ rfl (run_call3 _ _ _ _ _ (ef u _) callf_told) _ hj ?_
    rintro e w' ⟨y, rfl, hy, hb⟩
    exact ⟨_, rfl, hy, KeepTo.le (LeB.of_below hb), hSb _ _ hS hb⟩
  · have hS : S0 W := hS
    refine DoesG.plain rfl ?_
    have e0 : u 156 = (.pointer (some ⟨rb, 0, none⟩)) := hd 0 (by decide)
    have e1 : Fact.ok B (.bytes (6 :: b6 c 5)) (u 157) W := hd 1 (by decide)
    have e4 : Fact.ok B (.bytes (if o then 6 :: b6 c 5 else excB 6 4)) (u 160) W := hd 4 (by decide)
    have hj := hdone W (u 157) (u 160) hS e1.2 e4.2
    have e0p : u 156 = .pointer (some ⟨rb, 0, none⟩) := e0
    rw [← e0p, ← ein u 156 (by decide) (by omega), ← ein u 157 (by decide) (by omega), ← ein u 160 (by decide) (by omega)] at hj
    refine step_enter _ rfl (run_call4 _ _ _ _ _ _ (ef u _) callf_done) _ hj ?_
    rintro e w' ⟨rfl, hS', hL⟩
    exact ⟨_, rfl, rfl, KeepTo.le hL, hS'⟩
  · have hS : S1 W := hS
    refine DoesG.plain rfl ?_
    have e5 : u 161 = (.bool true) := hd 5 (by decide)
    exact step_value _ rfl (run_assign _) ((ein u 161 (by decide) (by omega)).trans e5) KeepTo.refl hS

def opsR26 : List Oper := [
  { dst := some 204, op := Op.buildSlice 37 1 #[(0, Operand.const (Value.int IntKind.u8 22))], type := 37, pos := "turns.go:87", after := #[], guard := none },
  { dst := some 205, op := Op.move (Operand.tmp 24), type := 3, pos := "turns.go:87", after := #[], guard := none },
  { dst := some 206, op := Op.call { callee := Callee.value (Operand.func 25), args := #[Operand.tmp 205], argTypes := #[3] }, type := 37, pos := "turns.go:87", after := #[{ on := 1, ground := Ground.data }], guard := none },
  { dst := some 207, op := Op.buildSlice 37 4 #[(0, Operand.const (Value.int IntKind.u8 0)), (1, Operand.const (Value.int IntKind.u8 0)), (2, Operand.const (Value.int IntKind.u8 0)), (3, Operand.const (Value.int IntKind.u8 0))], type := 37, pos := "turns.go:87", after := #[], guard := none },
  { dst := some 208, op := Op.buildSlice 45 3 #[(0, Operand.tmp 204), (1, Operand.tmp 206), (2, Operand.tmp 207)], type := 45, pos := "turns.go:87", after := #[{ on := 0, ground := Ground.data }, { on := 2, ground := Ground.data }, { on := 3, ground := Ground.data }], guard := none },
  { dst := some 209, op := Op.call { callee := Callee.value (Operand.func 24), args := #[Operand.tmp 208], argTypes := #[45] }, type := 37, pos := "turns.go:87", after := #[{ on := 4, ground := Ground.data }, { on := 2, ground := Ground.chain }], guard := none },
  { dst := some 36, op := Op.assign (Operand.tmp 209), type := 37, pos := "turns.go:87", after := #[{ on := 5, ground := Ground.data }, { on := 5, ground := Ground.chain }, { on := 0, ground := Ground.phase }, { on := 1, ground := Ground.phase }, { on := 2, ground := Ground.phase }, { on := 3, ground := Ground.phase }, { on := 4, ground := Ground.phase }, { on := 5, ground := Ground.phase }], guard := none }]
def dsR26 : List (Option Nat) := [some 204, some 205, some 206, some 207, some 208, some 209, some 36]
set_option maxRecDepth 10000 in
set_option maxHeartbeats 1000000 in
theorem ruled_r26 (a : Act) (Q : Exit → Act → World → Prop) (w : World) (id : Nat) (c : Nat) (hsz : 360 ≤ a.tmps.size)
    (B : Nat) (S0 : World → Prop) (hS0 : S0 w) (hSb : ∀ W W', S0 W → Below W.heap.size W W' → S0 W') (hSz : ∀ W, S0 W → B ≤ W.heap.size)
    (hc : c ≤ 100) (h24 : a.eval (.tmp 24) = .int .i64 (c : Int))
    
    (hend : ∀ u W, S0 W → Fact.ok B (.bytes (22 :: b22 c 0 0)) (u 36) W → Q .normal (over a dsR26 u) W) : (Code.region id opsR26.toArray false).wp Tryz.prog Q a w := by
  have ein : ∀ u k, some k ∈ dsR26 → k < 360 → (over a dsR26 u).eval (.tmp k) = u k := fun u k h1 h2 => eval_in a dsR26 u k h1 (by omega)
  have eout : ∀ u k, some k ∉ dsR26 → k < 360 → (over a dsR26 u).eval (.tmp k) = a.eval (.tmp k) := fun u k h1 h2 => eval_out a dsR26 u k h1 (by omega)
  have ef : ∀ u f, (over a dsR26 u).eval (.func f) = .func (.func f) #[] #[] := fun u f => by simp [Act.eval]
  refine wp_region_factsG dsR26 (fun _ => S0) (RF B [.bytes [22], .val (.int .i64 (c : Int)), .bytes (wd (c : Int)), .bytes [0, 0, 0, 0], .row [[22], wd (c : Int), [0, 0, 0, 0]], .bytes (22 :: b22 c 0 0), .bytes (22 :: b22 c 0 0)]) (by decide) rfl hS0 [true, true, true, true, true, true, true] ?_ (fun u W hS hR => hend u W hS (hR 6 (by decide)))
  unfold opsR26
  refine StepAllG.cons rfl (fun u W hS hd => ?_) (StepAllG.cons rfl (fun u W hS hd => ?_) (StepAllG.cons rfl (fun u W hS hd => ?_) (StepAllG.cons rfl (fun u W hS hd => ?_) (StepAllG.cons rfl (fun u W hS hd => ?_) (StepAllG.cons rfl (fun u W hS hd => ?_) (StepAllG.cons rfl (fun u W hS hd => ?_) (trivial)))))))
  · have hS : S0 W := hS
    refine DoesG.plain rfl ?_
    exact step_value _ rfl (run_bytes1 _ 22 rfl) (Fact.fresh W [22] B (hSz W hS) (by simp)) (KeepTo.le (LeB.new _ _)) (hSb _ _ hS (rule_new _ _))
  · have hS : S0 W := hS
    refine DoesG.plain rfl ?_
    exact step_value _ rfl (run_move _) ((eout u 24 (by decide) (by omega)).trans h24) KeepTo.refl hS
  · have hS : S0 W := hS
    refine DoesG.plain rfl ?_
    have e1 : u 205 = (.int .i64 (c : Int)) := hd 1 (by decide)
    exact (step_word _ _ _ hS (hSz W hS) hSb ((ein u 205 (by decide) (by omega)).trans e1) (by omega) (by omega) (fun _ _ h => h)).le (fun _ h => KeepTo.le h)
  · have hS : S0 W := hS
    refine DoesG.plain rfl ?_
    exact step_value _ rfl (run_bytes4 _ _ _ _ 0 0 0 0 rfl rfl rfl rfl) (Fact.fresh W [0, 0, 0, 0] B (hSz W hS) (by simp)) (KeepTo.le (LeB.new _ _)) (hSb _ _ hS (rule_new _ _))
  · have hS : S0 W := hS
    refine DoesG.plain rfl ?_
    have e0 : Fact.ok B (.bytes [22]) (u 204) W := hd 0 (by decide)
    have e2 : Fact.ok B (.bytes (wd (c : Int))) (u 206) W := hd 2 (by decide)
    have e3 : Fact.ok B (.bytes [0, 0, 0, 0]) (u 207) W := hd 3 (by decide)
    obtain ⟨⟨a0, n0, c0, q0⟩, o0⟩ := e0
    rw [q0] at o0
    obtain ⟨⟨a1, n1, c1, q1⟩, o1⟩ := e2
    rw [q1] at o1
    obtain ⟨⟨a2, n2, c2, q2⟩, o2⟩ := e3
    rw [q2] at o2
    exact step_value _ rfl (run_row3 _ _ _ a0 a1 a2 n0 c0 n1 c1 n2 c2 ((ein u 204 (by decide) (by omega)).trans q0) ((ein u 206 (by decide) (by omega)).trans q1) ((ein u 207 (by decide) (by omega)).trans q2)) (Fact.newRow W [.slice a0 n0 c0, .slice a1 n1 c1, .slice a2 n2 c2] [[22], wd (c : Int), [0, 0, 0, 0]] B rfl (fun i hi => by
      match i, hi with
      | 0, _ => exact o0
      | 1, _ => exact o1
      | 2, _ => exact o2)) (KeepTo.le (LeB.new _ _)) (hSb _ _ hS (rule_new _ _))
  · have hS : S0 W := hS
    refine DoesG.plain rfl ?_
    have e4 : Fact.ok B (.row [[22], wd (c : Int), [0, 0, 0, 0]]) (u 208) W := hd 4 (by decide)
    refine (step_join _ _ [[22], wd (c : Int), [0, 0, 0, 0]] _ hS (hSz W hS) hSb (by rw [ein u 208 (by decide) (by omega)]; exact e4) (fun i hi => by
      match i, hi with
      | 0, _ => exact (by simp)
      | 1, _ => exact (by simp [wd])
      | 2, _ => exact (by simp)) (by simp) (by simp [wd]) (by simp [b22, wd]) (fun _ _ h => h)).le (fun _ h => KeepTo.le h)
  · have hS : S0 W := hS
    refine DoesG.plain rfl ?_
    have e5 : Fact.ok B (.bytes (22 :: b22 c 0 0)) (u 209) W := hd 5 (by decide)
    exact step_value _ rfl (run_assign _) (show Fact.ok B (.bytes (22 :: b22 c 0 0)) _ W by rw [ein u 209 (by decide) (by omega)]; exact e5) KeepTo.refl hS

def opsR27 : List Oper := [
  { dst := some 210, op := Op.move (Operand.tmp 20), type := 28, pos := "turns.go:88", after := #[], guard := none },
  { dst := some 211, op := Op.move (Operand.tmp 36), type := 37, pos := "turns.go:88", after := #[], guard := none },
  { dst := some 212, op := Op.move (Operand.tmp 35), type := 4, pos := "turns.go:88", after := #[], guard := none },
  { dst := some 213, op := Op.move (Operand.tmp 36), type := 37, pos := "turns.go:88", after := #[], guard := none },
  { dst := some 214, op := Op.call { callee := Callee.value (Operand.func 30), args := #[Operand.tmp 212, Operand.const (Value.int IntKind.u8 22), Operand.tmp 213], argTypes := #[4, 5, 37] }, type := 37, pos := "turns.go:88", after := #[{ on := 2, ground := Ground.data }, { on := 3, ground := Ground.data }], guard := none },
  { dst := some 215, op := Op.call { callee := Callee.value (Operand.func 23), args := #[Operand.tmp 210, Operand.const (Value.int IntKind.i64 1), Operand.tmp 211, Operand.tmp 214], argTypes := #[28, 3, 37, 37] }, type := 4, pos := "turns.go:88", after := #[{ on := 0, ground := Ground.data }, { on := 1, ground := Ground.data }, { on := 4, ground := Ground.data }, { on := 4, ground := Ground.chain }], guard := none },
  { dst := some 28, op := Op.assign (Operand.tmp 215), type := 4, pos := "turns.go:88", after := #[{ on := 5, ground := Ground.data }, { on := 5, ground := Ground.chain }, { on := 0, ground := Ground.phase }, { on := 1, ground := Ground.phase }, { on := 2, ground := Ground.phase }, { on := 3, ground := Ground.phase }, { on := 4, ground := Ground.phase }, { on := 5, ground := Ground.phase }], guard := none }]
def dsR27 : List (Option Nat) := [some 210, some 211, some 212, some 213, some 214, some 215, some 28]
set_option maxRecDepth 10000 in
set_option maxHeartbeats 1000000 in
theorem ruled_r27 (a : Act) (Q : Exit → Act → World → Prop) (w : World) (id : Nat) (rb c : Nat) (o : Bool) (hsz : 360 ≤ a.tmps.size)
    (B : Nat) (S0 S1 : World → Prop) (hS0 : S0 w) (hSb : ∀ W W', S0 W → Below W.heap.size W W' → S0 W') (hSz : ∀ W, S0 W → B ≤ W.heap.size)
    (h20 : a.eval (.tmp 20) = .pointer (some ⟨rb, 0, none⟩)) (h35 : a.eval (.tmp 35) = .bool o) (h36 : ∀ W, S0 W → Fact.ok B (.bytes (22 :: b22 c 0 0)) (a.eval (.tmp 36)) W)
    (hdone : ∀ W v x, S0 W → Owns W B v (22 :: b22 c 0 0) → Owns W B x (if o then 22 :: b22 c 0 0 else excB 22 4) → Calls Tryz.prog 23 #[.pointer (some ⟨rb, 0, none⟩), .int .i64 1, v, x] W fun r w' => r = .returned (.bool true) ∧ S1 w' ∧ LeB W w')
    (hend : ∀ u W, S1 W → u 28 = .bool true → Q .normal (over a dsR27 u) W) : (Code.region id opsR27.toArray false).wp Tryz.prog Q a w := by
  have ein : ∀ u k, some k ∈ dsR27 → k < 360 → (over a dsR27 u).eval (.tmp k) = u k := fun u k h1 h2 => eval_in a dsR27 u k h1 (by omega)
  have eout : ∀ u k, some k ∉ dsR27 → k < 360 → (over a dsR27 u).eval (.tmp k) = a.eval (.tmp k) := fun u k h1 h2 => eval_out a dsR27 u k h1 (by omega)
  have ef : ∀ u f, (over a dsR27 u).eval (.func f) = .func (.func f) #[] #[] := fun u f => by simp [Act.eval]
  refine wp_region_factsG dsR27 (S2 5 S0 S1) (RF B [.val (.pointer (some ⟨rb, 0, none⟩)), .bytes (22 :: b22 c 0 0), .val (.bool o), .bytes (22 :: b22 c 0 0), .bytes (if o then 22 :: b22 c 0 0 else excB 22 4), .val (.bool true), .val (.bool true)]) (by decide) rfl hS0 [true, true, true, true, true, true, true] ?_ (fun u W hS hR => hend u W hS (hR 6 (by decide)))
  unfold opsR27
  refine StepAllG.cons rfl (fun u W hS hd => ?_) (StepAllG.cons rfl (fun u W hS hd => ?_) (StepAllG.cons rfl (fun u W hS hd => ?_) (StepAllG.cons rfl (fun u W hS hd => ?_) (StepAllG.cons rfl (fun u W hS hd => ?_) (StepAllG.cons rfl (fun u W hS hd => ?_) (StepAllG.cons rfl (fun u W hS hd => ?_) (trivial)))))))
  · have hS : S0 W := hS
    refine DoesG.plain rfl ?_
    exact step_value _ rfl (run_move _) ((eout u 20 (by decide) (by omega)).trans h20) KeepTo.refl hS
  · have hS : S0 W := hS
    refine DoesG.plain rfl ?_
    exact step_value _ rfl (run_move _) (show Fact.ok B (.bytes (22 :: b22 c 0 0)) _ W by rw [eout u 36 (by decide) (by omega)]; exact h36 W hS) KeepTo.refl hS
  · have hS : S0 W := hS
    refine DoesG.plain rfl ?_
    exact step_value _ rfl (run_move _) ((eout u 35 (by decide) (by omega)).trans h35) KeepTo.refl hS
  · have hS : S0 W := hS
    refine DoesG.plain rfl ?_
    exact step_value _ rfl (run_move _) (show Fact.ok B (.bytes (22 :: b22 c 0 0)) _ W by rw [eout u 36 (by decide) (by omega)]; exact h36 W hS) KeepTo.refl hS
  · have hS : S0 W := hS
    refine DoesG.plain rfl ?_
    have e2 : u 212 = (.bool o) := hd 2 (by decide)
    have e3 : Fact.ok B (.bytes (22 :: b22 c 0 0)) (u 213) W := hd 3 (by decide)
    have hj := told_any o 22 B (u 213) (22 :: b22 c 0 0) W (hSz W hS) e3
    rw [← e2, ← ein u 212 (by decide) (by omega), ← ein u 213 (by decide) (by omega)] at hj
    refine step_enter _ rfl (run_call3 _ _ _ _ _ (ef u _) callf_told) _ hj ?_
    rintro e w' ⟨y, rfl, hy, hb⟩
    exact ⟨_, rfl, hy, KeepTo.le (LeB.of_below hb), hSb _ _ hS hb⟩
  · have hS : S0 W := hS
    refine DoesG.plain rfl ?_
    have e0 : u 210 = (.pointer (some ⟨rb, 0, none⟩)) := hd 0 (by decide)
    have e1 : Fact.ok B (.bytes (22 :: b22 c 0 0)) (u 211) W := hd 1 (by decide)
    have e4 : Fact.ok B (.bytes (if o then 22 :: b22 c 0 0 else excB 22 4)) (u 214) W := hd 4 (by decide)
    have hj := hdone W (u 211) (u 214) hS e1.2 e4.2
    have e0p : u 210 = .pointer (some ⟨rb, 0, none⟩) := e0
    rw [← e0p, ← ein u 210 (by decide) (by omega), ← ein u 211 (by decide) (by omega), ← ein u 214 (by decide) (by omega)] at hj
    refine step_enter _ rfl (run_call4 _ _ _ _ _ _ (ef u _) callf_done) _ hj ?_
    rintro e w' ⟨rfl, hS', hL⟩
    exact ⟨_, rfl, rfl, KeepTo.le hL, hS'⟩
  · have hS : S1 W := hS
    refine DoesG.plain rfl ?_
    have e5 : u 215 = (.bool true) := hd 5 (by decide)
    exact step_value _ rfl (run_assign _) ((ein u 215 (by decide) (by omega)).trans e5) KeepTo.refl hS

def opsR33 : List Oper := [
  { dst := some 225, op := Op.move (Operand.tmp 20), type := 28, pos := "turns.go:93", after := #[], guard := none },
  { dst := some 226, op := Op.buildSlice 37 1 #[(0, Operand.const (Value.int IntKind.u8 16))], type := 37, pos := "turns.go:93", after := #[], guard := none },
  { dst := some 227, op := Op.move (Operand.tmp 24), type := 3, pos := "turns.go:93", after := #[], guard := none },
  { dst := some 228, op := Op.call { callee := Callee.value (Operand.func 25), args := #[Operand.tmp 227], argTypes := #[3] }, type := 37, pos := "turns.go:93", after := #[{ on := 2, ground := Ground.data }], guard := none },
  { dst := some 229, op := Op.move (Operand.tmp 25), type := 3, pos := "turns.go:93", after := #[], guard := none },
  { dst := some 230, op := Op.call { callee := Callee.value (Operand.func 25), args := #[Operand.tmp 229], argTypes := #[3] }, type := 37, pos := "turns.go:93", after := #[{ on := 4, ground := Ground.data }, { on := 3, ground := Ground.chain }], guard := none },
  { dst := some 231, op := Op.move (Operand.tmp 25), type := 3, pos := "turns.go:93", after := #[], guard := none },
  { dst := some 232, op := Op.binOp BinOp.mul 3 (Operand.const (Value.int IntKind.i64 2)) (Operand.tmp 231) 3, type := 3, pos := "turns.go:93", after := #[{ on := 6, ground := Ground.data }], guard := none },
  { dst := some 233, op := Op.convert 3 5 (Operand.tmp 232), type := 5, pos := "turns.go:93", after := #[{ on := 7, ground := Ground.data }], guard := none },
  { dst := some 234, op := Op.buildSlice 37 1 #[(0, Operand.tmp 233)], type := 37, pos := "turns.go:93", after := #[{ on := 8, ground := Ground.data }], guard := none },
  { dst := some 235, op := Op.move (Operand.tmp 37), type := 37, pos := "turns.go:93", after := #[], guard := none },
  { dst := some 236, op := Op.buildSlice 45 5 #[(0, Operand.tmp 226), (1, Operand.tmp 228), (2, Operand.tmp 230), (3, Operand.tmp 234), (4, Operand.tmp 235)], type := 45, pos := "turns.go:93", after := #[{ on := 1, ground := Ground.data }, { on := 3, ground := Ground.data }, { on := 5, ground := Ground.data }, { on := 9, ground := Ground.data }, { on := 10, ground := Ground.data }], guard := none },
  { dst := some 237, op := Op.call { callee := Callee.value (Operand.func 24), args := #[Operand.tmp 236], argTypes := #[45] }, type := 37, pos := "turns.go:93", after := #[{ on := 11, ground := Ground.data }, { on := 5, ground := Ground.chain }], guard := none },
  { dst := some 238, op := Op.move (Operand.tmp 27), type := 4, pos := "turns.go:93", after := #[], guard := none },
  { dst := some 239, op := Op.buildSlice 37 1 #[(0, Operand.const (Value.int IntKind.u8 16))], type := 37, pos := "turns.go:93", after := #[], guard := none },
  { dst := some 240, op := Op.move (Operand.tmp 24), type := 3, pos := "turns.go:93", after := #[], guard := none },
  { dst := some 241, op := Op.call { callee := Callee.value (Operand.func 25), args := #[Operand.tmp 240], argTypes := #[3] }, type := 37, pos := "turns.go:93", after := #[{ on := 15, ground := Ground.data }, { on := 12, ground := Ground.chain }], guard := none },
  { dst := some 242, op := Op.move (Operand.tmp 25), type := 3, pos := "turns.go:93", after := #[], guard := none },
  { dst := some 243, op := Op.call { callee := Callee.value (Operand.func 25), args := #[Operand.tmp 242], argTypes := #[3] }, type := 37, pos := "turns.go:93", after := #[{ on := 17, ground := Ground.data }, { on := 16, ground := Ground.chain }], guard := none },
  { dst := some 244, op := Op.buildSlice 45 3 #[(0, Operand.tmp 239), (1, Operand.tmp 241), (2, Operand.tmp 243)], type := 45, pos := "turns.go:93", after := #[{ on := 14, ground := Ground.data }, { on := 16, ground := Ground.data }, { on := 18, ground := Ground.data }], guard := none },
  { dst := some 245, op := Op.call { callee := Callee.value (Operand.func 24), args := #[Operand.tmp 244], argTypes := #[45] }, type := 37, pos := "turns.go:93", after := #[{ on := 19, ground := Ground.data }, { on := 18, ground := Ground.chain }], guard := none },
  { dst := some 246, op := Op.call { callee := Callee.value (Operand.func 30), args := #[Operand.tmp 238, Operand.const (Value.int IntKind.u8 16), Operand.tmp 245], argTypes := #[4, 5, 37] }, type := 37, pos := "turns.go:93", after := #[{ on := 13, ground := Ground.data }, { on := 20, ground := Ground.data }, { on := 20, ground := Ground.chain }], guard := none },
  { dst := some 247, op := Op.call { callee := Callee.value (Operand.func 23), args := #[Operand.tmp 225, Operand.const (Value.int IntKind.i64 1), Operand.tmp 237, Operand.tmp 246], argTypes := #[28, 3, 37, 37] }, type := 4, pos := "turns.go:93", after := #[{ on := 0, ground := Ground.data }, { on := 12, ground := Ground.data }, { on := 21, ground := Ground.data }, { on := 21, ground := Ground.chain }], guard := none },
  { dst := some 31, op := Op.assign (Operand.tmp 247), type := 4, pos := "turns.go:93", after := #[{ on := 22, ground := Ground.data }, { on := 22, ground := Ground.chain }, { on := 0, ground := Ground.phase }, { on := 1, ground := Ground.phase }, { on := 2, ground := Ground.phase }, { on := 3, ground := Ground.phase }, { on := 4, ground := Ground.phase }, { on := 5, ground := Ground.phase }, { on := 6, ground := Ground.phase }, { on := 7, ground := Ground.phase }, { on := 8, ground := Ground.phase }, { on := 9, ground := Ground.phase }, { on := 10, ground := Ground.phase }, { on := 11, ground := Ground.phase }, { on := 12, ground := Ground.phase }, { on := 13, ground := Ground.phase }, { on := 14, ground := Ground.phase }, { on := 15, ground := Ground.phase }, { on := 16, ground := Ground.phase }, { on := 17, ground := Ground.phase }, { on := 18, ground := Ground.phase }, { on := 19, ground := Ground.phase }, { on := 20, ground := Ground.phase }, { on := 21, ground := Ground.phase }, { on := 22, ground := Ground.phase }], guard := none }]
def dsR33 : List (Option Nat) := [some 225, some 226, some 227, some 228, some 229, some 230, some 231, some 232, some 233, some 234, some 235, some 236, some 237, some 238, some 239, some 240, some 241, some 242, some 243, some 244, some 245, some 246, some 247, some 31]
set_option maxRecDepth 10000 in
set_option maxHeartbeats 1000000 in
theorem ruled_r33 (a : Act) (Q : Exit → Act → World → Prop) (w : World) (id : Nat) (rb c m : Nat) (t : Bool) (hsz : 360 ≤ a.tmps.size)
    (B : Nat) (S0 S1 : World → Prop) (hS0 : S0 w) (hSb : ∀ W W', S0 W → Below W.heap.size W W' → S0 W') (hSz : ∀ W, S0 W → B ≤ W.heap.size)
    (hc : c ≤ 100) (hm1 : 1 ≤ m) (hm : m ≤ 100) (h20 : a.eval (.tmp 20) = .pointer (some ⟨rb, 0, none⟩)) (h24 : a.eval (.tmp 24) = .int .i64 (c : Int)) (h25 : a.eval (.tmp 25) = .int .i64 (m : Int)) (h27 : a.eval (.tmp 27) = .bool t) (h37 : ∀ W, S0 W → Fact.ok B (.bytes (List.replicate (2 * m) 1)) (a.eval (.tmp 37)) W)
    (hdone : ∀ W v x, S0 W → Owns W B v (16 :: b16 c (List.replicate m 257)) → Owns W B x (if t then 16 :: (wd (c : Int) ++ wd (m : Int)) else excB 16 4) → Calls Tryz.prog 23 #[.pointer (some ⟨rb, 0, none⟩), .int .i64 1, v, x] W fun r w' => r = .returned (.bool true) ∧ S1 w' ∧ LeB W w')
    (hend : ∀ u W, S1 W → u 31 = .bool true → Q .normal (over a dsR33 u) W) : (Code.region id opsR33.toArray false).wp Tryz.prog Q a w := by
  have ein : ∀ u k, some k ∈ dsR33 → k < 360 → (over a dsR33 u).eval (.tmp k) = u k := fun u k h1 h2 => eval_in a dsR33 u k h1 (by omega)
  have eout : ∀ u k, some k ∉ dsR33 → k < 360 → (over a dsR33 u).eval (.tmp k) = a.eval (.tmp k) := fun u k h1 h2 => eval_out a dsR33 u k h1 (by omega)
  have ef : ∀ u f, (over a dsR33 u).eval (.func f) = .func (.func f) #[] #[] := fun u f => by simp [Act.eval]
  have hrn : List.replicate (2 * m) (1 : Int) ≠ [] := by
    intro e
    have := congrArg List.length e
    simp at this
    omega
  have hf1 : [[16], wd (c : Int), wd (m : Int), [2 * (m : Int)], List.replicate (2 * m) 1].flatten = 16 :: b16 c (List.replicate m 257) := by
    unfold b16
    rw [words_257, List.length_replicate, show ((2 * m : Nat) : Int) = 2 * (m : Int) by omega]
    simp
  refine wp_region_factsG dsR33 (S2 22 S0 S1) (RF B [.val (.pointer (some ⟨rb, 0, none⟩)), .bytes [16], .val (.int .i64 (c : Int)), .bytes (wd (c : Int)), .val (.int .i64 (m : Int)), .bytes (wd (m : Int)), .val (.int .i64 (m : Int)), .val (.int .i64 (2 * (m : Int))), .val (.int .u8 (2 * (m : Int))), .bytes [2 * (m : Int)], .bytes (List.replicate (2 * m) 1), .row [[16], wd (c : Int), wd (m : Int), [2 * (m : Int)], List.replicate (2 * m) 1], .bytes (16 :: b16 c (List.replicate m 257)), .val (.bool t), .bytes [16], .val (.int .i64 (c : Int)), .bytes (wd (c : Int)), .val (.int .i64 (m : Int)), .bytes (wd (m : Int)), .row [[16], wd (c : Int), wd (m : Int)], .bytes (16 :: (wd (c : Int) ++ wd (m : Int))), .bytes (if t then 16 :: (wd (c : Int) ++ wd (m : Int)) else excB 16 4), .val (.bool true), .val (.bool true)]) (by decide) rfl hS0 [true, true, true, true, true, true, true, true, true, true, true, true, true, true, true, true, true, true, true, true, true, true, true, true] ?_ (fun u W hS hR => hend u W hS (hR 23 (by decide)))
  unfold opsR33
  refine StepAllG.cons rfl (fun u W hS hd => ?_) (StepAllG.cons rfl (fun u W hS hd => ?_) (StepAllG.cons rfl (fun u W hS hd => ?_) (StepAllG.cons rfl (fun u W hS hd => ?_) (StepAllG.cons rfl (fun u W hS hd => ?_) (StepAllG.cons rfl (fun u W hS hd => ?_) (StepAllG.cons rfl (fun u W hS hd => ?_) (StepAllG.cons rfl (fun u W hS hd => ?_) (StepAllG.cons rfl (fun u W hS hd => ?_) (StepAllG.cons rfl (fun u W hS hd => ?_) (StepAllG.cons rfl (fun u W hS hd => ?_) (StepAllG.cons rfl (fun u W hS hd => ?_) (StepAllG.cons rfl (fun u W hS hd => ?_) (StepAllG.cons rfl (fun u W hS hd => ?_) (StepAllG.cons rfl (fun u W hS hd => ?_) (StepAllG.cons rfl (fun u W hS hd => ?_) (StepAllG.cons rfl (fun u W hS hd => ?_) (StepAllG.cons rfl (fun u W hS hd => ?_) (StepAllG.cons rfl (fun u W hS hd => ?_) (StepAllG.cons rfl (fun u W hS hd => ?_) (StepAllG.cons rfl (fun u W hS hd => ?_) (StepAllG.cons rfl (fun u W hS hd => ?_) (StepAllG.cons rfl (fun u W hS hd => ?_) (StepAllG.cons rfl (fun u W hS hd => ?_) (trivial))))))))))))))))))))))))
  · have hS : S0 W := hS
    refine DoesG.plain rfl ?_
    exact step_value _ rfl (run_move _) ((eout u 20 (by decide) (by omega)).trans h20) KeepTo.refl hS
  · have hS : S0 W := hS
    refine DoesG.plain rfl ?_
    exact step_value _ rfl (run_bytes1 _ 16 rfl) (Fact.fresh W [16] B (hSz W hS) (by simp)) (KeepTo.le (LeB.new _ _)) (hSb _ _ hS (rule_new _ _))
  · have hS : S0 W := hS
    refine DoesG.plain rfl ?_
    exact step_value _ rfl (run_move _) ((eout u 24 (by decide) (by omega)).trans h24) KeepTo.refl hS
  · have hS : S0 W := hS
    refine DoesG.plain rfl ?_
    have e2 : u 227 = (.int .i64 (c : Int)) := hd 2 (by decide)
    exact (step_word _ _ _ hS (hSz W hS) hSb ((ein u 227 (by decide) (by omega)).trans e2) (by omega) (by omega) (fun _ _ h => h)).le (fun _ h => KeepTo.le h)
  · have hS : S0 W := hS
    refine DoesG.plain rfl ?_
    exact step_value _ rfl (run_move _) ((eout u 25 (by decide) (by omega)).trans h25) KeepTo.refl hS
  · have hS : S0 W := hS
    refine DoesG.plain rfl ?_
    have e4 : u 229 = (.int .i64 (m : Int)) := hd 4 (by decide)
    exact (step_word _ _ _ hS (hSz W hS) hSb ((ein u 229 (by decide) (by omega)).trans e4) (by omega) (by omega) (fun _ _ h => h)).le (fun _ h => KeepTo.le h)
  · have hS : S0 W := hS
    refine DoesG.plain rfl ?_
    exact step_value _ rfl (run_move _) ((eout u 25 (by decide) (by omega)).trans h25) KeepTo.refl hS
  · have hS : S0 W := hS
    refine DoesG.plain rfl ?_
    have e6 : u 231 = (.int .i64 (m : Int)) := hd 6 (by decide)
    exact step_value _ rfl (run_mul2 _ (m : Int) (fun _ => by simp [Act.eval]) ((ein u 231 (by decide) (by omega)).trans e6) (by omega) (by omega)) rfl KeepTo.refl hS
  · have hS : S0 W := hS
    refine DoesG.plain rfl ?_
    have e7 : u 232 = (.int .i64 (2 * (m : Int))) := hd 7 (by decide)
    exact step_value _ rfl (run_byte _ (2 * (m : Int)) ((ein u 232 (by decide) (by omega)).trans e7) (by omega) (by omega)) rfl KeepTo.refl hS
  · have hS : S0 W := hS
    refine DoesG.plain rfl ?_
    have e8 : u 233 = (.int .u8 (2 * (m : Int))) := hd 8 (by decide)
    exact step_value _ rfl (run_bytes1 _ (2 * (m : Int)) ((ein u 233 (by decide) (by omega)).trans e8)) (Fact.fresh W [2 * (m : Int)] B (hSz W hS) (by simp)) (KeepTo.le (LeB.new _ _)) (hSb _ _ hS (rule_new _ _))
  · have hS : S0 W := hS
    refine DoesG.plain rfl ?_
    exact step_value _ rfl (run_move _) (show Fact.ok B (.bytes (List.replicate (2 * m) 1)) _ W by rw [eout u 37 (by decide) (by omega)]; exact h37 W hS) KeepTo.refl hS
  · have hS : S0 W := hS
    refine DoesG.plain rfl ?_
    have e1 : Fact.ok B (.bytes [16]) (u 226) W := hd 1 (by decide)
    have e3 : Fact.ok B (.bytes (wd (c : Int))) (u 228) W := hd 3 (by decide)
    have e5 : Fact.ok B (.bytes (wd (m : Int))) (u 230) W := hd 5 (by decide)
    have e9 : Fact.ok B (.bytes [2 * (m : Int)]) (u 234) W := hd 9 (by decide)
    have e10 : Fact.ok B (.bytes (List.replicate (2 * m) 1)) (u 235) W := hd 10 (by decide)
    obtain ⟨⟨a0, n0, c0, q0⟩, o0⟩ := e1
    rw [q0] at o0
    obtain ⟨⟨a1, n1, c1, q1⟩, o1⟩ := e3
    rw [q1] at o1
    obtain ⟨⟨a2, n2, c2, q2⟩, o2⟩ := e5
    rw [q2] at o2
    obtain ⟨⟨a3, n3, c3, q3⟩, o3⟩ := e9
    rw [q3] at o3
    obtain ⟨⟨a4, n4, c4, q4⟩, o4⟩ := e10
    rw [q4] at o4
    exact step_value _ rfl (run_row5 _ _ _ _ _ a0 a1 a2 a3 a4 n0 c0 n1 c1 n2 c2 n3 c3 n4 c4 ((ein u 226 (by decide) (by omega)).trans q0) ((ein u 228 (by decide) (by omega)).trans q1) ((ein u 230 (by decide) (by omega)).trans q2) ((ein u 234 (by decide) (by omega)).trans q3) ((ein u 235 (by decide) (by omega)).trans q4)) (Fact.newRow W [.slice a0 n0 c0, .slice a1 n1 c1, .slice a2 n2 c2, .slice a3 n3 c3, .slice a4 n4 c4] [[16], wd (c : Int), wd (m : Int), [2 * (m : Int)], List.replicate (2 * m) 1] B rfl (fun i hi => by
      match i, hi with
      | 0, _ => exact o0
      | 1, _ => exact o1
      | 2, _ => exact o2
      | 3, _ => exact o3
      | 4, _ => exact o4)) (KeepTo.le (LeB.new _ _)) (hSb _ _ hS (rule_new _ _))
  · have hS : S0 W := hS
    refine DoesG.plain rfl ?_
    have e11 : Fact.ok B (.row [[16], wd (c : Int), wd (m : Int), [2 * (m : Int)], List.replicate (2 * m) 1]) (u 236) W := hd 11 (by decide)
    refine (step_join _ _ [[16], wd (c : Int), wd (m : Int), [2 * (m : Int)], List.replicate (2 * m) 1] _ hS (hSz W hS) hSb (by rw [ein u 236 (by decide) (by omega)]; exact e11) (fun i hi => by
      match i, hi with
      | 0, _ => exact (by simp)
      | 1, _ => exact (by simp [wd])
      | 2, _ => exact (by simp [wd])
      | 3, _ => exact (by simp)
      | 4, _ => exact hrn) (by simp) (by simp [wd]; omega) hf1 (fun _ _ h => h)).le (fun _ h => KeepTo.le h)
  · have hS : S0 W := hS
    refine DoesG.plain rfl ?_
    exact step_value _ rfl (run_move _) ((eout u 27 (by decide) (by omega)).trans h27) KeepTo.refl hS
  · have hS : S0 W := hS
    refine DoesG.plain rfl ?_
    exact step_value _ rfl (run_bytes1 _ 16 rfl) (Fact.fresh W [16] B (hSz W hS) (by simp)) (KeepTo.le (LeB.new _ _)) (hSb _ _ hS (rule_new _ _))
  · have hS : S0 W := hS
    refine DoesG.plain rfl ?_
    exact step_value _ rfl (run_move _) ((eout u 24 (by decide) (by omega)).trans h24) KeepTo.refl hS
  · have hS : S0 W := hS
    refine DoesG.plain rfl ?_
    have e15 : u 240 = (.int .i64 (c : Int)) := hd 15 (by decide)
    exact (step_word _ _ _ hS (hSz W hS) hSb ((ein u 240 (by decide) (by omega)).trans e15) (by omega) (by omega) (fun _ _ h => h)).le (fun _ h => KeepTo.le h)
  · have hS : S0 W := hS
    refine DoesG.plain rfl ?_
    exact step_value _ rfl (run_move _) ((eout u 25 (by decide) (by omega)).trans h25) KeepTo.refl hS
  · have hS : S0 W := hS
    refine DoesG.plain rfl ?_
    have e17 : u 242 = (.int .i64 (m : Int)) := hd 17 (by decide)
    exact (step_word _ _ _ hS (hSz W hS) hSb ((ein u 242 (by decide) (by omega)).trans e17) (by omega) (by omega) (fun _ _ h => h)).le (fun _ h => KeepTo.le h)
  · have hS : S0 W := hS
    refine DoesG.plain rfl ?_
    have e14 : Fact.ok B (.bytes [16]) (u 239) W := hd 14 (by decide)
    have e16 : Fact.ok B (.bytes (wd (c : Int))) (u 241) W := hd 16 (by decide)
    have e18 : Fact.ok B (.bytes (wd (m : Int))) (u 243) W := hd 18 (by decide)
    obtain ⟨⟨a0, n0, c0, q0⟩, o0⟩ := e14
    rw [q0] at o0
    obtain ⟨⟨a1, n1, c1, q1⟩, o1⟩ := e16
    rw [q1] at o1
    obtain ⟨⟨a2, n2, c2, q2⟩, o2⟩ := e18
    rw [q2] at o2
    exact step_value _ rfl (run_row3 _ _ _ a0 a1 a2 n0 c0 n1 c1 n2 c2 ((ein u 239 (by decide) (by omega)).trans q0) ((ein u 241 (by decide) (by omega)).trans q1) ((ein u 243 (by decide) (by omega)).trans q2)) (Fact.newRow W [.slice a0 n0 c0, .slice a1 n1 c1, .slice a2 n2 c2] [[16], wd (c : Int), wd (m : Int)] B rfl (fun i hi => by
      match i, hi with
      | 0, _ => exact o0
      | 1, _ => exact o1
      | 2, _ => exact o2)) (KeepTo.le (LeB.new _ _)) (hSb _ _ hS (rule_new _ _))
  · have hS : S0 W := hS
    refine DoesG.plain rfl ?_
    have e19 : Fact.ok B (.row [[16], wd (c : Int), wd (m : Int)]) (u 244) W := hd 19 (by decide)
    refine (step_join _ _ [[16], wd (c : Int), wd (m : Int)] _ hS (hSz W hS) hSb (by rw [ein u 244 (by decide) (by omega)]; exact e19) (fun i hi => by
      match i, hi with
      | 0, _ => exact (by simp)
      | 1, _ => exact (by simp [wd])
      | 2, _ => exact (by simp [wd])) (by simp) (by simp [wd]) (by simp) (fun _ _ h => h)).le (fun _ h => KeepTo.le h)
  · have hS : S0 W := hS
    refine DoesG.plain rfl ?_
    have e13 : u 238 = (.bool t) := hd 13 (by decide)
    have e20 : Fact.ok B (.bytes (16 :: (wd (c : Int) ++ wd (m : Int)))) (u 245) W := hd 20 (by decide)
    have hj := told_any t 16 B (u 245) (16 :: (wd (c : Int) ++ wd (m : Int))) W (hSz W hS) e20
    rw [← e13, ← ein u 238 (by decide) (by omega), ← ein u 245 (by decide) (by omega)] at hj
    refine step_enter _ rfl (run_call3 _ _ _ _ _ (ef u _) callf_told) _ hj ?_
    rintro e w' ⟨y, rfl, hy, hb⟩
    exact ⟨_, rfl, hy, KeepTo.le (LeB.of_below hb), hSb _ _ hS hb⟩
  · have hS : S0 W := hS
    refine DoesG.plain rfl ?_
    have e0 : u 225 = (.pointer (some ⟨rb, 0, none⟩)) := hd 0 (by decide)
    have e12 : Fact.ok B (.bytes (16 :: b16 c (List.replicate m 257))) (u 237) W := hd 12 (by decide)
    have e21 : Fact.ok B (.bytes (if t then 16 :: (wd (c : Int) ++ wd (m : Int)) else excB 16 4)) (u 246) W := hd 21 (by decide)
    have hj := hdone W (u 237) (u 246) hS e12.2 e21.2
    have e0p : u 225 = .pointer (some ⟨rb, 0, none⟩) := e0
    rw [← e0p, ← ein u 225 (by decide) (by omega), ← ein u 237 (by decide) (by omega), ← ein u 246 (by decide) (by omega)] at hj
    refine step_enter _ rfl (run_call4 _ _ _ _ _ _ (ef u _) callf_done) _ hj ?_
    rintro e w' ⟨rfl, hS', hL⟩
    exact ⟨_, rfl, rfl, KeepTo.le hL, hS'⟩
  · have hS : S1 W := hS
    refine DoesG.plain rfl ?_
    have e22 : u 247 = (.bool true) := hd 22 (by decide)
    exact step_value _ rfl (run_assign _) ((ein u 247 (by decide) (by omega)).trans e22) KeepTo.refl hS

def opsR50 : List Oper := [
  { dst := some 349, op := Op.move (Operand.tmp 20), type := 28, pos := "turns.go:112", after := #[], guard := none },
  { dst := some 350, op := Op.buildSlice 37 1 #[(0, Operand.const (Value.int IntKind.u8 3))], type := 37, pos := "turns.go:112", after := #[], guard := none },
  { dst := some 351, op := Op.move (Operand.tmp 22), type := 3, pos := "turns.go:112", after := #[], guard := none },
  { dst := some 352, op := Op.call { callee := Callee.value (Operand.func 25), args := #[Operand.tmp 351], argTypes := #[3] }, type := 37, pos := "turns.go:112", after := #[{ on := 2, ground := Ground.data }], guard := none },
  { dst := some 353, op := Op.move (Operand.tmp 23), type := 3, pos := "turns.go:112", after := #[], guard := none },
  { dst := some 354, op := Op.call { callee := Callee.value (Operand.func 25), args := #[Operand.tmp 353], argTypes := #[3] }, type := 37, pos := "turns.go:112", after := #[{ on := 4, ground := Ground.data }, { on := 3, ground := Ground.chain }], guard := none },
  { dst := some 355, op := Op.buildSlice 45 3 #[(0, Operand.tmp 350), (1, Operand.tmp 352), (2, Operand.tmp 354)], type := 45, pos := "turns.go:112", after := #[{ on := 1, ground := Ground.data }, { on := 3, ground := Ground.data }, { on := 5, ground := Ground.data }], guard := none },
  { dst := some 356, op := Op.call { callee := Callee.value (Operand.func 24), args := #[Operand.tmp 355], argTypes := #[45] }, type := 37, pos := "turns.go:112", after := #[{ on := 6, ground := Ground.data }, { on := 5, ground := Ground.chain }], guard := none },
  { dst := some 357, op := Op.buildSlice 37 2 #[(0, Operand.const (Value.int IntKind.u8 131)), (1, Operand.const (Value.int IntKind.u8 4))], type := 37, pos := "turns.go:112", after := #[], guard := none },
  { dst := some 358, op := Op.call { callee := Callee.value (Operand.func 23), args := #[Operand.tmp 349, Operand.const (Value.int IntKind.i64 0), Operand.tmp 356, Operand.tmp 357], argTypes := #[28, 3, 37, 37] }, type := 4, pos := "turns.go:112", after := #[{ on := 0, ground := Ground.data }, { on := 7, ground := Ground.data }, { on := 8, ground := Ground.data }, { on := 7, ground := Ground.chain }], guard := none },
  { dst := some 45, op := Op.assign (Operand.tmp 358), type := 4, pos := "turns.go:112", after := #[{ on := 9, ground := Ground.data }, { on := 9, ground := Ground.chain }, { on := 0, ground := Ground.phase }, { on := 1, ground := Ground.phase }, { on := 2, ground := Ground.phase }, { on := 3, ground := Ground.phase }, { on := 4, ground := Ground.phase }, { on := 5, ground := Ground.phase }, { on := 6, ground := Ground.phase }, { on := 7, ground := Ground.phase }, { on := 8, ground := Ground.phase }, { on := 9, ground := Ground.phase }], guard := none }]
def dsR50 : List (Option Nat) := [some 349, some 350, some 351, some 352, some 353, some 354, some 355, some 356, some 357, some 358, some 45]
set_option maxRecDepth 10000 in
set_option maxHeartbeats 1000000 in
theorem ruled_r50 (a : Act) (Q : Exit → Act → World → Prop) (w : World) (id : Nat) (rb p n : Nat) (hsz : 360 ≤ a.tmps.size)
    (B : Nat) (S0 S1 : World → Prop) (hS0 : S0 w) (hSb : ∀ W W', S0 W → Below W.heap.size W W' → S0 W') (hSz : ∀ W, S0 W → B ≤ W.heap.size)
    (hp : p ≤ 100) (hn1 : 1 ≤ n) (hn : n ≤ 100) (h20 : a.eval (.tmp 20) = .pointer (some ⟨rb, 0, none⟩)) (h22 : a.eval (.tmp 22) = .int .i64 (p : Int)) (h23 : a.eval (.tmp 23) = .int .i64 (n : Int))
    (hdone : ∀ W v x, S0 W → Owns W B v (3 :: readB p n) → Owns W B x [131, 4] → Calls Tryz.prog 23 #[.pointer (some ⟨rb, 0, none⟩), .int .i64 0, v, x] W fun r w' => r = .returned (.bool true) ∧ S1 w' ∧ LeB W w')
    (hend : ∀ u W, S1 W → u 45 = .bool true → Q .normal (over a dsR50 u) W) : (Code.region id opsR50.toArray false).wp Tryz.prog Q a w := by
  have ein : ∀ u k, some k ∈ dsR50 → k < 360 → (over a dsR50 u).eval (.tmp k) = u k := fun u k h1 h2 => eval_in a dsR50 u k h1 (by omega)
  have eout : ∀ u k, some k ∉ dsR50 → k < 360 → (over a dsR50 u).eval (.tmp k) = a.eval (.tmp k) := fun u k h1 h2 => eval_out a dsR50 u k h1 (by omega)
  have ef : ∀ u f, (over a dsR50 u).eval (.func f) = .func (.func f) #[] #[] := fun u f => by simp [Act.eval]
  refine wp_region_factsG dsR50 (S2 9 S0 S1) (RF B [.val (.pointer (some ⟨rb, 0, none⟩)), .bytes [3], .val (.int .i64 (p : Int)), .bytes (wd (p : Int)), .val (.int .i64 (n : Int)), .bytes (wd (n : Int)), .row [[3], wd (p : Int), wd (n : Int)], .bytes (3 :: readB p n), .bytes [131, 4], .val (.bool true), .val (.bool true)]) (by decide) rfl hS0 [true, true, true, true, true, true, true, true, true, true, true] ?_ (fun u W hS hR => hend u W hS (hR 10 (by decide)))
  unfold opsR50
  refine StepAllG.cons rfl (fun u W hS hd => ?_) (StepAllG.cons rfl (fun u W hS hd => ?_) (StepAllG.cons rfl (fun u W hS hd => ?_) (StepAllG.cons rfl (fun u W hS hd => ?_) (StepAllG.cons rfl (fun u W hS hd => ?_) (StepAllG.cons rfl (fun u W hS hd => ?_) (StepAllG.cons rfl (fun u W hS hd => ?_) (StepAllG.cons rfl (fun u W hS hd => ?_) (StepAllG.cons rfl (fun u W hS hd => ?_) (StepAllG.cons rfl (fun u W hS hd => ?_) (StepAllG.cons rfl (fun u W hS hd => ?_) (trivial)))))))))))
  · have hS : S0 W := hS
    refine DoesG.plain rfl ?_
    exact step_value _ rfl (run_move _) ((eout u 20 (by decide) (by omega)).trans h20) KeepTo.refl hS
  · have hS : S0 W := hS
    refine DoesG.plain rfl ?_
    exact step_value _ rfl (run_bytes1 _ 3 rfl) (Fact.fresh W [3] B (hSz W hS) (by simp)) (KeepTo.le (LeB.new _ _)) (hSb _ _ hS (rule_new _ _))
  · have hS : S0 W := hS
    refine DoesG.plain rfl ?_
    exact step_value _ rfl (run_move _) ((eout u 22 (by decide) (by omega)).trans h22) KeepTo.refl hS
  · have hS : S0 W := hS
    refine DoesG.plain rfl ?_
    have e2 : u 351 = (.int .i64 (p : Int)) := hd 2 (by decide)
    exact (step_word _ _ _ hS (hSz W hS) hSb ((ein u 351 (by decide) (by omega)).trans e2) (by omega) (by omega) (fun _ _ h => h)).le (fun _ h => KeepTo.le h)
  · have hS : S0 W := hS
    refine DoesG.plain rfl ?_
    exact step_value _ rfl (run_move _) ((eout u 23 (by decide) (by omega)).trans h23) KeepTo.refl hS
  · have hS : S0 W := hS
    refine DoesG.plain rfl ?_
    have e4 : u 353 = (.int .i64 (n : Int)) := hd 4 (by decide)
    exact (step_word _ _ _ hS (hSz W hS) hSb ((ein u 353 (by decide) (by omega)).trans e4) (by omega) (by omega) (fun _ _ h => h)).le (fun _ h => KeepTo.le h)
  · have hS : S0 W := hS
    refine DoesG.plain rfl ?_
    have e1 : Fact.ok B (.bytes [3]) (u 350) W := hd 1 (by decide)
    have e3 : Fact.ok B (.bytes (wd (p : Int))) (u 352) W := hd 3 (by decide)
    have e5 : Fact.ok B (.bytes (wd (n : Int))) (u 354) W := hd 5 (by decide)
    obtain ⟨⟨a0, n0, c0, q0⟩, o0⟩ := e1
    rw [q0] at o0
    obtain ⟨⟨a1, n1, c1, q1⟩, o1⟩ := e3
    rw [q1] at o1
    obtain ⟨⟨a2, n2, c2, q2⟩, o2⟩ := e5
    rw [q2] at o2
    exact step_value _ rfl (run_row3 _ _ _ a0 a1 a2 n0 c0 n1 c1 n2 c2 ((ein u 350 (by decide) (by omega)).trans q0) ((ein u 352 (by decide) (by omega)).trans q1) ((ein u 354 (by decide) (by omega)).trans q2)) (Fact.newRow W [.slice a0 n0 c0, .slice a1 n1 c1, .slice a2 n2 c2] [[3], wd (p : Int), wd (n : Int)] B rfl (fun i hi => by
      match i, hi with
      | 0, _ => exact o0
      | 1, _ => exact o1
      | 2, _ => exact o2)) (KeepTo.le (LeB.new _ _)) (hSb _ _ hS (rule_new _ _))
  · have hS : S0 W := hS
    refine DoesG.plain rfl ?_
    have e6 : Fact.ok B (.row [[3], wd (p : Int), wd (n : Int)]) (u 355) W := hd 6 (by decide)
    refine (step_join _ _ [[3], wd (p : Int), wd (n : Int)] _ hS (hSz W hS) hSb (by rw [ein u 355 (by decide) (by omega)]; exact e6) (fun i hi => by
      match i, hi with
      | 0, _ => exact (by simp)
      | 1, _ => exact (by simp [wd])
      | 2, _ => exact (by simp [wd])) (by simp) (by simp [wd]) (by simp [readB]) (fun _ _ h => h)).le (fun _ h => KeepTo.le h)
  · have hS : S0 W := hS
    refine DoesG.plain rfl ?_
    exact step_value _ rfl (run_bytes2 _ _ 131 4 rfl rfl) (Fact.fresh W [131, 4] B (hSz W hS) (by simp)) (KeepTo.le (LeB.new _ _)) (hSb _ _ hS (rule_new _ _))
  · have hS : S0 W := hS
    refine DoesG.plain rfl ?_
    have e0 : u 349 = (.pointer (some ⟨rb, 0, none⟩)) := hd 0 (by decide)
    have e7 : Fact.ok B (.bytes (3 :: readB p n)) (u 356) W := hd 7 (by decide)
    have e8 : Fact.ok B (.bytes [131, 4]) (u 357) W := hd 8 (by decide)
    have hj := hdone W (u 356) (u 357) hS e7.2 e8.2
    have e0p : u 349 = .pointer (some ⟨rb, 0, none⟩) := e0
    rw [← e0p, ← ein u 349 (by decide) (by omega), ← ein u 356 (by decide) (by omega), ← ein u 357 (by decide) (by omega)] at hj
    refine step_enter _ rfl (run_call4 _ _ _ _ _ _ (ef u _) callf_done) _ hj ?_
    rintro e w' ⟨rfl, hS', hL⟩
    exact ⟨_, rfl, rfl, KeepTo.le hL, hS'⟩
  · have hS : S1 W := hS
    refine DoesG.plain rfl ?_
    have e9 : u 358 = (.bool true) := hd 9 (by decide)
    exact step_value _ rfl (run_assign _) ((ein u 358 (by decide) (by omega)).trans e9) KeepTo.refl hS

def opsR19 : List Oper := [
  { dst := some 163, op := Op.move (Operand.tmp 20), type := 28, pos := "turns.go:78", after := #[], guard := none },
  { dst := some 164, op := Op.move (Operand.tmp 24), type := 3, pos := "turns.go:78", after := #[], guard := none },
  { dst := some 165, op := Op.call { callee := Callee.value (Operand.func 19), args := #[Operand.tmp 163, Operand.const (Value.int IntKind.i64 3), Operand.tmp 164, Operand.const (Value.int IntKind.i64 1)], argTypes := #[28, 3, 3, 3] }, type := 34, pos := "turns.go:78", after := #[{ on := 0, ground := Ground.data }, { on := 1, ground := Ground.data }], guard := none },
  { dst := some 162, op := Op.move (Operand.tmp 165), type := 34, pos := "turns.go:78", after := #[{ on := 2, ground := Ground.data }], guard := none },
  { dst := some 166, op := Op.extract (Operand.tmp 162) 0, type := 24, pos := "turns.go:78", after := #[{ on := 3, ground := Ground.data }], guard := none },
  { dst := some 167, op := Op.extract (Operand.tmp 162) 1, type := 32, pos := "turns.go:78", after := #[{ on := 3, ground := Ground.data }, { on := 6, ground := Ground.gcOnly Departure.lateStores }], guard := none },
  { dst := some 32, op := Op.assign (Operand.tmp 166), type := 24, pos := "turns.go:78", after := #[{ on := 4, ground := Ground.data }, { on := 2, ground := Ground.chain }, { on := 0, ground := Ground.phase }, { on := 1, ground := Ground.phase }, { on := 2, ground := Ground.phase }, { on := 3, ground := Ground.phase }, { on := 4, ground := Ground.phase }, { on := 5, ground := Ground.textOnly Departure.lateStores }], guard := none },
  { dst := some 33, op := Op.assign (Operand.tmp 167), type := 32, pos := "turns.go:78", after := #[{ on := 5, ground := Ground.data }, { on := 6, ground := Ground.chain }, { on := 0, ground := Ground.phase }, { on := 1, ground := Ground.phase }, { on := 2, ground := Ground.phase }, { on := 3, ground := Ground.phase }, { on := 4, ground := Ground.phase }, { on := 5, ground := Ground.phase }, { on := 6, ground := Ground.phase }], guard := none }]
def dsR19 : List (Option Nat) := [some 163, some 164, some 165, some 162, some 166, some 167, some 32, some 33]
set_option maxRecDepth 10000 in
set_option maxHeartbeats 1000000 in
theorem ruled_r19 (a : Act) (Q : Exit → Act → World → Prop) (w : World) (id : Nat) (rb c : Nat) (hsz : 360 ≤ a.tmps.size)
    (S0 S1 : World → Prop) (hS0 : S0 w) 
    (h20 : a.eval (.tmp 20) = .pointer (some ⟨rb, 0, none⟩)) (h24 : a.eval (.tmp 24) = .int .i64 (c : Int))
    (PS : Value → World → Prop) (hcall : ∀ W, S0 W → Calls Tryz.prog 19 #[.pointer (some ⟨rb, 0, none⟩), .int .i64 3, .int .i64 (c : Int), .int .i64 1] W fun r w' => ∃ x, r = .returned (.tuple #[x, .int .i64 0]) ∧ PS x w' ∧ S1 w')
    (hend : ∀ u W, S1 W → PS (u 32) W → u 33 = .int .i64 0 → Q .normal (over a dsR19 u) W) : (Code.region id opsR19.toArray false).wp Tryz.prog Q a w := by
  have ein : ∀ u k, some k ∈ dsR19 → k < 360 → (over a dsR19 u).eval (.tmp k) = u k := fun u k h1 h2 => eval_in a dsR19 u k h1 (by omega)
  have eout : ∀ u k, some k ∉ dsR19 → k < 360 → (over a dsR19 u).eval (.tmp k) = a.eval (.tmp k) := fun u k h1 h2 => eval_out a dsR19 u k h1 (by omega)
  have ef : ∀ u f, (over a dsR19 u).eval (.func f) = .func (.func f) #[] #[] := fun u f => by simp [Act.eval]
  refine wp_region_factsG dsR19 (S2 2 S0 S1) (RL [fun v _ => v = (.pointer (some ⟨rb, 0, none⟩)), fun v _ => v = (.int .i64 (c : Int)), (fun v W => ∃ x, v = Value.tuple #[x, .int .i64 0] ∧ PS x W), (fun v W => ∃ x, v = Value.tuple #[x, .int .i64 0] ∧ PS x W), PS, fun v _ => v = (.int .i64 0), PS, fun v _ => v = (.int .i64 0)]) (by decide) rfl hS0 [true, true, true, true, true, true, true, true] ?_ (fun u W hS hR => hend u W hS (hR 6 (by decide)) (hR 7 (by decide)))
  unfold opsR19
  refine StepAllG.cons rfl (fun u W hS hd => ?_) (StepAllG.cons rfl (fun u W hS hd => ?_) (StepAllG.cons rfl (fun u W hS hd => ?_) (StepAllG.cons rfl (fun u W hS hd => ?_) (StepAllG.cons rfl (fun u W hS hd => ?_) (StepAllG.cons rfl (fun u W hS hd => ?_) (StepAllG.cons rfl (fun u W hS hd => ?_) (StepAllG.cons rfl (fun u W hS hd => ?_) (trivial))))))))
  · have hS : S0 W := hS
    refine DoesG.plain rfl ?_
    exact step_value _ rfl (run_move _) ((eout u 20 (by decide) (by omega)).trans h20) KeepTo.refl hS
  · have hS : S0 W := hS
    refine DoesG.plain rfl ?_
    exact step_value _ rfl (run_move _) ((eout u 24 (by decide) (by omega)).trans h24) KeepTo.refl hS
  · have hS : S0 W := hS
    refine DoesG.plain rfl ?_
    have e0 : u 163 = (.pointer (some ⟨rb, 0, none⟩)) := hd 0 (by decide)
    have e1 : u 164 = (.int .i64 (c : Int)) := hd 1 (by decide)
    have hj := hcall W hS
    rw [← e0, ← ein u 163 (by decide) (by omega), ← e1, ← ein u 164 (by decide) (by omega)] at hj
    refine step_enter _ rfl (run_call4 _ _ _ _ _ _ (ef u _) callf_get) _ hj ?_
    rintro e w' ⟨x, rfl, hp, hS'⟩
    exact ⟨_, rfl, ⟨x, rfl, hp⟩, (fun j hj h => by match j, hj with | 0, _ => exact h | 1, _ => exact h), hS'⟩
  · have hS : S1 W := hS
    refine DoesG.plain rfl ?_
    have e2 : ((fun v W => ∃ x, v = Value.tuple #[x, .int .i64 0] ∧ PS x W)) (u 165) W := hd 2 (by decide)
    exact step_value _ rfl (run_move _) (show ((fun v W => ∃ x, v = Value.tuple #[x, .int .i64 0] ∧ PS x W)) _ W by rw [ein u 165 (by decide) (by omega)]; exact e2) KeepTo.refl hS
  · have hS : S1 W := hS
    refine DoesG.plain rfl ?_
    have e3 : ((fun v W => ∃ x, v = Value.tuple #[x, .int .i64 0] ∧ PS x W)) (u 162) W := hd 3 (by decide)
    obtain ⟨x, q, hp⟩ := e3
    exact step_value _ rfl (run_ext _ x _ 0 ((ein u 162 (by decide) (by omega)).trans q) (by omega)) (show PS _ W by simpa using hp) KeepTo.refl hS
  · have hS : S1 W := hS
    refine DoesG.plain rfl ?_
    have e3 : ((fun v W => ∃ x, v = Value.tuple #[x, .int .i64 0] ∧ PS x W)) (u 162) W := hd 3 (by decide)
    obtain ⟨x, q, hp⟩ := e3
    exact step_value _ rfl (run_ext _ x _ 1 ((ein u 162 (by decide) (by omega)).trans q) (by omega)) (by simp [RL]) KeepTo.refl hS
  · have hS : S1 W := hS
    refine DoesG.plain rfl ?_
    have e4 : (PS) (u 166) W := hd 4 (by decide)
    exact step_value _ rfl (run_assign _) (show (PS) _ W by rw [ein u 166 (by decide) (by omega)]; exact e4) KeepTo.refl hS
  · have hS : S1 W := hS
    refine DoesG.plain rfl ?_
    have e5 : u 167 = (.int .i64 0) := hd 5 (by decide)
    exact step_value _ rfl (run_assign _) ((ein u 167 (by decide) (by omega)).trans e5) KeepTo.refl hS

def opsR36 : List Oper := [
  { dst := some 273, op := Op.move (Operand.tmp 20), type := 28, pos := "turns.go:96", after := #[], guard := none },
  { dst := some 274, op := Op.move (Operand.tmp 24), type := 3, pos := "turns.go:96", after := #[], guard := none },
  { dst := some 275, op := Op.move (Operand.tmp 25), type := 3, pos := "turns.go:96", after := #[], guard := none },
  { dst := some 276, op := Op.call { callee := Callee.value (Operand.func 19), args := #[Operand.tmp 273, Operand.const (Value.int IntKind.i64 3), Operand.tmp 274, Operand.tmp 275], argTypes := #[28, 3, 3, 3] }, type := 34, pos := "turns.go:96", after := #[{ on := 0, ground := Ground.data }, { on := 1, ground := Ground.data }, { on := 2, ground := Ground.data }], guard := none },
  { dst := some 272, op := Op.move (Operand.tmp 276), type := 34, pos := "turns.go:96", after := #[{ on := 3, ground := Ground.data }], guard := none },
  { dst := some 277, op := Op.extract (Operand.tmp 272) 0, type := 24, pos := "turns.go:96", after := #[{ on := 4, ground := Ground.data }], guard := none },
  { dst := some 278, op := Op.extract (Operand.tmp 272) 1, type := 32, pos := "turns.go:96", after := #[{ on := 4, ground := Ground.data }, { on := 7, ground := Ground.gcOnly Departure.lateStores }], guard := none },
  { dst := some 32, op := Op.assign (Operand.tmp 277), type := 24, pos := "turns.go:96", after := #[{ on := 5, ground := Ground.data }, { on := 3, ground := Ground.chain }, { on := 0, ground := Ground.phase }, { on := 1, ground := Ground.phase }, { on := 2, ground := Ground.phase }, { on := 3, ground := Ground.phase }, { on := 4, ground := Ground.phase }, { on := 5, ground := Ground.phase }, { on := 6, ground := Ground.textOnly Departure.lateStores }], guard := none },
  { dst := some 33, op := Op.assign (Operand.tmp 278), type := 32, pos := "turns.go:96", after := #[{ on := 6, ground := Ground.data }, { on := 7, ground := Ground.chain }, { on := 0, ground := Ground.phase }, { on := 1, ground := Ground.phase }, { on := 2, ground := Ground.phase }, { on := 3, ground := Ground.phase }, { on := 4, ground := Ground.phase }, { on := 5, ground := Ground.phase }, { on := 6, ground := Ground.phase }, { on := 7, ground := Ground.phase }], guard := none }]
def dsR36 : List (Option Nat) := [some 273, some 274, some 275, some 276, some 272, some 277, some 278, some 32, some 33]
set_option maxRecDepth 10000 in
set_option maxHeartbeats 1000000 in
theorem ruled_r36 (a : Act) (Q : Exit → Act → World → Prop) (w : World) (id : Nat) (rb c m : Nat) (hsz : 360 ≤ a.tmps.size)
    (S0 S1 : World → Prop) (hS0 : S0 w) 
    (h20 : a.eval (.tmp 20) = .pointer (some ⟨rb, 0, none⟩)) (h24 : a.eval (.tmp 24) = .int .i64 (c : Int)) (h25 : a.eval (.tmp 25) = .int .i64 (m : Int))
    (PS : Value → World → Prop) (hcall : ∀ W, S0 W → Calls Tryz.prog 19 #[.pointer (some ⟨rb, 0, none⟩), .int .i64 3, .int .i64 (c : Int), .int .i64 (m : Int)] W fun r w' => ∃ x, r = .returned (.tuple #[x, .int .i64 0]) ∧ PS x w' ∧ S1 w')
    (hend : ∀ u W, S1 W → PS (u 32) W → u 33 = .int .i64 0 → Q .normal (over a dsR36 u) W) : (Code.region id opsR36.toArray false).wp Tryz.prog Q a w := by
  have ein : ∀ u k, some k ∈ dsR36 → k < 360 → (over a dsR36 u).eval (.tmp k) = u k := fun u k h1 h2 => eval_in a dsR36 u k h1 (by omega)
  have eout : ∀ u k, some k ∉ dsR36 → k < 360 → (over a dsR36 u).eval (.tmp k) = a.eval (.tmp k) := fun u k h1 h2 => eval_out a dsR36 u k h1 (by omega)
  have ef : ∀ u f, (over a dsR36 u).eval (.func f) = .func (.func f) #[] #[] := fun u f => by simp [Act.eval]
  refine wp_region_factsG dsR36 (S2 3 S0 S1) (RL [fun v _ => v = (.pointer (some ⟨rb, 0, none⟩)), fun v _ => v = (.int .i64 (c : Int)), fun v _ => v = (.int .i64 (m : Int)), (fun v W => ∃ x, v = Value.tuple #[x, .int .i64 0] ∧ PS x W), (fun v W => ∃ x, v = Value.tuple #[x, .int .i64 0] ∧ PS x W), PS, fun v _ => v = (.int .i64 0), PS, fun v _ => v = (.int .i64 0)]) (by decide) rfl hS0 [true, true, true, true, true, true, true, true, true] ?_ (fun u W hS hR => hend u W hS (hR 7 (by decide)) (hR 8 (by decide)))
  unfold opsR36
  refine StepAllG.cons rfl (fun u W hS hd => ?_) (StepAllG.cons rfl (fun u W hS hd => ?_) (StepAllG.cons rfl (fun u W hS hd => ?_) (StepAllG.cons rfl (fun u W hS hd => ?_) (StepAllG.cons rfl (fun u W hS hd => ?_) (StepAllG.cons rfl (fun u W hS hd => ?_) (StepAllG.cons rfl (fun u W hS hd => ?_) (StepAllG.cons rfl (fun u W hS hd => ?_) (StepAllG.cons rfl (fun u W hS hd => ?_) (trivial)))))))))
  · have hS : S0 W := hS
    refine DoesG.plain rfl ?_
    exact step_value _ rfl (run_move _) ((eout u 20 (by decide) (by omega)).trans h20) KeepTo.refl hS
  · have hS : S0 W := hS
    refine DoesG.plain rfl ?_
    exact step_value _ rfl (run_move _) ((eout u 24 (by decide) (by omega)).trans h24) KeepTo.refl hS
  · have hS : S0 W := hS
    refine DoesG.plain rfl ?_
    exact step_value _ rfl (run_move _) ((eout u 25 (by decide) (by omega)).trans h25) KeepTo.refl hS
  · have hS : S0 W := hS
    refine DoesG.plain rfl ?_
    have e0 : u 273 = (.pointer (some ⟨rb, 0, none⟩)) := hd 0 (by decide)
    have e1 : u 274 = (.int .i64 (c : Int)) := hd 1 (by decide)
    have e2 : u 275 = (.int .i64 (m : Int)) := hd 2 (by decide)
    have hj := hcall W hS
    rw [← e0, ← ein u 273 (by decide) (by omega), ← e1, ← ein u 274 (by decide) (by omega), ← e2, ← ein u 275 (by decide) (by omega)] at hj
    refine step_enter _ rfl (run_call4 _ _ _ _ _ _ (ef u _) callf_get) _ hj ?_
    rintro e w' ⟨x, rfl, hp, hS'⟩
    exact ⟨_, rfl, ⟨x, rfl, hp⟩, (fun j hj h => by match j, hj with | 0, _ => exact h | 1, _ => exact h | 2, _ => exact h), hS'⟩
  · have hS : S1 W := hS
    refine DoesG.plain rfl ?_
    have e3 : ((fun v W => ∃ x, v = Value.tuple #[x, .int .i64 0] ∧ PS x W)) (u 276) W := hd 3 (by decide)
    exact step_value _ rfl (run_move _) (show ((fun v W => ∃ x, v = Value.tuple #[x, .int .i64 0] ∧ PS x W)) _ W by rw [ein u 276 (by decide) (by omega)]; exact e3) KeepTo.refl hS
  · have hS : S1 W := hS
    refine DoesG.plain rfl ?_
    have e4 : ((fun v W => ∃ x, v = Value.tuple #[x, .int .i64 0] ∧ PS x W)) (u 272) W := hd 4 (by decide)
    obtain ⟨x, q, hp⟩ := e4
    exact step_value _ rfl (run_ext _ x _ 0 ((ein u 272 (by decide) (by omega)).trans q) (by omega)) (show PS _ W by simpa using hp) KeepTo.refl hS
  · have hS : S1 W := hS
    refine DoesG.plain rfl ?_
    have e4 : ((fun v W => ∃ x, v = Value.tuple #[x, .int .i64 0] ∧ PS x W)) (u 272) W := hd 4 (by decide)
    obtain ⟨x, q, hp⟩ := e4
    exact step_value _ rfl (run_ext _ x _ 1 ((ein u 272 (by decide) (by omega)).trans q) (by omega)) (by simp [RL]) KeepTo.refl hS
  · have hS : S1 W := hS
    refine DoesG.plain rfl ?_
    have e5 : (PS) (u 277) W := hd 5 (by decide)
    exact step_value _ rfl (run_assign _) (show (PS) _ W by rw [ein u 277 (by decide) (by omega)]; exact e5) KeepTo.refl hS
  · have hS : S1 W := hS
    refine DoesG.plain rfl ?_
    have e6 : u 278 = (.int .i64 0) := hd 6 (by decide)
    exact step_value _ rfl (run_assign _) ((ein u 278 (by decide) (by omega)).trans e6) KeepTo.refl hS

def opsR35 : List Oper := [
  { dst := some 267, op := Op.move (Operand.tmp 20), type := 28, pos := "turns.go:95", after := #[], guard := none },
  { dst := some 268, op := Op.move (Operand.tmp 39), type := 37, pos := "turns.go:95", after := #[], guard := none },
  { dst := some 269, op := Op.call { callee := Callee.value (Operand.func 28), args := #[Operand.tmp 267, Operand.const (Value.int IntKind.i64 1), Operand.tmp 268], argTypes := #[28, 3, 37] }, type := 48, pos := "turns.go:95", after := #[{ on := 0, ground := Ground.data }, { on := 1, ground := Ground.data }], guard := none },
  { dst := some 266, op := Op.move (Operand.tmp 269), type := 48, pos := "turns.go:95", after := #[{ on := 2, ground := Ground.data }], guard := none },
  { dst := some 270, op := Op.extract (Operand.tmp 266) 0, type := 37, pos := "turns.go:95", after := #[{ on := 3, ground := Ground.data }], guard := none },
  { dst := some 271, op := Op.extract (Operand.tmp 266) 1, type := 32, pos := "turns.go:95", after := #[{ on := 3, ground := Ground.data }, { on := 6, ground := Ground.gcOnly Departure.lateStores }], guard := none },
  { dst := some 40, op := Op.assign (Operand.tmp 270), type := 37, pos := "turns.go:95", after := #[{ on := 4, ground := Ground.data }, { on := 2, ground := Ground.chain }, { on := 0, ground := Ground.phase }, { on := 1, ground := Ground.phase }, { on := 2, ground := Ground.phase }, { on := 3, ground := Ground.phase }, { on := 4, ground := Ground.phase }, { on := 5, ground := Ground.textOnly Departure.lateStores }], guard := none },
  { dst := some 41, op := Op.assign (Operand.tmp 271), type := 32, pos := "turns.go:95", after := #[{ on := 5, ground := Ground.data }, { on := 6, ground := Ground.chain }, { on := 0, ground := Ground.phase }, { on := 1, ground := Ground.phase }, { on := 2, ground := Ground.phase }, { on := 3, ground := Ground.phase }, { on := 4, ground := Ground.phase }, { on := 5, ground := Ground.phase }, { on := 6, ground := Ground.phase }], guard := none }]
def dsR35 : List (Option Nat) := [some 267, some 268, some 269, some 266, some 270, some 271, some 40, some 41]
set_option maxRecDepth 10000 in
set_option maxHeartbeats 1000000 in
theorem ruled_r35 (a : Act) (Q : Exit → Act → World → Prop) (w : World) (id : Nat) (rb : Nat) (q39 : Value) (hsz : 360 ≤ a.tmps.size)
    (S0 S1 : World → Prop) (hS0 : S0 w) 
    (h20 : a.eval (.tmp 20) = .pointer (some ⟨rb, 0, none⟩)) (h39 : a.eval (.tmp 39) = q39)
    (PS : Value → World → Prop) (hcall : ∀ W, S0 W → Calls Tryz.prog 28 #[.pointer (some ⟨rb, 0, none⟩), .int .i64 1, q39] W fun r w' => ∃ x, r = .returned (.tuple #[x, .int .i64 0]) ∧ PS x w' ∧ S1 w')
    (hend : ∀ u W, S1 W → PS (u 40) W → u 41 = .int .i64 0 → Q .normal (over a dsR35 u) W) : (Code.region id opsR35.toArray false).wp Tryz.prog Q a w := by
  have ein : ∀ u k, some k ∈ dsR35 → k < 360 → (over a dsR35 u).eval (.tmp k) = u k := fun u k h1 h2 => eval_in a dsR35 u k h1 (by omega)
  have eout : ∀ u k, some k ∉ dsR35 → k < 360 → (over a dsR35 u).eval (.tmp k) = a.eval (.tmp k) := fun u k h1 h2 => eval_out a dsR35 u k h1 (by omega)
  have ef : ∀ u f, (over a dsR35 u).eval (.func f) = .func (.func f) #[] #[] := fun u f => by simp [Act.eval]
  refine wp_region_factsG dsR35 (S2 2 S0 S1) (RL [fun v _ => v = (.pointer (some ⟨rb, 0, none⟩)), fun v _ => v = q39, (fun v W => ∃ x, v = Value.tuple #[x, .int .i64 0] ∧ PS x W), (fun v W => ∃ x, v = Value.tuple #[x, .int .i64 0] ∧ PS x W), PS, fun v _ => v = (.int .i64 0), PS, fun v _ => v = (.int .i64 0)]) (by decide) rfl hS0 [true, true, true, true, true, true, true, true] ?_ (fun u W hS hR => hend u W hS (hR 6 (by decide)) (hR 7 (by decide)))
  unfold opsR35
  refine StepAllG.cons rfl (fun u W hS hd => ?_) (StepAllG.cons rfl (fun u W hS hd => ?_) (StepAllG.cons rfl (fun u W hS hd => ?_) (StepAllG.cons rfl (fun u W hS hd => ?_) (StepAllG.cons rfl (fun u W hS hd => ?_) (StepAllG.cons rfl (fun u W hS hd => ?_) (StepAllG.cons rfl (fun u W hS hd => ?_) (StepAllG.cons rfl (fun u W hS hd => ?_) (trivial))))))))
  · have hS : S0 W := hS
    refine DoesG.plain rfl ?_
    exact step_value _ rfl (run_move _) ((eout u 20 (by decide) (by omega)).trans h20) KeepTo.refl hS
  · have hS : S0 W := hS
    refine DoesG.plain rfl ?_
    exact step_value _ rfl (run_move _) ((eout u 39 (by decide) (by omega)).trans h39) KeepTo.refl hS
  · have hS : S0 W := hS
    refine DoesG.plain rfl ?_
    have e0 : u 267 = (.pointer (some ⟨rb, 0, none⟩)) := hd 0 (by decide)
    have e1 : u 268 = q39 := hd 1 (by decide)
    have hj := hcall W hS
    rw [← e0, ← ein u 267 (by decide) (by omega), ← e1, ← ein u 268 (by decide) (by omega)] at hj
    refine step_enter _ rfl (run_call3 _ _ _ _ _ (ef u _) callf_ans) _ hj ?_
    rintro e w' ⟨x, rfl, hp, hS'⟩
    exact ⟨_, rfl, ⟨x, rfl, hp⟩, (fun j hj h => by match j, hj with | 0, _ => exact h | 1, _ => exact h), hS'⟩
  · have hS : S1 W := hS
    refine DoesG.plain rfl ?_
    have e2 : ((fun v W => ∃ x, v = Value.tuple #[x, .int .i64 0] ∧ PS x W)) (u 269) W := hd 2 (by decide)
    exact step_value _ rfl (run_move _) (show ((fun v W => ∃ x, v = Value.tuple #[x, .int .i64 0] ∧ PS x W)) _ W by rw [ein u 269 (by decide) (by omega)]; exact e2) KeepTo.refl hS
  · have hS : S1 W := hS
    refine DoesG.plain rfl ?_
    have e3 : ((fun v W => ∃ x, v = Value.tuple #[x, .int .i64 0] ∧ PS x W)) (u 266) W := hd 3 (by decide)
    obtain ⟨x, q, hp⟩ := e3
    exact step_value _ rfl (run_ext _ x _ 0 ((ein u 266 (by decide) (by omega)).trans q) (by omega)) (show PS _ W by simpa using hp) KeepTo.refl hS
  · have hS : S1 W := hS
    refine DoesG.plain rfl ?_
    have e3 : ((fun v W => ∃ x, v = Value.tuple #[x, .int .i64 0] ∧ PS x W)) (u 266) W := hd 3 (by decide)
    obtain ⟨x, q, hp⟩ := e3
    exact step_value _ rfl (run_ext _ x _ 1 ((ein u 266 (by decide) (by omega)).trans q) (by omega)) (by simp [RL]) KeepTo.refl hS
  · have hS : S1 W := hS
    refine DoesG.plain rfl ?_
    have e4 : (PS) (u 270) W := hd 4 (by decide)
    exact step_value _ rfl (run_assign _) (show (PS) _ W by rw [ein u 270 (by decide) (by omega)]; exact e4) KeepTo.refl hS
  · have hS : S1 W := hS
    refine DoesG.plain rfl ?_
    have e5 : u 271 = (.int .i64 0) := hd 5 (by decide)
    exact step_value _ rfl (run_assign _) ((ein u 271 (by decide) (by omega)).trans e5) KeepTo.refl hS

end Go.Proofs.YtfekelmldebplaaGreatDoor

namespace Go.Proofs.YtfekelmldebplaaGreatDoor
open Go.RowKit Go.MuLone

theorem tmp_some (a : Act) (k : Nat) (hk : k < a.tmps.size) (v : Value) (h : a.eval (.tmp k) = v) : a.tmps[k]? = some v := by
  subst h
  simp [Act.eval, hk]
theorem wp_asg (a : Act) (Q : Exit → Act → World → Prop) (w : World) (id d : Nat) (x : Operand) (T : TypeId) (p : String) (af : Array Edge) (v : Value) (hv : a.eval x = v) (h : Q .normal (a.put (some d) v) w) : (Code.region id ([{ dst := some d, op := .assign x, type := T, pos := p, after := af, guard := none }] : List Oper).toArray false).wp Tryz.prog Q a w := by
  subst hv
  exact wp_region_lit (wpList_value rfl (run_assign _) (wpList_nil h))
theorem wp_mov (a : Act) (Q : Exit → Act → World → Prop) (w : World) (id d : Nat) (x : Operand) (T : TypeId) (p : String) (af : Array Edge) (v : Value) (hv : a.eval x = v) (h : Q .normal (a.put (some d) v) w) : (Code.region id ([{ dst := some d, op := .move x, type := T, pos := p, after := af, guard := none }] : List Oper).toArray false).wp Tryz.prog Q a w := by
  subst hv
  exact wp_region_lit (wpList_value rfl (run_move _) (wpList_nil h))
theorem wp_mov_asg (a : Act) (Q : Exit → Act → World → Prop) (w : World) (id d1 d2 : Nat) (x : Operand) (T1 T2 : TypeId) (p1 p2 : String) (af1 af2 : Array Edge) (v : Value) (h1 : d1 < a.tmps.size) (hv : a.eval x = v) (h : Q .normal ((a.put (some d1) v).put (some d2) v) w) : (Code.region id ([{ dst := some d1, op := .move x, type := T1, pos := p1, after := af1, guard := none }, { dst := some d2, op := .assign (.tmp d1), type := T2, pos := p2, after := af2, guard := none }] : List Oper).toArray false).wp Tryz.prog Q a w := by
  subst hv
  refine wp_region_lit (wpList_value rfl (run_move _) (wpList_value rfl (run_assign _) (wpList_nil ?_)))
  have e : (a.put (some d1) (a.eval x)).eval (.tmp d1) = a.eval x := by rw [eval_put _ _ _ _ h1, if_pos rfl]
  show Q .normal (Act.put _ (some d2) (Act.eval (a.put (some d1) (a.eval x)) (.tmp d1))) w
  rw [e]
  exact h
/-- A loop that counts. -/
theorem wp_count {P : Program} {Q : Exit → Act → World → Prop} {a : Act} {w : World} {id : Nat} {T R : Code} {c : Operand} (N s : Nat) (Inv : Nat → Act → World → Prop) (hs : ∀ k a w, Inv k a w → a.eval (.tmp s) = .int .i64 (k : Int)) (h0 : Inv 0 a w)
    (hT : ∀ k a w, k ≤ N → Inv k a w → ∀ Z : Exit → Act → World → Prop, (∀ a' w', a'.eval c = .bool (decide (k < N)) → Inv k a' w' → Z .normal a' w') → T.wp P Z a w)
    (hR : ∀ k a w, k < N → Inv k a w → ∀ Z : Exit → Act → World → Prop, (∀ a' w', Inv (k + 1) a' w' → Z .normal a' w') → R.wp P Z a w)
    (hE : ∀ a w, Inv N a w → Q .normal a w) : (Code.block id (Code.loop (Code.seq (Code.seq T (Code.cond c Code.skip (Code.exit id))) R))).wp P Q a w := by
  refine wp_block (wp_loop (fun a w => ∃ k, k ≤ N ∧ Inv k a w) (fun a _ => N - (intOf (a.eval (.tmp s))).toNat) ⟨0, Nat.zero_le _, h0⟩ ?_)
  rintro a w ⟨k, hk, hI⟩
  refine wp_seq (wp_seq (hT k a w hk hI _ (fun a' w' hc hI' => ?_)))
  by_cases hlt : k < N
  · rw [decide_eq_true hlt] at hc
    refine wp_cond_true hc (wp_skip ?_)
    refine hR k a' w' hlt hI' _ (fun a2 w2 hI2 => ?_)
    refine ⟨⟨k + 1, hlt, hI2⟩, ?_⟩
    rw [hs _ _ _ hI2, hs _ _ _ hI]
    simp [intOf]
    omega
  · rw [decide_eq_false hlt] at hc
    obtain rfl : k = N := by omega
    refine wp_cond_false hc (wp_exit ?_)
    show Exit.inBlock id Q (.exit id) a' w'
    simp only [Exit.inBlock, if_true]
    exact hE _ _ hI'
theorem LS.c17 {w W : World} {x : RI} {L : List Int} (h : LS w W x L) : W.cell? ⟨x.b17, 1, none⟩ = some (.int .i64 (x.lo : Int)) ∧ W.cell? ⟨x.b17, 2, none⟩ = some (.int .i64 (x.hi : Int)) := by
  have c1 := cell_of_row _ _ 1 _ _ _ h.r17
  have c2 := cell_of_row _ _ 2 _ _ _ h.r17
  exact ⟨by rw [c1]; rfl, by rw [c2]; rfl⟩
theorem LS.c18 {w W : World} {x : RI} {L : List Int} (h : LS w W x L) : W.cell? ⟨x.b18, 1, none⟩ = some (.int .i64 (x.wlo : Int)) ∧ W.cell? ⟨x.b18, 2, none⟩ = some (.int .i64 (x.whi : Int)) := by
  have c1 := cell_of_row _ _ 1 _ _ _ h.r18
  have c2 := cell_of_row _ _ 2 _ _ _ h.r18
  exact ⟨by rw [c1]; rfl, by rw [c2]; rfl⟩
theorem LS.get2 {w W : World} {x : RI} {L : List Int} (h : LS w W x L) (c m : Nat) (h1 : 1 ≤ m) (hm : c + m ≤ 50) :
    Calls Tryz.prog 19 #[.pointer (some ⟨x.rb, 0, none⟩), .int .i64 3, .int .i64 (c : Int), .int .i64 (m : Int)] W fun r w' => ∃ b o cp, r = .returned (.tuple #[.slice (some ⟨b, o, none⟩) m cp, .int .i64 0]) ∧ (∀ i, i < m → w'.cell? ⟨b, o + i, none⟩ = some (.int .i64 (L.getD (c + i) 0))) ∧ LS w w' x L ∧ LeB W w' := by
  obtain ⟨t, hB, hL, ho⟩ := h.bk
  refine (relayGet_any x.B x.rb x.sb x.tb x.kb t _ x.us 3 (by omega) (c : Int) (m : Int) W hB (by omega)).mono ?_
  rintro r w' ⟨v, rfl, hg, hB', hc⟩
  have hlen := h.len
  have hge : getErr (t.at 3).L.length (c : Int) (m : Int) = 0 := getErr_ok (t.at 3).L.length c m (by rw [hL]; omega)
  rw [hge] at hg ⊢
  obtain ⟨hl, _⟩ := hg.1 rfl
  rw [hL, show ((c : Nat) : Int).toNat = c by omega, show ((m : Nat) : Int).toNat = m by omega] at hl
  have hll : ((L.drop c).take m).length = m := by simp; omega
  obtain ⟨a, cp, e, hh⟩ := hl
  rw [hll] at e hh
  subst e
  rcases hh with hh | ⟨b, o, rfl, _, hcell⟩
  · have := congrArg List.length hh
    rw [hll] at this
    simp at this
    omega
  · refine ⟨b, o, cp, rfl, fun i hi => ?_, h.turn hB (hc.mono (fun _ _ e => .inl e)) hB' hL h.len h.bd ho, LeB.turned hB (hc.mono (fun _ _ e => .inl e))⟩
    rw [hcell i hi]
    congr 2
    simp only [List.getD_eq_getElem?_getD, List.getElem?_take, List.getElem?_drop]
    rw [if_pos hi]
theorem span_b (lo hi p n : Nat) : (decide ((lo : Int) ≤ (p : Int)) && decide ((p : Int) + (n : Int) - 1 ≤ (hi : Int))) = decide (lo ≤ p ∧ p + n ≤ hi + 1) := by
  rw [Bool.eq_iff_iff]
  simp
  omega
theorem one_b (lo hi p : Nat) : (decide ((lo : Int) ≤ (p : Int)) && decide ((p : Int) ≤ (hi : Int))) = decide (lo ≤ p ∧ p + 1 ≤ hi + 1) := by
  rw [Bool.eq_iff_iff]
  simp
theorem bys_read (p n : Nat) (hp : p ≤ 65535) (hn : n ≤ 65535) : Bys (readB p n) := (Bys.wd (by omega) (by omega)).append (Bys.wd (by omega) (by omega))

/-! ### Ruled's code, behind its first part -/
def bodyC (f : Func) : Code := f.body.getD .skip
theorem c12_12 : tailC 12 (bodyC Tryz.f12) = Code.seq (Code.region 13 opsR13.toArray false) (tailC 13 (bodyC Tryz.f12)) := by kernel_rfl
theorem c12_13 : tailC 13 (bodyC Tryz.f12) = Code.seq (Code.region 14 opsR14.toArray false) (tailC 14 (bodyC Tryz.f12)) := by kernel_rfl
theorem c12_14 : tailC 14 (bodyC Tryz.f12) = Code.seq (Code.region 15 opsR15.toArray true) (tailC 15 (bodyC Tryz.f12)) := by kernel_rfl
theorem c12_15 : tailC 15 (bodyC Tryz.f12) = Code.seq (Code.region 16 opsR16.toArray false) (tailC 16 (bodyC Tryz.f12)) := by kernel_rfl
theorem c12_16 : tailC 16 (bodyC Tryz.f12) = Code.seq (Code.region 17 opsR17.toArray false) (tailC 17 (bodyC Tryz.f12)) := by kernel_rfl
theorem c12_17 : tailC 17 (bodyC Tryz.f12) = Code.seq (Code.region 18 opsR18.toArray false) (tailC 18 (bodyC Tryz.f12)) := by kernel_rfl
theorem c12_18 : tailC 18 (bodyC Tryz.f12) = Code.seq (Code.region 19 opsR19.toArray false) (tailC 19 (bodyC Tryz.f12)) := by kernel_rfl
theorem c12_19 : tailC 19 (bodyC Tryz.f12) = Code.seq (Code.region 20 ([{ dst := some 34, op := Op.assign (Operand.const (Value.int IntKind.i64 0)), type := 3, pos := "turns.go:79", after := #[], guard := none }] : List Oper).toArray false) (tailC 20 (bodyC Tryz.f12)) := by kernel_rfl
theorem c12_20 : tailC 20 (bodyC Tryz.f12) = Code.seq (Code.seq (Code.region 21 ([{ dst := some 168, op := Op.move (Operand.tmp 29), type := 4, pos := "turns.go:80", after := #[], guard := none }] : List Oper).toArray false) (Code.cond (.tmp 168) (Code.region 22 ([{ dst := some 34, op := Op.assign (Operand.const (Value.int IntKind.i64 5)), type := 3, pos := "turns.go:81", after := #[], guard := none }] : List Oper).toArray false) Code.skip)) (tailC 21 (bodyC Tryz.f12)) := by kernel_rfl
theorem c12_21 : tailC 21 (bodyC Tryz.f12) = Code.seq (Code.seq (Code.region 23 opsR23.toArray false) (Code.cond (.tmp 190) (Code.seq (Code.region 24 ([{ dst := some 16, op := Op.assign (Operand.const (Value.bool false)), type := 4, pos := "turns.go:84", after := #[], guard := none }] : List Oper).toArray false) Code.ret) Code.skip)) (tailC 22 (bodyC Tryz.f12)) := by kernel_rfl
theorem c12_22 : tailC 22 (bodyC Tryz.f12) = Code.seq (Code.region 25 opsR25.toArray false) (tailC 23 (bodyC Tryz.f12)) := by kernel_rfl
theorem c12_23 : tailC 23 (bodyC Tryz.f12) = Code.seq (Code.region 26 opsR26.toArray false) (tailC 24 (bodyC Tryz.f12)) := by kernel_rfl
theorem c12_24 : tailC 24 (bodyC Tryz.f12) = Code.seq (Code.region 27 opsR27.toArray false) (tailC 25 (bodyC Tryz.f12)) := by kernel_rfl
theorem c12_25 : tailC 25 (bodyC Tryz.f12) = Code.seq (Code.region 28 ([{ dst := some 37, op := Op.assign (Operand.const (Value.slice none 0 0)), type := 37, pos := "turns.go:89", after := #[], guard := none }] : List Oper).toArray false) (tailC 26 (bodyC Tryz.f12)) := by kernel_rfl
theorem c12_26 : tailC 26 (bodyC Tryz.f12) = Code.seq (Code.seq (Code.region 29 ([{ dst := some 38, op := Op.assign (Operand.const (Value.int IntKind.i64 0)), type := 3, pos := "turns.go:90", after := #[], guard := none }] : List Oper).toArray false) (Code.block 0 (Code.loop (Code.seq (Code.seq (Code.region 30 opsR30.toArray false) (Code.cond (.tmp 219) Code.skip (Code.exit 0))) (Code.seq (Code.block 1 (Code.region 32 ([{ dst := some 222, op := Op.move (Operand.tmp 37), type := 37, pos := "turns.go:91", after := #[], guard := none },
  { dst := some 223, op := Op.buildSlice 37 1 #[(0, Operand.const (Value.int IntKind.u8 1))], type := 37, pos := "turns.go:91", after := #[], guard := none },
  { dst := some 224, op := Op.call { callee := Callee.builtin Builtin.append, args := #[Operand.tmp 222, Operand.tmp 223], argTypes := #[37, 37] }, type := 37, pos := "turns.go:91", after := #[{ on := 0, ground := Ground.data }, { on := 1, ground := Ground.data }], guard := none },
  { dst := some 37, op := Op.assign (Operand.tmp 224), type := 37, pos := "turns.go:91", after := #[{ on := 2, ground := Ground.data }, { on := 2, ground := Ground.chain }, { on := 0, ground := Ground.phase }, { on := 1, ground := Ground.phase }, { on := 2, ground := Ground.phase }], guard := none }] : List Oper).toArray false)) (Code.region 31 ([{ dst := some 220, op := Op.move (Operand.tmp 38), type := 3, pos := "turns.go:90", after := #[], guard := none },
  { dst := some 221, op := Op.binOp BinOp.add 3 (Operand.tmp 220) (Operand.const (Value.int IntKind.i64 1)) 3, type := 3, pos := "turns.go:90", after := #[{ on := 0, ground := Ground.data }], guard := none },
  { dst := some 38, op := Op.assign (Operand.tmp 221), type := 3, pos := "turns.go:90", after := #[{ on := 1, ground := Ground.data }, { on := 0, ground := Ground.phase }, { on := 1, ground := Ground.phase }], guard := none }] : List Oper).toArray false)))))) (tailC 27 (bodyC Tryz.f12)) := by kernel_rfl
theorem c12_27 : tailC 27 (bodyC Tryz.f12) = Code.seq (Code.region 33 opsR33.toArray false) (tailC 28 (bodyC Tryz.f12)) := by kernel_rfl
theorem c12_28 : tailC 28 (bodyC Tryz.f12) = Code.seq (Code.region 34 opsR34.toArray true) (tailC 29 (bodyC Tryz.f12)) := by kernel_rfl
theorem c12_29 : tailC 29 (bodyC Tryz.f12) = Code.seq (Code.region 35 opsR35.toArray false) (tailC 30 (bodyC Tryz.f12)) := by kernel_rfl
theorem c12_30 : tailC 30 (bodyC Tryz.f12) = Code.seq (Code.region 36 opsR36.toArray false) (tailC 31 (bodyC Tryz.f12)) := by kernel_rfl
theorem c12_31 : tailC 31 (bodyC Tryz.f12) = Code.seq (Code.region 37 opsR37.toArray false) (tailC 32 (bodyC Tryz.f12)) := by kernel_rfl
theorem c12_32 : tailC 32 (bodyC Tryz.f12) = Code.seq (Code.region 38 ([{ dst := some 43, op := Op.assign (Operand.const (Value.int IntKind.i64 0)), type := 3, pos := "turns.go:98", after := #[], guard := none }] : List Oper).toArray false) (tailC 33 (bodyC Tryz.f12)) := by kernel_rfl
theorem c12_33 : tailC 33 (bodyC Tryz.f12) = Code.seq (Code.seq (Code.region 39 opsR39.toArray false) (Code.cond (.tmp 297) (Code.region 40 opsR40.toArray false) (Code.seq (Code.region 41 ([{ dst := some 310, op := Op.move (Operand.tmp 27), type := 4, pos := "turns.go:101", after := #[], guard := none }] : List Oper).toArray false) (Code.cond (.tmp 310) (Code.region 42 ([{ dst := some 43, op := Op.assign (Operand.const (Value.int IntKind.i64 257)), type := 3, pos := "turns.go:102", after := #[], guard := none }] : List Oper).toArray false) Code.skip)))) (tailC 34 (bodyC Tryz.f12)) := by kernel_rfl
theorem c12_34 : tailC 34 (bodyC Tryz.f12) = Code.seq (Code.seq (Code.region 43 opsR43.toArray false) (Code.cond (.tmp 334) (Code.seq (Code.region 44 ([{ dst := some 16, op := Op.assign (Operand.const (Value.bool false)), type := 4, pos := "turns.go:105", after := #[], guard := none }] : List Oper).toArray false) Code.ret) Code.skip)) (tailC 35 (bodyC Tryz.f12)) := by kernel_rfl
theorem c12_35 : tailC 35 (bodyC Tryz.f12) = Code.seq (Code.seq (Code.region 45 ([{ dst := some 44, op := Op.assign (Operand.const (Value.int IntKind.i64 0)), type := 3, pos := "turns.go:107", after := #[], guard := none }] : List Oper).toArray false) (Code.block 2 (Code.loop (Code.seq (Code.seq (Code.region 46 opsR46.toArray false) (Code.cond (.tmp 337) Code.skip (Code.exit 2))) (Code.seq (Code.block 3 (Code.seq (Code.region 48 opsR48.toArray false) (Code.cond (.tmp 348) (Code.seq (Code.region 49 ([{ dst := some 16, op := Op.assign (Operand.const (Value.bool false)), type := 4, pos := "turns.go:109", after := #[], guard := none }] : List Oper).toArray false) Code.ret) Code.skip))) (Code.region 47 ([{ dst := some 338, op := Op.move (Operand.tmp 44), type := 3, pos := "turns.go:107", after := #[], guard := none },
  { dst := some 339, op := Op.binOp BinOp.add 3 (Operand.tmp 338) (Operand.const (Value.int IntKind.i64 1)) 3, type := 3, pos := "turns.go:107", after := #[{ on := 0, ground := Ground.data }], guard := none },
  { dst := some 44, op := Op.assign (Operand.tmp 339), type := 3, pos := "turns.go:107", after := #[{ on := 1, ground := Ground.data }, { on := 0, ground := Ground.phase }, { on := 1, ground := Ground.phase }], guard := none }] : List Oper).toArray false)))))) (tailC 36 (bodyC Tryz.f12)) := by kernel_rfl
theorem c12_36 : tailC 36 (bodyC Tryz.f12) = Code.seq (Code.region 50 opsR50.toArray false) (tailC 37 (bodyC Tryz.f12)) := by kernel_rfl
theorem c12_37 : tailC 37 (bodyC Tryz.f12) = Code.seq (Code.region 51 ([{ dst := some 359, op := Op.move (Operand.tmp 45), type := 4, pos := "turns.go:113", after := #[], guard := none },
  { dst := some 16, op := Op.assign (Operand.tmp 359), type := 4, pos := "turns.go:113", after := #[{ on := 0, ground := Ground.data }, { on := 0, ground := Ground.phase }], guard := none }] : List Oper).toArray false) Code.ret := by kernel_rfl
end Go.Proofs.YtfekelmldebplaaGreatDoor

namespace Go.Proofs.YtfekelmldebplaaGreatDoor
open Go.RowKit Go.MuLone

theorem may0 (md : Bool) (rs : List Rule) (t a : Int) : mayB md rs t a 0 = true := by simp [mayB]
section
variable {w W : World} {x : RI}
/-- 3, of the client 1. -/
theorem LS.done3 (h : LS w W x (List.replicate 50 0)) (p n : Nat) (hp : p ≤ 40) (hn1 : 1 ≤ n) (hn : n ≤ 8) (B : Nat) (v y : Value) (rd : Bool) (hrd : rd = decide (x.lo ≤ p ∧ p + n ≤ x.hi + 1)) (hv : Owns W B v (3 :: readB p n)) (hy : Owns W B y (if rd then 3 :: 2 * (n : Int) :: List.replicate (2 * n) 0 else excB 3 4)) :
    Calls Tryz.prog 23 #[.pointer (some ⟨x.rb, 0, none⟩), .int .i64 1, v, y] W fun r w' => r = .returned (.bool true) ∧ LS w w' x (List.replicate 50 0) ∧ LeB W w' := by
  have hb : (mayB false (threeR x.lo x.hi x.wlo x.whi) 3 ((p : Nat) : Int) n && mayB true (threeR x.lo x.hi x.wlo x.whi) 3 ((0 : Nat) : Int) 0) = rd := by
    rw [may_rd _ _ _ _ _ _ hn1, may0, Bool.and_true, hrd]
  have hw : Bys (if rd then 3 :: 2 * (n : Int) :: List.replicate (2 * n) 0 else excB 3 4) := bys_if _ _ _ (bys_cons (by omega) (bys_cons (by omega) (rep_bys _ _ (by omega)))) (exc_bys 3 (by omega))
  refine (h.done 1 (threeR x.lo x.hi x.wlo x.whi) rfl 3 (readB p n) (readQ 3 p n) B B v y hv (by simp [readB, wd]) (bys_read p n (by omega) (by omega)) (parse_readQ 3 p n (by omega) (by omega) hn1 (by omega)) rfl (by show p + n ≤ 50; omega) (by show 0 + 0 ≤ 50; omega) rd hb _ hy (rep_read p n rd (by omega)).1.symm hw).mono ?_
  rintro r w' ⟨rfl, h1, h2⟩
  rw [(rep_read p n rd (by omega)).2] at h1
  exact ⟨rfl, h1, h2⟩
theorem LS.done6 {L : List Int} (h : LS w W x L) (c : Nat) (hc : c < 40) (B : Nat) (v y : Value) (on : Bool) (hon : on = decide (x.wlo ≤ c ∧ c + 1 ≤ x.whi + 1)) (hv : Owns W B v (6 :: b6 c 5)) (hy : Owns W B y (if on then 6 :: b6 c 5 else excB 6 4)) :
    Calls Tryz.prog 23 #[.pointer (some ⟨x.rb, 0, none⟩), .int .i64 1, v, y] W fun r w' => r = .returned (.bool true) ∧ LS w w' x (nxtR L (q6 c 5) on) ∧ LeB W w' := by
  have hb : (mayB false (threeR x.lo x.hi x.wlo x.whi) 3 ((0 : Nat) : Int) 0 && mayB true (threeR x.lo x.hi x.wlo x.whi) 3 ((c : Nat) : Int) 1) = on := by
    rw [may_wr _ _ _ _ _ _ (by omega), may0, Bool.true_and, hon]
  have hbb := b6_bys c 5 (by omega) (by omega)
  have hw : Bys (if on then 6 :: b6 c 5 else excB 6 4) := bys_if _ _ _ (bys_cons (by omega) hbb) (exc_bys 6 (by omega))
  exact h.done 1 (threeR x.lo x.hi x.wlo x.whi) rfl 6 (b6 c 5) (q6 c 5) B B v y hv (by simp [b6, wd]) hbb (parse_q6 c 5 (by omega) (by omega)) rfl (by show 0 + 0 ≤ 50; omega) (by show c + 1 ≤ 50; omega) on hb _ hy (rep_echo L (q6 c 5) 6 on (by simp [q6, b6, wd]) rfl).symm hw
theorem LS.done22 {L : List Int} (h : LS w W x L) (c : Nat) (hc : c < 40) (B : Nat) (v y : Value) (bo : Bool) (hbo : bo = (decide (x.wlo ≤ c ∧ c + 1 ≤ x.whi + 1) && decide (x.lo ≤ c ∧ c + 1 ≤ x.hi + 1))) (hv : Owns W B v (22 :: b22 c 0 0)) (hy : Owns W B y (if bo then 22 :: b22 c 0 0 else excB 22 4)) :
    Calls Tryz.prog 23 #[.pointer (some ⟨x.rb, 0, none⟩), .int .i64 1, v, y] W fun r w' => r = .returned (.bool true) ∧ LS w w' x (nxtR L (q22 c 0 0) bo) ∧ LeB W w' := by
  have hb : (mayB false (threeR x.lo x.hi x.wlo x.whi) 3 ((c : Nat) : Int) 1 && mayB true (threeR x.lo x.hi x.wlo x.whi) 3 ((c : Nat) : Int) 1) = bo := by
    rw [may_wr _ _ _ _ _ _ (by omega), may_rd _ _ _ _ _ _ (by omega), Bool.and_comm, hbo]
  have hbb := b22_bys c 0 0 (by omega) (by omega) (by omega)
  have hw : Bys (if bo then 22 :: b22 c 0 0 else excB 22 4) := bys_if _ _ _ (bys_cons (by omega) hbb) (exc_bys 22 (by omega))
  exact h.done 1 (threeR x.lo x.hi x.wlo x.whi) rfl 22 (b22 c 0 0) (q22 c 0 0) B B v y hv (by simp [b22, wd]) hbb (parse_q22 c 0 0 (by omega) (by omega) (by omega)) rfl (by show c + 1 ≤ 50; omega) (by show c + 1 ≤ 50; omega) bo hb _ hy (rep_echo L (q22 c 0 0) 22 bo (by simp [q22, b22, wd]) rfl).symm hw
theorem rep257 (m : Nat) : ∀ y ∈ List.replicate m (257 : Int), 0 ≤ y ∧ y ≤ 65535 := fun y hy => by rw [List.eq_of_mem_replicate hy]; omega
theorem rep0 (m : Nat) : ∀ y ∈ List.replicate m (0 : Int), 0 ≤ y ∧ y ≤ 65535 := fun y hy => by rw [List.eq_of_mem_replicate hy]; omega
theorem LS.done16 {L : List Int} (h : LS w W x L) (c m : Nat) (hc : c < 40) (hm1 : 1 ≤ m) (hm : m ≤ 8) (B : Nat) (v y : Value) (wt : Bool) (hwt : wt = decide (x.wlo ≤ c ∧ c + m ≤ x.whi + 1)) (hv : Owns W B v (16 :: b16 c (List.replicate m 257))) (hy : Owns W B y (if wt then 16 :: (wd (c : Int) ++ wd (m : Int)) else excB 16 4)) :
    Calls Tryz.prog 23 #[.pointer (some ⟨x.rb, 0, none⟩), .int .i64 1, v, y] W fun r w' => r = .returned (.bool true) ∧ LS w w' x (nxtR L (q16 c (List.replicate m 257)) wt) ∧ LeB W w' := by
  have hlen : (List.replicate m (257 : Int)).length = m := List.length_replicate
  have hb : (mayB false (threeR x.lo x.hi x.wlo x.whi) 3 ((0 : Nat) : Int) 0 && mayB true (threeR x.lo x.hi x.wlo x.whi) 3 ((c : Nat) : Int) (List.replicate m (257 : Int)).length) = wt := by
    rw [hlen, may_wr _ _ _ _ _ _ hm1, may0, Bool.true_and, hwt]
  have hbb := b16_bys c (List.replicate m 257) (by omega) (by omega) (rep257 m)
  have hb2 : Bys (wd (c : Int) ++ wd (m : Int)) := bys_read c m (by omega) (by omega)
  have hw : Bys (if wt then 16 :: (wd (c : Int) ++ wd (m : Int)) else excB 16 4) := bys_if _ _ _ (bys_cons (by omega) hb2) (exc_bys 16 (by omega))
  have he : (if wt then 16 :: (wd (c : Int) ++ wd (m : Int)) else excB 16 4) = repR L (q16 c (List.replicate m 257)) 16 wt := by
    rw [rep_echo L (q16 c (List.replicate m 257)) 16 wt (by simp [q16, wd]) rfl]
    show _ = if wt then 16 :: (wd (c : Int) ++ wd ((List.replicate m (257 : Int)).length : Int)) else excB 16 4
    rw [hlen]
  exact h.done 1 (threeR x.lo x.hi x.wlo x.whi) rfl 16 (b16 c (List.replicate m 257)) (q16 c (List.replicate m 257)) B B v y hv (by rw [b16_len, hlen]; omega) hbb (parse_q16 c (List.replicate m 257) (by omega) (by omega) (by omega) (rep257 m)) rfl (by show 0 + 0 ≤ 50; omega) (by show c + (List.replicate m (257 : Int)).length ≤ 50; omega) wt hb _ hy he hw
theorem LS.ans23 {L : List Int} (h : LS w W x L) (p n c m : Nat) (hp : p < 40) (hn1 : 1 ≤ n) (hn : n ≤ 8) (hc : c < 40) (hm1 : 1 ≤ m) (hm : m ≤ 8) (B : Nat) (v : Value) (bo : Bool) (hbo : bo = (decide (x.lo ≤ p ∧ p + n ≤ x.hi + 1) && decide (x.wlo ≤ c ∧ c + m ≤ x.whi + 1))) (hv : Owns W B v (23 :: b23 p n c (List.replicate m 0))) (hB : B ≤ W.heap.size) :
    Calls Tryz.prog 28 #[.pointer (some ⟨x.rb, 0, none⟩), .int .i64 1, v] W fun r w' => ∃ y, r = .returned (.tuple #[y, .int .i64 0]) ∧ Owns w' B y (repR L (q23 p n c (List.replicate m 0)) 23 bo) ∧ LS w w' x (nxtR L (q23 p n c (List.replicate m 0)) bo) := by
  have hlen : (List.replicate m (0 : Int)).length = m := List.length_replicate
  have hb : (mayB false (threeR x.lo x.hi x.wlo x.whi) 3 ((p : Nat) : Int) n && mayB true (threeR x.lo x.hi x.wlo x.whi) 3 ((c : Nat) : Int) (List.replicate m (0 : Int)).length) = bo := by
    rw [hlen, may_wr _ _ _ _ _ _ hm1, may_rd _ _ _ _ _ _ hn1, hbo]
  refine (h.answer 1 (threeR x.lo x.hi x.wlo x.whi) rfl 23 (b23 p n c (List.replicate m 0)) (q23 p n c (List.replicate m 0)) B v hv (by rw [b23_len, hlen]; omega) (b23_bys p n c _ (by omega) (by omega) (by omega) (by omega) (rep0 m)) (parse_q23 p n c _ (by omega) hn1 (by omega) (by omega) (by omega) (by omega) (rep0 m)) rfl (by show p + n ≤ 50; omega) (by show c + (List.replicate m (0 : Int)).length ≤ 50; omega) bo hb).mono ?_
  rintro r w' ⟨a, k, cp, rfl, ho, hl, _⟩
  exact ⟨_, rfl, ho.weak hB, hl⟩
theorem LS.done0 {L : List Int} (h : LS w W x L) (p n : Nat) (hp : p < 40) (hn1 : 1 ≤ n) (hn : n ≤ 8) (B : Nat) (v y : Value) (hv : Owns W B v (3 :: readB p n)) (hy : Owns W B y [131, 4]) :
    Calls Tryz.prog 23 #[.pointer (some ⟨x.rb, 0, none⟩), .int .i64 0, v, y] W fun r w' => r = .returned (.bool true) ∧ LS w w' x L ∧ LeB W w' := by
  have hb : (mayB false [otherR] 3 ((p : Nat) : Int) n && mayB true [otherR] 3 ((0 : Nat) : Int) 0) = false := by
    rw [may_other _ _ _ hn1, Bool.false_and]
  have hw : Bys [131, 4] := fun y hy => by
    simp at hy
    omega
  exact h.done 0 [otherR] rfl 3 (readB p n) (readQ 3 p n) B B v y hv (by simp [readB, wd]) (bys_read p n (by omega) (by omega)) (parse_readQ 3 p n (by omega) (by omega) hn1 (by omega)) rfl (by show p + n ≤ 50; omega) (by show 0 + 0 ≤ 50; omega) false hb _ hy rfl hw
end
/-- What stands there behind the writing of 6. -/
theorem nxt6 (c : Nat) (hc : c < 40) (on : Bool) : (nxtR (List.replicate 50 0) (q6 c 5) on).getD c 0 = if on then 5 else 0 := by
  cases on with
  | true =>
    show (carryL (List.replicate 50 0) (q6 c 5)).getD c 0 = 5
    rw [carry_write _ (q6 c 5) rfl rfl (by show c + 1 ≤ _; simp; omega) (rep0 50) (fun y hy => by
      simp [q6] at hy
      omega)]
    exact set_at (List.replicate 50 0) [5] c 0 (by simp; omega) (by simp)
  | false =>
    show (List.replicate 50 (0 : Int)).getD c 0 = 0
    rw [List.getD_eq_getElem?_getD, List.getElem?_replicate]
    split <;> rfl
/-- What stands there behind 16 and 23. -/
theorem nxt23 (L2 : List Int) (p n c m : Nat) (hl : L2.length = 50) (hd : ∀ y ∈ L2, 0 ≤ y ∧ y ≤ 65535) (hc : c < 40) (hm : m ≤ 8) (rd : Bool) (i : Nat) (hi : i < m) :
    (nxtR (nxtR L2 (q16 c (List.replicate m 257)) true) (q23 p n c (List.replicate m 0)) (rd && true)).getD (c + i) 0 = if rd then 0 else 257 := by
  have e1 : nxtR L2 (q16 c (List.replicate m 257)) true = setL L2 c (List.replicate m 257) := by
    show carryL L2 (q16 c (List.replicate m 257)) = _
    exact carry_write _ (q16 c (List.replicate m 257)) rfl rfl (by show c + (List.replicate m (257 : Int)).length ≤ _; simp; omega) hd (rep257 m)
  have hl3 : (setL L2 c (List.replicate m 257)).length = 50 := by rw [setL_len]; exact hl; simp; omega
  rw [e1]
  cases rd with
  | true =>
    show (carryL (setL L2 c (List.replicate m 257)) (q23 p n c (List.replicate m 0))).getD (c + i) 0 = 0
    rw [carry_write _ (q23 p n c (List.replicate m 0)) rfl rfl (by show c + (List.replicate m (0 : Int)).length ≤ _; rw [hl3]; simp; omega) (fun y hy => ?_) (rep0 m)]
    · rw [show (q23 p n c (List.replicate m 0)).wa = c from rfl, show (q23 p n c (List.replicate m 0)).vals = List.replicate m 0 from rfl, set_at _ _ _ _ (by rw [hl3]; simp; omega) (by simpa using hi)]
      rw [List.getD_eq_getElem?_getD, List.getElem?_replicate]
      split <;> rfl
    · unfold setL at hy
      rcases List.mem_append.1 hy with hy | hy
      · rcases List.mem_append.1 hy with hy | hy
        · exact hd y (List.mem_of_mem_take hy)
        · exact rep257 m y hy
      · exact hd y (List.mem_of_mem_drop hy)
  | false =>
    show (setL L2 c (List.replicate m 257)).getD (c + i) 0 = 257
    rw [set_at _ _ _ _ (by rw [hl]; simp; omega) (by simpa using hi)]
    simp [List.getD_eq_getElem?_getD, hi]
theorem rep23_t (L : List Int) (p n c m : Nat) (hl : L.length = 50) (hp : p + n ≤ 50) (hc : c + m ≤ 50) : (repR L (q23 p n c (List.replicate m 0)) 23 true).length = 2 + 2 * n ∧ (repR L (q23 p n c (List.replicate m 0)) 23 true).getD 0 0 = 23 := by
  have hw : (q23 p n c (List.replicate m 0)).wa + (q23 p n c (List.replicate m 0)).wc ≤ L.length := by
    show c + (List.replicate m (0 : Int)).length ≤ _
    simp
    omega
  have h1 : (spanL (carryL L (q23 p n c (List.replicate m 0))) p n).length = n := spanL_len _ _ _ (by rw [carryL_len _ _ hw]; omega)
  have e : repR L (q23 p n c (List.replicate m 0)) 23 true = 23 :: ((wordsL (spanL (carryL L (q23 p n c (List.replicate m 0))) p n)).length : Int) :: wordsL (spanL (carryL L (q23 p n c (List.replicate m 0))) p n) := rfl
  rw [e]
  refine ⟨?_, rfl⟩
  rw [List.length_cons, List.length_cons, wordsL_len, h1]
  omega
theorem rep23_f (L : List Int) (q : Req) : repR L q 23 false = [151, 4] := rfl
end Go.Proofs.YtfekelmldebplaaGreatDoor

namespace Go.Proofs.YtfekelmldebplaaGreatDoor
open Go.RowKit Go.MuLone

theorem put_defers (a : Act) (k : Nat) (v : Value) : (a.put (some k) v).defers = a.defers := rfl
set_option maxRecDepth 10000 in
set_option maxHeartbeats 1000000 in
theorem ruled_tail (w : World) (x : RI) (p n c m : Nat) (hp : p < 40) (hn1 : 1 ≤ n) (hn : n ≤ 8) (hc : c < 40) (hm1 : 1 ≤ m) (hm : m ≤ 8) (Q : Exit → Act → World → Prop) (hQ : ∀ a W, a.eval (.tmp 16) = .bool true → a.defers = [] → Below w.heap.size w W → Q .ret a W)
    (a0 : Act) (W0 : World) (z0 : 360 ≤ a0.tmps.size) (d0 : a0.defers = []) (h17_0 : a0.eval (.tmp 17) = .pointer (some ⟨x.b17, 0, none⟩)) (h18_0 : a0.eval (.tmp 18) = .pointer (some ⟨x.b18, 0, none⟩)) (h20_0 : a0.eval (.tmp 20) = .pointer (some ⟨x.rb, 0, none⟩)) (h22_0 : a0.eval (.tmp 22) = .int .i64 (p : Int)) (h23_0 : a0.eval (.tmp 23) = .int .i64 (n : Int)) (h24_0 : a0.eval (.tmp 24) = .int .i64 (c : Int)) (h25_0 : a0.eval (.tmp 25) = .int .i64 (m : Int)) (hL0 : LS w W0 x (List.replicate 50 0)) : (Code.region 13 opsR13.toArray false).wp Tryz.prog (Exit.then ((tailC 13 (bodyC Tryz.f12)).wp Tryz.prog Q) Q) a0 W0 := by
  obtain ⟨rd, hrd⟩ : ∃ rd, rd = decide (x.lo ≤ p ∧ p + n ≤ x.hi + 1) := ⟨_, rfl⟩
  obtain ⟨wt, hwt⟩ : ∃ wt, wt = decide (x.wlo ≤ c ∧ c + m ≤ x.whi + 1) := ⟨_, rfl⟩
  obtain ⟨on, hon⟩ : ∃ on, on = decide (x.wlo ≤ c ∧ c + 1 ≤ x.whi + 1) := ⟨_, rfl⟩
  obtain ⟨bo, hbo⟩ : ∃ bo, bo = (on && decide (x.lo ≤ c ∧ c + 1 ≤ x.hi + 1)) := ⟨_, rfl⟩
  have hbo2 : bo = (decide (x.wlo ≤ c ∧ c + 1 ≤ x.whi + 1) && decide (x.lo ≤ c ∧ c + 1 ≤ x.hi + 1)) := by rw [hbo, hon]
  have hSb : ∀ L W W', LS w W x L → Below W.heap.size W W' → LS w W' x L := fun L W W' h hb => h.below hb
  have hSz : ∀ L W, LS w W x L → w.heap.size ≤ W.heap.size := fun L W h => h.bel.size
  have hSf : ∀ L f v W W', (LS w W x L ∧ Fact.ok w.heap.size f v W) → Below W.heap.size W W' → (LS w W' x L ∧ Fact.ok w.heap.size f v W') := fun L f v W W' h hb => ⟨h.1.below hb, Fact.keep f v W W' h.2 (LeB.of_below hb)⟩
  refine (ruled_r13 a0 _ W0 13 x.b17 x.lo x.hi p n _ _ z0 (by omega) hn1 (by omega) h17_0 h22_0 h23_0 hL0.c17.1 hL0.c17.2 rfl rfl (fun u hu => ?_))
  show (tailC 13 (bodyC Tryz.f12)).wp Tryz.prog Q (over a0 dsR13 u) W0
  obtain ⟨a1, ha⟩ : ∃ b, b = over a0 dsR13 u := ⟨_, rfl⟩
  rw [← ha]
  have z1 : 360 ≤ a1.tmps.size := by rw [ha, over_size]; exact z0
  have d1 : a1.defers = [] := by rw [ha, over_defers]; exact d0
  have h17_1 : a1.eval (.tmp 17) = .pointer (some ⟨x.b17, 0, none⟩) := by rw [ha]; exact (eval_out a0 dsR13 u 17 (by decide) (by omega)).trans h17_0
  have h18_1 : a1.eval (.tmp 18) = .pointer (some ⟨x.b18, 0, none⟩) := by rw [ha]; exact (eval_out a0 dsR13 u 18 (by decide) (by omega)).trans h18_0
  have h20_1 : a1.eval (.tmp 20) = .pointer (some ⟨x.rb, 0, none⟩) := by rw [ha]; exact (eval_out a0 dsR13 u 20 (by decide) (by omega)).trans h20_0
  have h22_1 : a1.eval (.tmp 22) = .int .i64 (p : Int) := by rw [ha]; exact (eval_out a0 dsR13 u 22 (by decide) (by omega)).trans h22_0
  have h23_1 : a1.eval (.tmp 23) = .int .i64 (n : Int) := by rw [ha]; exact (eval_out a0 dsR13 u 23 (by decide) (by omega)).trans h23_0
  have h24_1 : a1.eval (.tmp 24) = .int .i64 (c : Int) := by rw [ha]; exact (eval_out a0 dsR13 u 24 (by decide) (by omega)).trans h24_0
  have h25_1 : a1.eval (.tmp 25) = .int .i64 (m : Int) := by rw [ha]; exact (eval_out a0 dsR13 u 25 (by decide) (by omega)).trans h25_0
  have h26_1 : a1.eval (.tmp 26) = .bool rd := by rw [ha]; exact (eval_in a0 dsR13 u 26 (by decide) (by omega)).trans (hu.trans (congrArg Value.bool ((span_b _ _ _ _).trans hrd.symm)))
  clear h17_0 h18_0 h20_0 h22_0 h23_0 h24_0 h25_0
  clear ha hu u z0 d0
  rw [c12_13]
  refine wp_seq (ruled_r14 a1 _ W0 14 x.b18 x.wlo x.whi c m _ _ z1 (by omega) hm1 (by omega) h18_1 h24_1 h25_1 hL0.c18.1 hL0.c18.2 rfl rfl (fun u hu => ?_))
  show (tailC 14 (bodyC Tryz.f12)).wp Tryz.prog Q (over a1 dsR14 u) W0
  obtain ⟨a2, ha⟩ : ∃ b, b = over a1 dsR14 u := ⟨_, rfl⟩
  rw [← ha]
  have z2 : 360 ≤ a2.tmps.size := by rw [ha, over_size]; exact z1
  have d2 : a2.defers = [] := by rw [ha, over_defers]; exact d1
  have h17_2 : a2.eval (.tmp 17) = .pointer (some ⟨x.b17, 0, none⟩) := by rw [ha]; exact (eval_out a1 dsR14 u 17 (by decide) (by omega)).trans h17_1
  have h18_2 : a2.eval (.tmp 18) = .pointer (some ⟨x.b18, 0, none⟩) := by rw [ha]; exact (eval_out a1 dsR14 u 18 (by decide) (by omega)).trans h18_1
  have h20_2 : a2.eval (.tmp 20) = .pointer (some ⟨x.rb, 0, none⟩) := by rw [ha]; exact (eval_out a1 dsR14 u 20 (by decide) (by omega)).trans h20_1
  have h22_2 : a2.eval (.tmp 22) = .int .i64 (p : Int) := by rw [ha]; exact (eval_out a1 dsR14 u 22 (by decide) (by omega)).trans h22_1
  have h23_2 : a2.eval (.tmp 23) = .int .i64 (n : Int) := by rw [ha]; exact (eval_out a1 dsR14 u 23 (by decide) (by omega)).trans h23_1
  have h24_2 : a2.eval (.tmp 24) = .int .i64 (c : Int) := by rw [ha]; exact (eval_out a1 dsR14 u 24 (by decide) (by omega)).trans h24_1
  have h25_2 : a2.eval (.tmp 25) = .int .i64 (m : Int) := by rw [ha]; exact (eval_out a1 dsR14 u 25 (by decide) (by omega)).trans h25_1
  have h26_2 : a2.eval (.tmp 26) = .bool rd := by rw [ha]; exact (eval_out a1 dsR14 u 26 (by decide) (by omega)).trans h26_1
  have h27_2 : a2.eval (.tmp 27) = .bool wt := by rw [ha]; exact (eval_in a1 dsR14 u 27 (by decide) (by omega)).trans (hu.trans (congrArg Value.bool ((span_b _ _ _ _).trans hwt.symm)))
  clear h17_1 h18_1 h20_1 h22_1 h23_1 h24_1 h25_1 h26_1
  clear ha hu u z1 d1
  rw [c12_14]
  refine wp_seq (ruled_r15 a2 _ W0 w.heap.size 15 (fun W => LS w W x (List.replicate 50 0)) x.rb p n rd (by omega) (by omega) hn1 (by omega) h20_2 h22_2 h23_2 h26_2 (hL0.below ((Below.refl _ _).drew)) (hSb _) (hSz _) (fun W v y h hv hy => h.done3 p n (by omega) hn1 hn _ v y rd hrd hv hy) (fun u W1 hL1 hu => ?_))
  show (tailC 15 (bodyC Tryz.f12)).wp Tryz.prog Q (over a2 dsR15 u) W1
  obtain ⟨a3, ha⟩ : ∃ b, b = over a2 dsR15 u := ⟨_, rfl⟩
  rw [← ha]
  have z3 : 360 ≤ a3.tmps.size := by rw [ha, over_size]; exact z2
  have d3 : a3.defers = [] := by rw [ha, over_defers]; exact d2
  have h17_3 : a3.eval (.tmp 17) = .pointer (some ⟨x.b17, 0, none⟩) := by rw [ha]; exact (eval_out a2 dsR15 u 17 (by decide) (by omega)).trans h17_2
  have h18_3 : a3.eval (.tmp 18) = .pointer (some ⟨x.b18, 0, none⟩) := by rw [ha]; exact (eval_out a2 dsR15 u 18 (by decide) (by omega)).trans h18_2
  have h20_3 : a3.eval (.tmp 20) = .pointer (some ⟨x.rb, 0, none⟩) := by rw [ha]; exact (eval_out a2 dsR15 u 20 (by decide) (by omega)).trans h20_2
  have h22_3 : a3.eval (.tmp 22) = .int .i64 (p : Int) := by rw [ha]; exact (eval_out a2 dsR15 u 22 (by decide) (by omega)).trans h22_2
  have h23_3 : a3.eval (.tmp 23) = .int .i64 (n : Int) := by rw [ha]; exact (eval_out a2 dsR15 u 23 (by decide) (by omega)).trans h23_2
  have h24_3 : a3.eval (.tmp 24) = .int .i64 (c : Int) := by rw [ha]; exact (eval_out a2 dsR15 u 24 (by decide) (by omega)).trans h24_2
  have h25_3 : a3.eval (.tmp 25) = .int .i64 (m : Int) := by rw [ha]; exact (eval_out a2 dsR15 u 25 (by decide) (by omega)).trans h25_2
  have h26_3 : a3.eval (.tmp 26) = .bool rd := by rw [ha]; exact (eval_out a2 dsR15 u 26 (by decide) (by omega)).trans h26_2
  have h27_3 : a3.eval (.tmp 27) = .bool wt := by rw [ha]; exact (eval_out a2 dsR15 u 27 (by decide) (by omega)).trans h27_2
  have h28_3 : a3.eval (.tmp 28) = .bool true := by rw [ha]; exact (eval_in a2 dsR15 u 28 (by decide) (by omega)).trans (hu)
  clear h17_2 h18_2 h20_2 h22_2 h23_2 h24_2 h25_2 h26_2 h27_2
  clear ha hu u hL0 z2 d2
  rw [c12_15]
  refine wp_seq (ruled_r16 a3 _ W1 16 x.b18 x.wlo x.whi c _ _ z3 h18_3 h24_3 hL1.c18.1 hL1.c18.2 rfl rfl (fun u hu => ?_))
  show (tailC 16 (bodyC Tryz.f12)).wp Tryz.prog Q (over a3 dsR16 u) W1
  obtain ⟨a4, ha⟩ : ∃ b, b = over a3 dsR16 u := ⟨_, rfl⟩
  rw [← ha]
  have z4 : 360 ≤ a4.tmps.size := by rw [ha, over_size]; exact z3
  have d4 : a4.defers = [] := by rw [ha, over_defers]; exact d3
  have h17_4 : a4.eval (.tmp 17) = .pointer (some ⟨x.b17, 0, none⟩) := by rw [ha]; exact (eval_out a3 dsR16 u 17 (by decide) (by omega)).trans h17_3
  have h20_4 : a4.eval (.tmp 20) = .pointer (some ⟨x.rb, 0, none⟩) := by rw [ha]; exact (eval_out a3 dsR16 u 20 (by decide) (by omega)).trans h20_3
  have h22_4 : a4.eval (.tmp 22) = .int .i64 (p : Int) := by rw [ha]; exact (eval_out a3 dsR16 u 22 (by decide) (by omega)).trans h22_3
  have h23_4 : a4.eval (.tmp 23) = .int .i64 (n : Int) := by rw [ha]; exact (eval_out a3 dsR16 u 23 (by decide) (by omega)).trans h23_3
  have h24_4 : a4.eval (.tmp 24) = .int .i64 (c : Int) := by rw [ha]; exact (eval_out a3 dsR16 u 24 (by decide) (by omega)).trans h24_3
  have h25_4 : a4.eval (.tmp 25) = .int .i64 (m : Int) := by rw [ha]; exact (eval_out a3 dsR16 u 25 (by decide) (by omega)).trans h25_3
  have h26_4 : a4.eval (.tmp 26) = .bool rd := by rw [ha]; exact (eval_out a3 dsR16 u 26 (by decide) (by omega)).trans h26_3
  have h27_4 : a4.eval (.tmp 27) = .bool wt := by rw [ha]; exact (eval_out a3 dsR16 u 27 (by decide) (by omega)).trans h27_3
  have h28_4 : a4.eval (.tmp 28) = .bool true := by rw [ha]; exact (eval_out a3 dsR16 u 28 (by decide) (by omega)).trans h28_3
  have h29_4 : a4.eval (.tmp 29) = .bool on := by rw [ha]; exact (eval_in a3 dsR16 u 29 (by decide) (by omega)).trans (hu.trans (congrArg Value.bool ((one_b _ _ _).trans hon.symm)))
  clear h17_3 h18_3 h20_3 h22_3 h23_3 h24_3 h25_3 h26_3 h27_3 h28_3
  clear ha hu u z3 d3
  rw [c12_16]
  refine wp_seq (ruled_r17 a4 _ W1 17 c z4 w.heap.size (fun W => LS w W x (List.replicate 50 0)) hL1 (hSb _) (hSz _) (by omega) h24_4 (fun u W2 hL2 hu => ?_))
  show (tailC 17 (bodyC Tryz.f12)).wp Tryz.prog Q (over a4 dsR17 u) W2
  obtain ⟨a5, ha⟩ : ∃ b, b = over a4 dsR17 u := ⟨_, rfl⟩
  rw [← ha]
  have z5 : 360 ≤ a5.tmps.size := by rw [ha, over_size]; exact z4
  have d5 : a5.defers = [] := by rw [ha, over_defers]; exact d4
  have h17_5 : a5.eval (.tmp 17) = .pointer (some ⟨x.b17, 0, none⟩) := by rw [ha]; exact (eval_out a4 dsR17 u 17 (by decide) (by omega)).trans h17_4
  have h20_5 : a5.eval (.tmp 20) = .pointer (some ⟨x.rb, 0, none⟩) := by rw [ha]; exact (eval_out a4 dsR17 u 20 (by decide) (by omega)).trans h20_4
  have h22_5 : a5.eval (.tmp 22) = .int .i64 (p : Int) := by rw [ha]; exact (eval_out a4 dsR17 u 22 (by decide) (by omega)).trans h22_4
  have h23_5 : a5.eval (.tmp 23) = .int .i64 (n : Int) := by rw [ha]; exact (eval_out a4 dsR17 u 23 (by decide) (by omega)).trans h23_4
  have h24_5 : a5.eval (.tmp 24) = .int .i64 (c : Int) := by rw [ha]; exact (eval_out a4 dsR17 u 24 (by decide) (by omega)).trans h24_4
  have h25_5 : a5.eval (.tmp 25) = .int .i64 (m : Int) := by rw [ha]; exact (eval_out a4 dsR17 u 25 (by decide) (by omega)).trans h25_4
  have h26_5 : a5.eval (.tmp 26) = .bool rd := by rw [ha]; exact (eval_out a4 dsR17 u 26 (by decide) (by omega)).trans h26_4
  have h27_5 : a5.eval (.tmp 27) = .bool wt := by rw [ha]; exact (eval_out a4 dsR17 u 27 (by decide) (by omega)).trans h27_4
  have h28_5 : a5.eval (.tmp 28) = .bool true := by rw [ha]; exact (eval_out a4 dsR17 u 28 (by decide) (by omega)).trans h28_4
  have h29_5 : a5.eval (.tmp 29) = .bool on := by rw [ha]; exact (eval_out a4 dsR17 u 29 (by decide) (by omega)).trans h29_4
  clear h17_4 h20_4 h22_4 h23_4 h24_4 h25_4 h26_4 h27_4 h28_4 h29_4
  have f30 : Fact.ok w.heap.size (.bytes (6 :: b6 c 5)) (a5.eval (.tmp 30)) W2 := by rw [ha, eval_in a4 dsR17 u 30 (by decide) (by omega)]; exact hu
  clear ha hu u hL1 z4 d4
  rw [c12_17]
  refine wp_seq (ruled_r18 a5 _ W2 18 x.rb c on z5 w.heap.size (fun W => LS w W x (List.replicate 50 0) ∧ Fact.ok w.heap.size (.bytes (6 :: b6 c 5)) (a5.eval (.tmp 30)) W) (fun W => LS w W x (nxtR (List.replicate 50 0) (q6 c 5) on)) ⟨hL2, f30⟩ (hSf _ _ _) (fun W h => hSz _ W h.1) h20_5 h29_5 (fun W h => h.2) (fun W v y h hv hy => h.1.done6 c hc _ v y on hon hv hy) (fun u W3 hL3 hu => ?_))
  show (tailC 18 (bodyC Tryz.f12)).wp Tryz.prog Q (over a5 dsR18 u) W3
  obtain ⟨a6, ha⟩ : ∃ b, b = over a5 dsR18 u := ⟨_, rfl⟩
  rw [← ha]
  have z6 : 360 ≤ a6.tmps.size := by rw [ha, over_size]; exact z5
  have d6 : a6.defers = [] := by rw [ha, over_defers]; exact d5
  have h17_6 : a6.eval (.tmp 17) = .pointer (some ⟨x.b17, 0, none⟩) := by rw [ha]; exact (eval_out a5 dsR18 u 17 (by decide) (by omega)).trans h17_5
  have h20_6 : a6.eval (.tmp 20) = .pointer (some ⟨x.rb, 0, none⟩) := by rw [ha]; exact (eval_out a5 dsR18 u 20 (by decide) (by omega)).trans h20_5
  have h22_6 : a6.eval (.tmp 22) = .int .i64 (p : Int) := by rw [ha]; exact (eval_out a5 dsR18 u 22 (by decide) (by omega)).trans h22_5
  have h23_6 : a6.eval (.tmp 23) = .int .i64 (n : Int) := by rw [ha]; exact (eval_out a5 dsR18 u 23 (by decide) (by omega)).trans h23_5
  have h24_6 : a6.eval (.tmp 24) = .int .i64 (c : Int) := by rw [ha]; exact (eval_out a5 dsR18 u 24 (by decide) (by omega)).trans h24_5
  have h25_6 : a6.eval (.tmp 25) = .int .i64 (m : Int) := by rw [ha]; exact (eval_out a5 dsR18 u 25 (by decide) (by omega)).trans h25_5
  have h26_6 : a6.eval (.tmp 26) = .bool rd := by rw [ha]; exact (eval_out a5 dsR18 u 26 (by decide) (by omega)).trans h26_5
  have h27_6 : a6.eval (.tmp 27) = .bool wt := by rw [ha]; exact (eval_out a5 dsR18 u 27 (by decide) (by omega)).trans h27_5
  have h28_6 : a6.eval (.tmp 28) = .bool true := by rw [ha]; exact (eval_out a5 dsR18 u 28 (by decide) (by omega)).trans h28_5
  have h29_6 : a6.eval (.tmp 29) = .bool on := by rw [ha]; exact (eval_out a5 dsR18 u 29 (by decide) (by omega)).trans h29_5
  have h31_6 : a6.eval (.tmp 31) = .bool true := by rw [ha]; exact (eval_in a5 dsR18 u 31 (by decide) (by omega)).trans (hu)
  clear h17_5 h20_5 h22_5 h23_5 h24_5 h25_5 h26_5 h27_5 h28_5 h29_5
  clear ha hu u hL2 f30 z5 d5
  obtain ⟨L1, hL1e⟩ : ∃ L1, L1 = nxtR (List.replicate 50 0) (q6 c 5) on := ⟨_, rfl⟩
  have h5 : L1.getD c 0 = if on then 5 else 0 := by rw [hL1e]; exact nxt6 c hc on
  rw [← hL1e] at hL3
  clear hL1e
  rw [c12_18]
  refine wp_seq (ruled_r19 a6 _ W3 19 x.rb c z6 (fun W => LS w W x L1) (fun W => LS w W x L1) hL3 h20_6 h24_6 (fun v W => ∃ b o cp, v = .slice (some ⟨b, o, none⟩) 1 cp ∧ W.cell? ⟨b, o + 0, none⟩ = some (.int .i64 (L1.getD c 0))) (fun W h => (h.get2 c 1 (by omega) (by omega)).mono (by
    rintro r w' ⟨b, o, cp, rfl, hcell, h1, _⟩
    exact ⟨_, rfl, ⟨b, o, cp, rfl, hcell 0 (by omega)⟩, h1⟩)) (fun u W4 hL4 hu hu2 => ?_))
  obtain ⟨b, o, cp, hu, hcell⟩ := hu
  show (tailC 19 (bodyC Tryz.f12)).wp Tryz.prog Q (over a6 dsR19 u) W4
  obtain ⟨a7, ha⟩ : ∃ b, b = over a6 dsR19 u := ⟨_, rfl⟩
  rw [← ha]
  have z7 : 360 ≤ a7.tmps.size := by rw [ha, over_size]; exact z6
  have d7 : a7.defers = [] := by rw [ha, over_defers]; exact d6
  have h17_7 : a7.eval (.tmp 17) = .pointer (some ⟨x.b17, 0, none⟩) := by rw [ha]; exact (eval_out a6 dsR19 u 17 (by decide) (by omega)).trans h17_6
  have h20_7 : a7.eval (.tmp 20) = .pointer (some ⟨x.rb, 0, none⟩) := by rw [ha]; exact (eval_out a6 dsR19 u 20 (by decide) (by omega)).trans h20_6
  have h22_7 : a7.eval (.tmp 22) = .int .i64 (p : Int) := by rw [ha]; exact (eval_out a6 dsR19 u 22 (by decide) (by omega)).trans h22_6
  have h23_7 : a7.eval (.tmp 23) = .int .i64 (n : Int) := by rw [ha]; exact (eval_out a6 dsR19 u 23 (by decide) (by omega)).trans h23_6
  have h24_7 : a7.eval (.tmp 24) = .int .i64 (c : Int) := by rw [ha]; exact (eval_out a6 dsR19 u 24 (by decide) (by omega)).trans h24_6
  have h25_7 : a7.eval (.tmp 25) = .int .i64 (m : Int) := by rw [ha]; exact (eval_out a6 dsR19 u 25 (by decide) (by omega)).trans h25_6
  have h26_7 : a7.eval (.tmp 26) = .bool rd := by rw [ha]; exact (eval_out a6 dsR19 u 26 (by decide) (by omega)).trans h26_6
  have h27_7 : a7.eval (.tmp 27) = .bool wt := by rw [ha]; exact (eval_out a6 dsR19 u 27 (by decide) (by omega)).trans h27_6
  have h28_7 : a7.eval (.tmp 28) = .bool true := by rw [ha]; exact (eval_out a6 dsR19 u 28 (by decide) (by omega)).trans h28_6
  have h29_7 : a7.eval (.tmp 29) = .bool on := by rw [ha]; exact (eval_out a6 dsR19 u 29 (by decide) (by omega)).trans h29_6
  have h31_7 : a7.eval (.tmp 31) = .bool true := by rw [ha]; exact (eval_out a6 dsR19 u 31 (by decide) (by omega)).trans h31_6
  have h32_7 : a7.eval (.tmp 32) = .slice (some ⟨b, o, none⟩) 1 cp := by rw [ha]; exact (eval_in a6 dsR19 u 32 (by decide) (by omega)).trans (hu)
  have h33_7 : a7.eval (.tmp 33) = .int .i64 0 := by rw [ha]; exact (eval_in a6 dsR19 u 33 (by decide) (by omega)).trans (hu2)
  clear h17_6 h20_6 h22_6 h23_6 h24_6 h25_6 h26_6 h27_6 h28_6 h29_6 h31_6
  clear ha hu hu2 u hL3 z6 d6
  rw [c12_19]
  refine wp_seq (wp_asg a7 _ W4 20 34 _ _ _ _ (.int .i64 0) rfl ?_)
  show (tailC 20 (bodyC Tryz.f12)).wp Tryz.prog Q (a7.put (some 34) (.int .i64 0)) W4
  obtain ⟨a8, ha⟩ : ∃ b, b = (a7.put (some 34) (.int .i64 0)) := ⟨_, rfl⟩
  rw [← ha]
  have z8 : 360 ≤ a8.tmps.size := by rw [ha, put_size]; exact z7
  have d8 : a8.defers = [] := by rw [ha, put_defers]; exact d7
  have h17_8 : a8.eval (.tmp 17) = .pointer (some ⟨x.b17, 0, none⟩) := by rw [ha, eval_put _ _ _ _ (by (try simp only [put_size]); omega), if_neg (by decide)]; exact h17_7
  have h20_8 : a8.eval (.tmp 20) = .pointer (some ⟨x.rb, 0, none⟩) := by rw [ha, eval_put _ _ _ _ (by (try simp only [put_size]); omega), if_neg (by decide)]; exact h20_7
  have h22_8 : a8.eval (.tmp 22) = .int .i64 (p : Int) := by rw [ha, eval_put _ _ _ _ (by (try simp only [put_size]); omega), if_neg (by decide)]; exact h22_7
  have h23_8 : a8.eval (.tmp 23) = .int .i64 (n : Int) := by rw [ha, eval_put _ _ _ _ (by (try simp only [put_size]); omega), if_neg (by decide)]; exact h23_7
  have h24_8 : a8.eval (.tmp 24) = .int .i64 (c : Int) := by rw [ha, eval_put _ _ _ _ (by (try simp only [put_size]); omega), if_neg (by decide)]; exact h24_7
  have h25_8 : a8.eval (.tmp 25) = .int .i64 (m : Int) := by rw [ha, eval_put _ _ _ _ (by (try simp only [put_size]); omega), if_neg (by decide)]; exact h25_7
  have h26_8 : a8.eval (.tmp 26) = .bool rd := by rw [ha, eval_put _ _ _ _ (by (try simp only [put_size]); omega), if_neg (by decide)]; exact h26_7
  have h27_8 : a8.eval (.tmp 27) = .bool wt := by rw [ha, eval_put _ _ _ _ (by (try simp only [put_size]); omega), if_neg (by decide)]; exact h27_7
  have h28_8 : a8.eval (.tmp 28) = .bool true := by rw [ha, eval_put _ _ _ _ (by (try simp only [put_size]); omega), if_neg (by decide)]; exact h28_7
  have h29_8 : a8.eval (.tmp 29) = .bool on := by rw [ha, eval_put _ _ _ _ (by (try simp only [put_size]); omega), if_neg (by decide)]; exact h29_7
  have h31_8 : a8.eval (.tmp 31) = .bool true := by rw [ha, eval_put _ _ _ _ (by (try simp only [put_size]); omega), if_neg (by decide)]; exact h31_7
  have h32_8 : a8.eval (.tmp 32) = .slice (some ⟨b, o, none⟩) 1 cp := by rw [ha, eval_put _ _ _ _ (by (try simp only [put_size]); omega), if_neg (by decide)]; exact h32_7
  have h33_8 : a8.eval (.tmp 33) = .int .i64 0 := by rw [ha, eval_put _ _ _ _ (by (try simp only [put_size]); omega), if_neg (by decide)]; exact h33_7
  have h34_8 : a8.eval (.tmp 34) = .int .i64 0 := by rw [ha, eval_put _ _ _ _ (by (try simp only [put_size]); omega), if_pos rfl]
  clear ha h17_7 h20_7 h22_7 h23_7 h24_7 h25_7 h26_7 h27_7 h28_7 h29_7 h31_7 h32_7 h33_7 z7 d7
  rw [c12_20]
  refine wp_seq (wp_seq (wp_mov a8 _ W4 21 168 _ _ _ _ (.bool on) h29_8 ?_))
  show Code.wp Tryz.prog _ _ (a8.put (some 168) (.bool on)) W4
  obtain ⟨a9, ha⟩ : ∃ b, b = (a8.put (some 168) (.bool on)) := ⟨_, rfl⟩
  rw [← ha]
  have z9 : 360 ≤ a9.tmps.size := by rw [ha, put_size]; exact z8
  have d9 : a9.defers = [] := by rw [ha, put_defers]; exact d8
  have h17_9 : a9.eval (.tmp 17) = .pointer (some ⟨x.b17, 0, none⟩) := by rw [ha, eval_put _ _ _ _ (by (try simp only [put_size]); omega), if_neg (by decide)]; exact h17_8
  have h20_9 : a9.eval (.tmp 20) = .pointer (some ⟨x.rb, 0, none⟩) := by rw [ha, eval_put _ _ _ _ (by (try simp only [put_size]); omega), if_neg (by decide)]; exact h20_8
  have h22_9 : a9.eval (.tmp 22) = .int .i64 (p : Int) := by rw [ha, eval_put _ _ _ _ (by (try simp only [put_size]); omega), if_neg (by decide)]; exact h22_8
  have h23_9 : a9.eval (.tmp 23) = .int .i64 (n : Int) := by rw [ha, eval_put _ _ _ _ (by (try simp only [put_size]); omega), if_neg (by decide)]; exact h23_8
  have h24_9 : a9.eval (.tmp 24) = .int .i64 (c : Int) := by rw [ha, eval_put _ _ _ _ (by (try simp only [put_size]); omega), if_neg (by decide)]; exact h24_8
  have h25_9 : a9.eval (.tmp 25) = .int .i64 (m : Int) := by rw [ha, eval_put _ _ _ _ (by (try simp only [put_size]); omega), if_neg (by decide)]; exact h25_8
  have h26_9 : a9.eval (.tmp 26) = .bool rd := by rw [ha, eval_put _ _ _ _ (by (try simp only [put_size]); omega), if_neg (by decide)]; exact h26_8
  have h27_9 : a9.eval (.tmp 27) = .bool wt := by rw [ha, eval_put _ _ _ _ (by (try simp only [put_size]); omega), if_neg (by decide)]; exact h27_8
  have h28_9 : a9.eval (.tmp 28) = .bool true := by rw [ha, eval_put _ _ _ _ (by (try simp only [put_size]); omega), if_neg (by decide)]; exact h28_8
  have h29_9 : a9.eval (.tmp 29) = .bool on := by rw [ha, eval_put _ _ _ _ (by (try simp only [put_size]); omega), if_neg (by decide)]; exact h29_8
  have h31_9 : a9.eval (.tmp 31) = .bool true := by rw [ha, eval_put _ _ _ _ (by (try simp only [put_size]); omega), if_neg (by decide)]; exact h31_8
  have h32_9 : a9.eval (.tmp 32) = .slice (some ⟨b, o, none⟩) 1 cp := by rw [ha, eval_put _ _ _ _ (by (try simp only [put_size]); omega), if_neg (by decide)]; exact h32_8
  have h33_9 : a9.eval (.tmp 33) = .int .i64 0 := by rw [ha, eval_put _ _ _ _ (by (try simp only [put_size]); omega), if_neg (by decide)]; exact h33_8
  have h34_9 : a9.eval (.tmp 34) = .int .i64 0 := by rw [ha, eval_put _ _ _ _ (by (try simp only [put_size]); omega), if_neg (by decide)]; exact h34_8
  have h168_9 : a9.eval (.tmp 168) = .bool on := by rw [ha, eval_put _ _ _ _ (by (try simp only [put_size]); omega), if_pos rfl]
  clear ha h17_8 h20_8 h22_8 h23_8 h24_8 h25_8 h26_8 h27_8 h28_8 h29_8 h31_8 h32_8 h33_8 h34_8 z8 d8
  refine cond_turn 168 34 22 _ _ _ (.int .i64 0) (.int .i64 5) on h168_9 (tmp_some _ _ (by omega) _ h34_9) (fun v hv => ?_)
  show (tailC 21 (bodyC Tryz.f12)).wp Tryz.prog Q (a9.put (some 34) (v)) W4
  obtain ⟨a10, ha⟩ : ∃ b, b = (a9.put (some 34) (v)) := ⟨_, rfl⟩
  rw [← ha]
  have z10 : 360 ≤ a10.tmps.size := by rw [ha, put_size]; exact z9
  have d10 : a10.defers = [] := by rw [ha, put_defers]; exact d9
  have h17_10 : a10.eval (.tmp 17) = .pointer (some ⟨x.b17, 0, none⟩) := by rw [ha, eval_put _ _ _ _ (by (try simp only [put_size]); omega), if_neg (by decide)]; exact h17_9
  have h20_10 : a10.eval (.tmp 20) = .pointer (some ⟨x.rb, 0, none⟩) := by rw [ha, eval_put _ _ _ _ (by (try simp only [put_size]); omega), if_neg (by decide)]; exact h20_9
  have h22_10 : a10.eval (.tmp 22) = .int .i64 (p : Int) := by rw [ha, eval_put _ _ _ _ (by (try simp only [put_size]); omega), if_neg (by decide)]; exact h22_9
  have h23_10 : a10.eval (.tmp 23) = .int .i64 (n : Int) := by rw [ha, eval_put _ _ _ _ (by (try simp only [put_size]); omega), if_neg (by decide)]; exact h23_9
  have h24_10 : a10.eval (.tmp 24) = .int .i64 (c : Int) := by rw [ha, eval_put _ _ _ _ (by (try simp only [put_size]); omega), if_neg (by decide)]; exact h24_9
  have h25_10 : a10.eval (.tmp 25) = .int .i64 (m : Int) := by rw [ha, eval_put _ _ _ _ (by (try simp only [put_size]); omega), if_neg (by decide)]; exact h25_9
  have h26_10 : a10.eval (.tmp 26) = .bool rd := by rw [ha, eval_put _ _ _ _ (by (try simp only [put_size]); omega), if_neg (by decide)]; exact h26_9
  have h27_10 : a10.eval (.tmp 27) = .bool wt := by rw [ha, eval_put _ _ _ _ (by (try simp only [put_size]); omega), if_neg (by decide)]; exact h27_9
  have h28_10 : a10.eval (.tmp 28) = .bool true := by rw [ha, eval_put _ _ _ _ (by (try simp only [put_size]); omega), if_neg (by decide)]; exact h28_9
  have h29_10 : a10.eval (.tmp 29) = .bool on := by rw [ha, eval_put _ _ _ _ (by (try simp only [put_size]); omega), if_neg (by decide)]; exact h29_9
  have h31_10 : a10.eval (.tmp 31) = .bool true := by rw [ha, eval_put _ _ _ _ (by (try simp only [put_size]); omega), if_neg (by decide)]; exact h31_9
  have h32_10 : a10.eval (.tmp 32) = .slice (some ⟨b, o, none⟩) 1 cp := by rw [ha, eval_put _ _ _ _ (by (try simp only [put_size]); omega), if_neg (by decide)]; exact h32_9
  have h33_10 : a10.eval (.tmp 33) = .int .i64 0 := by rw [ha, eval_put _ _ _ _ (by (try simp only [put_size]); omega), if_neg (by decide)]; exact h33_9
  have h34_10 : a10.eval (.tmp 34) = v := by rw [ha, eval_put _ _ _ _ (by (try simp only [put_size]); omega), if_pos rfl]
  clear ha h17_9 h20_9 h22_9 h23_9 h24_9 h25_9 h26_9 h27_9 h28_9 h29_9 h31_9 h32_9 h33_9 h34_9 h168_9 z9 d9
  have k34 : a10.eval (.tmp 34) = .int .i64 (L1.getD c 0) := by rw [h34_10, hv, h5]; cases on <;> rfl
  rw [c12_21]
  refine wp_seq (wp_seq (ruled_r23 a10 _ W4 23 b o cp (L1.getD c 0) z10 h28_10 h31_10 h33_10 h32_10 k34 hcell (fun u hu => ?_)))
  show Code.wp Tryz.prog _ _ (over a10 dsR23 u) W4
  obtain ⟨a11, ha⟩ : ∃ b, b = over a10 dsR23 u := ⟨_, rfl⟩
  rw [← ha]
  have z11 : 360 ≤ a11.tmps.size := by rw [ha, over_size]; exact z10
  have d11 : a11.defers = [] := by rw [ha, over_defers]; exact d10
  have h17_11 : a11.eval (.tmp 17) = .pointer (some ⟨x.b17, 0, none⟩) := by rw [ha]; exact (eval_out a10 dsR23 u 17 (by decide) (by omega)).trans h17_10
  have h20_11 : a11.eval (.tmp 20) = .pointer (some ⟨x.rb, 0, none⟩) := by rw [ha]; exact (eval_out a10 dsR23 u 20 (by decide) (by omega)).trans h20_10
  have h22_11 : a11.eval (.tmp 22) = .int .i64 (p : Int) := by rw [ha]; exact (eval_out a10 dsR23 u 22 (by decide) (by omega)).trans h22_10
  have h23_11 : a11.eval (.tmp 23) = .int .i64 (n : Int) := by rw [ha]; exact (eval_out a10 dsR23 u 23 (by decide) (by omega)).trans h23_10
  have h24_11 : a11.eval (.tmp 24) = .int .i64 (c : Int) := by rw [ha]; exact (eval_out a10 dsR23 u 24 (by decide) (by omega)).trans h24_10
  have h25_11 : a11.eval (.tmp 25) = .int .i64 (m : Int) := by rw [ha]; exact (eval_out a10 dsR23 u 25 (by decide) (by omega)).trans h25_10
  have h26_11 : a11.eval (.tmp 26) = .bool rd := by rw [ha]; exact (eval_out a10 dsR23 u 26 (by decide) (by omega)).trans h26_10
  have h27_11 : a11.eval (.tmp 27) = .bool wt := by rw [ha]; exact (eval_out a10 dsR23 u 27 (by decide) (by omega)).trans h27_10
  have h29_11 : a11.eval (.tmp 29) = .bool on := by rw [ha]; exact (eval_out a10 dsR23 u 29 (by decide) (by omega)).trans h29_10
  have h190_11 : a11.eval (.tmp 190) = .bool false := by rw [ha]; exact (eval_in a10 dsR23 u 190 (by decide) (by omega)).trans (hu)
  clear h17_10 h20_10 h22_10 h23_10 h24_10 h25_10 h26_10 h27_10 h28_10 h29_10 h31_10 h32_10 h33_10 h34_10
  clear ha hu u k34 hv hcell h5 z10 d10
  refine wp_cond_false h190_11 (wp_skip ?_)
  show (tailC 22 (bodyC Tryz.f12)).wp Tryz.prog Q a11 W4
  rw [c12_22]
  refine wp_seq (ruled_r25 a11 _ W4 25 x.b17 x.lo x.hi c on _ _ z11 h17_11 h24_11 h29_11 hL4.c17.1 hL4.c17.2 rfl rfl (fun u hu => ?_))
  show (tailC 23 (bodyC Tryz.f12)).wp Tryz.prog Q (over a11 dsR25 u) W4
  obtain ⟨a12, ha⟩ : ∃ b, b = over a11 dsR25 u := ⟨_, rfl⟩
  rw [← ha]
  have z12 : 360 ≤ a12.tmps.size := by rw [ha, over_size]; exact z11
  have d12 : a12.defers = [] := by rw [ha, over_defers]; exact d11
  have h20_12 : a12.eval (.tmp 20) = .pointer (some ⟨x.rb, 0, none⟩) := by rw [ha]; exact (eval_out a11 dsR25 u 20 (by decide) (by omega)).trans h20_11
  have h22_12 : a12.eval (.tmp 22) = .int .i64 (p : Int) := by rw [ha]; exact (eval_out a11 dsR25 u 22 (by decide) (by omega)).trans h22_11
  have h23_12 : a12.eval (.tmp 23) = .int .i64 (n : Int) := by rw [ha]; exact (eval_out a11 dsR25 u 23 (by decide) (by omega)).trans h23_11
  have h24_12 : a12.eval (.tmp 24) = .int .i64 (c : Int) := by rw [ha]; exact (eval_out a11 dsR25 u 24 (by decide) (by omega)).trans h24_11
  have h25_12 : a12.eval (.tmp 25) = .int .i64 (m : Int) := by rw [ha]; exact (eval_out a11 dsR25 u 25 (by decide) (by omega)).trans h25_11
  have h26_12 : a12.eval (.tmp 26) = .bool rd := by rw [ha]; exact (eval_out a11 dsR25 u 26 (by decide) (by omega)).trans h26_11
  have h27_12 : a12.eval (.tmp 27) = .bool wt := by rw [ha]; exact (eval_out a11 dsR25 u 27 (by decide) (by omega)).trans h27_11
  have h35_12 : a12.eval (.tmp 35) = .bool bo := by rw [ha]; exact (eval_in a11 dsR25 u 35 (by decide) (by omega)).trans (hu.trans (congrArg Value.bool (by rw [one_b, hbo])))
  clear h17_11 h20_11 h22_11 h23_11 h24_11 h25_11 h26_11 h27_11 h29_11
  clear ha hu u z11 d11
  rw [c12_23]
  refine wp_seq (ruled_r26 a12 _ W4 26 c z12 w.heap.size (fun W => LS w W x L1) hL4 (hSb _) (hSz _) (by omega) h24_12 (fun u W5 hL5 hu => ?_))
  show (tailC 24 (bodyC Tryz.f12)).wp Tryz.prog Q (over a12 dsR26 u) W5
  obtain ⟨a13, ha⟩ : ∃ b, b = over a12 dsR26 u := ⟨_, rfl⟩
  rw [← ha]
  have z13 : 360 ≤ a13.tmps.size := by rw [ha, over_size]; exact z12
  have d13 : a13.defers = [] := by rw [ha, over_defers]; exact d12
  have h20_13 : a13.eval (.tmp 20) = .pointer (some ⟨x.rb, 0, none⟩) := by rw [ha]; exact (eval_out a12 dsR26 u 20 (by decide) (by omega)).trans h20_12
  have h22_13 : a13.eval (.tmp 22) = .int .i64 (p : Int) := by rw [ha]; exact (eval_out a12 dsR26 u 22 (by decide) (by omega)).trans h22_12
  have h23_13 : a13.eval (.tmp 23) = .int .i64 (n : Int) := by rw [ha]; exact (eval_out a12 dsR26 u 23 (by decide) (by omega)).trans h23_12
  have h24_13 : a13.eval (.tmp 24) = .int .i64 (c : Int) := by rw [ha]; exact (eval_out a12 dsR26 u 24 (by decide) (by omega)).trans h24_12
  have h25_13 : a13.eval (.tmp 25) = .int .i64 (m : Int) := by rw [ha]; exact (eval_out a12 dsR26 u 25 (by decide) (by omega)).trans h25_12
  have h26_13 : a13.eval (.tmp 26) = .bool rd := by rw [ha]; exact (eval_out a12 dsR26 u 26 (by decide) (by omega)).trans h26_12
  have h27_13 : a13.eval (.tmp 27) = .bool wt := by rw [ha]; exact (eval_out a12 dsR26 u 27 (by decide) (by omega)).trans h27_12
  have h35_13 : a13.eval (.tmp 35) = .bool bo := by rw [ha]; exact (eval_out a12 dsR26 u 35 (by decide) (by omega)).trans h35_12
  clear h20_12 h22_12 h23_12 h24_12 h25_12 h26_12 h27_12 h35_12
  have f36 : Fact.ok w.heap.size (.bytes (22 :: b22 c 0 0)) (a13.eval (.tmp 36)) W5 := by rw [ha, eval_in a12 dsR26 u 36 (by decide) (by omega)]; exact hu
  clear ha hu u hL4 z12 d12
  rw [c12_24]
  refine wp_seq (ruled_r27 a13 _ W5 27 x.rb c bo z13 w.heap.size (fun W => LS w W x L1 ∧ Fact.ok w.heap.size (.bytes (22 :: b22 c 0 0)) (a13.eval (.tmp 36)) W) (fun W => LS w W x (nxtR L1 (q22 c 0 0) bo)) ⟨hL5, f36⟩ (hSf _ _ _) (fun W h => hSz _ W h.1) h20_13 h35_13 (fun W h => h.2) (fun W v y h hv hy => h.1.done22 c hc _ v y bo hbo2 hv hy) (fun u W6 hL6 hu => ?_))
  show (tailC 25 (bodyC Tryz.f12)).wp Tryz.prog Q (over a13 dsR27 u) W6
  obtain ⟨a14, ha⟩ : ∃ b, b = over a13 dsR27 u := ⟨_, rfl⟩
  rw [← ha]
  have z14 : 360 ≤ a14.tmps.size := by rw [ha, over_size]; exact z13
  have d14 : a14.defers = [] := by rw [ha, over_defers]; exact d13
  have h20_14 : a14.eval (.tmp 20) = .pointer (some ⟨x.rb, 0, none⟩) := by rw [ha]; exact (eval_out a13 dsR27 u 20 (by decide) (by omega)).trans h20_13
  have h22_14 : a14.eval (.tmp 22) = .int .i64 (p : Int) := by rw [ha]; exact (eval_out a13 dsR27 u 22 (by decide) (by omega)).trans h22_13
  have h23_14 : a14.eval (.tmp 23) = .int .i64 (n : Int) := by rw [ha]; exact (eval_out a13 dsR27 u 23 (by decide) (by omega)).trans h23_13
  have h24_14 : a14.eval (.tmp 24) = .int .i64 (c : Int) := by rw [ha]; exact (eval_out a13 dsR27 u 24 (by decide) (by omega)).trans h24_13
  have h25_14 : a14.eval (.tmp 25) = .int .i64 (m : Int) := by rw [ha]; exact (eval_out a13 dsR27 u 25 (by decide) (by omega)).trans h25_13
  have h26_14 : a14.eval (.tmp 26) = .bool rd := by rw [ha]; exact (eval_out a13 dsR27 u 26 (by decide) (by omega)).trans h26_13
  have h27_14 : a14.eval (.tmp 27) = .bool wt := by rw [ha]; exact (eval_out a13 dsR27 u 27 (by decide) (by omega)).trans h27_13
  have h28_14 : a14.eval (.tmp 28) = .bool true := by rw [ha]; exact (eval_in a13 dsR27 u 28 (by decide) (by omega)).trans (hu)
  clear h20_13 h22_13 h23_13 h24_13 h25_13 h26_13 h27_13 h35_13
  clear ha hu u hL5 f36 z13 d13
  obtain ⟨L2, hL2e⟩ : ∃ L2, L2 = nxtR L1 (q22 c 0 0) bo := ⟨_, rfl⟩
  rw [← hL2e] at hL6
  clear hL2e
  rw [c12_25]
  refine wp_seq (wp_asg a14 _ W6 28 37 _ _ _ _ (.slice none 0 0) rfl ?_)
  show (tailC 26 (bodyC Tryz.f12)).wp Tryz.prog Q (a14.put (some 37) (.slice none 0 0)) W6
  obtain ⟨a15, ha⟩ : ∃ b, b = (a14.put (some 37) (.slice none 0 0)) := ⟨_, rfl⟩
  rw [← ha]
  have z15 : 360 ≤ a15.tmps.size := by rw [ha, put_size]; exact z14
  have d15 : a15.defers = [] := by rw [ha, put_defers]; exact d14
  have h20_15 : a15.eval (.tmp 20) = .pointer (some ⟨x.rb, 0, none⟩) := by rw [ha, eval_put _ _ _ _ (by (try simp only [put_size]); omega), if_neg (by decide)]; exact h20_14
  have h22_15 : a15.eval (.tmp 22) = .int .i64 (p : Int) := by rw [ha, eval_put _ _ _ _ (by (try simp only [put_size]); omega), if_neg (by decide)]; exact h22_14
  have h23_15 : a15.eval (.tmp 23) = .int .i64 (n : Int) := by rw [ha, eval_put _ _ _ _ (by (try simp only [put_size]); omega), if_neg (by decide)]; exact h23_14
  have h24_15 : a15.eval (.tmp 24) = .int .i64 (c : Int) := by rw [ha, eval_put _ _ _ _ (by (try simp only [put_size]); omega), if_neg (by decide)]; exact h24_14
  have h25_15 : a15.eval (.tmp 25) = .int .i64 (m : Int) := by rw [ha, eval_put _ _ _ _ (by (try simp only [put_size]); omega), if_neg (by decide)]; exact h25_14
  have h26_15 : a15.eval (.tmp 26) = .bool rd := by rw [ha, eval_put _ _ _ _ (by (try simp only [put_size]); omega), if_neg (by decide)]; exact h26_14
  have h27_15 : a15.eval (.tmp 27) = .bool wt := by rw [ha, eval_put _ _ _ _ (by (try simp only [put_size]); omega), if_neg (by decide)]; exact h27_14
  have h28_15 : a15.eval (.tmp 28) = .bool true := by rw [ha, eval_put _ _ _ _ (by (try simp only [put_size]); omega), if_neg (by decide)]; exact h28_14
  have h37_15 : a15.eval (.tmp 37) = .slice none 0 0 := by rw [ha, eval_put _ _ _ _ (by (try simp only [put_size]); omega), if_pos rfl]
  clear ha h20_14 h22_14 h23_14 h24_14 h25_14 h26_14 h27_14 h28_14 z14 d14
  rw [c12_26]
  refine wp_seq (wp_seq (wp_asg a15 _ W6 29 38 _ _ _ _ (.int .i64 0) rfl ?_))
  show Code.wp Tryz.prog _ _ (a15.put (some 38) (.int .i64 0)) W6
  obtain ⟨a16, ha⟩ : ∃ b, b = (a15.put (some 38) (.int .i64 0)) := ⟨_, rfl⟩
  rw [← ha]
  have z16 : 360 ≤ a16.tmps.size := by rw [ha, put_size]; exact z15
  have d16 : a16.defers = [] := by rw [ha, put_defers]; exact d15
  have h20_16 : a16.eval (.tmp 20) = .pointer (some ⟨x.rb, 0, none⟩) := by rw [ha, eval_put _ _ _ _ (by (try simp only [put_size]); omega), if_neg (by decide)]; exact h20_15
  have h22_16 : a16.eval (.tmp 22) = .int .i64 (p : Int) := by rw [ha, eval_put _ _ _ _ (by (try simp only [put_size]); omega), if_neg (by decide)]; exact h22_15
  have h23_16 : a16.eval (.tmp 23) = .int .i64 (n : Int) := by rw [ha, eval_put _ _ _ _ (by (try simp only [put_size]); omega), if_neg (by decide)]; exact h23_15
  have h24_16 : a16.eval (.tmp 24) = .int .i64 (c : Int) := by rw [ha, eval_put _ _ _ _ (by (try simp only [put_size]); omega), if_neg (by decide)]; exact h24_15
  have h25_16 : a16.eval (.tmp 25) = .int .i64 (m : Int) := by rw [ha, eval_put _ _ _ _ (by (try simp only [put_size]); omega), if_neg (by decide)]; exact h25_15
  have h26_16 : a16.eval (.tmp 26) = .bool rd := by rw [ha, eval_put _ _ _ _ (by (try simp only [put_size]); omega), if_neg (by decide)]; exact h26_15
  have h27_16 : a16.eval (.tmp 27) = .bool wt := by rw [ha, eval_put _ _ _ _ (by (try simp only [put_size]); omega), if_neg (by decide)]; exact h27_15
  have h28_16 : a16.eval (.tmp 28) = .bool true := by rw [ha, eval_put _ _ _ _ (by (try simp only [put_size]); omega), if_neg (by decide)]; exact h28_15
  have h37_16 : a16.eval (.tmp 37) = .slice none 0 0 := by rw [ha, eval_put _ _ _ _ (by (try simp only [put_size]); omega), if_neg (by decide)]; exact h37_15
  have h38_16 : a16.eval (.tmp 38) = .int .i64 0 := by rw [ha, eval_put _ _ _ _ (by (try simp only [put_size]); omega), if_pos rfl]
  clear ha h20_15 h22_15 h23_15 h24_15 h25_15 h26_15 h27_15 h28_15 h37_15 z15 d15
  refine wp_count (2 * m) 38 (fun k a W => a.eval (.tmp 38) = .int .i64 (k : Int) ∧ 360 ≤ a.tmps.size ∧ a.defers = [] ∧ Below W6.heap.size W6 W ∧ Owns W W6.heap.size (a.eval (.tmp 37)) (List.replicate k 1) ∧ a.eval (.tmp 20) = .pointer (some ⟨x.rb, 0, none⟩) ∧ a.eval (.tmp 22) = .int .i64 (p : Int) ∧ a.eval (.tmp 23) = .int .i64 (n : Int) ∧ a.eval (.tmp 24) = .int .i64 (c : Int) ∧ a.eval (.tmp 25) = .int .i64 (m : Int) ∧ a.eval (.tmp 26) = .bool rd ∧ a.eval (.tmp 27) = .bool wt ∧ a.eval (.tmp 28) = .bool true) (fun k a W h => h.1) ⟨h38_16, z16, d16, Below.refl _ _, by rw [h37_16]; exact ⟨rfl, .inl ⟨rfl, rfl⟩⟩, h20_16, h22_16, h23_16, h24_16, h25_16, h26_16, h27_16, h28_16⟩ ?_ ?_ ?_
  · rintro k a W hk ⟨hk38, hz, hdf, hbl, how, i20, i22, i23, i24, i25, i26, i27, i28⟩ R hR
    refine ruled_r30 a _ W 30 k m _ hz (by omega) hk38 i25 rfl (fun u hu => hR _ _ ?_ ⟨?_, ?_, ?_, hbl, ?_, ?_, ?_, ?_, ?_, ?_, ?_, ?_, ?_⟩)
    · rw [eval_in a dsR30 u 219 (by decide) (by omega), hu]
      congr 1
      rw [Bool.eq_iff_iff]
      simp
      omega
    · exact (eval_out a dsR30 u 38 (by decide) (by omega)).trans hk38
    · rw [over_size]; exact hz
    · rw [over_defers]; exact hdf
    · rw [eval_out a dsR30 u 37 (by decide) (by omega)]; exact how
    · exact (eval_out a dsR30 u 20 (by decide) (by omega)).trans i20
    · exact (eval_out a dsR30 u 22 (by decide) (by omega)).trans i22
    · exact (eval_out a dsR30 u 23 (by decide) (by omega)).trans i23
    · exact (eval_out a dsR30 u 24 (by decide) (by omega)).trans i24
    · exact (eval_out a dsR30 u 25 (by decide) (by omega)).trans i25
    · exact (eval_out a dsR30 u 26 (by decide) (by omega)).trans i26
    · exact (eval_out a dsR30 u 27 (by decide) (by omega)).trans i27
    · exact (eval_out a dsR30 u 28 (by decide) (by omega)).trans i28
  · rintro k a W hk ⟨hk38, hz, hdf, hbl, how, i20, i22, i23, i24, i25, i26, i27, i28⟩ R hR
    refine wp_seq (wp_block (ruled_r32 a _ W 32 _ _ _ _ _ W6.heap.size _ k (by omega) rfl how hbl.size (by omega) (fun v' W' hO hB' => ?_)))
    have hbl' := hB' W6 rfl hbl
    obtain ⟨b1, hb1⟩ : ∃ b, b = (((a.put (some 222) (a.eval (.tmp 37))).put (some 223) (.slice (some ⟨W.heap.size, 0, none⟩) 1 1)).put (some 224) v').put (some 37) v' := ⟨_, rfl⟩
    have hz1 : 360 ≤ b1.tmps.size := by rw [hb1, put_size, put_size, put_size, put_size]; exact hz
    have e37 : b1.eval (.tmp 37) = v' := by rw [hb1, eval_put _ _ _ _ (by (try simp only [put_size]); omega), if_pos rfl]
    have e38 : b1.eval (.tmp 38) = .int .i64 (k : Int) := by rw [hb1, eval_put _ _ _ _ (by (try simp only [put_size]); omega), if_neg (by decide), eval_put _ _ _ _ (by (try simp only [put_size]); omega), if_neg (by decide), eval_put _ _ _ _ (by (try simp only [put_size]); omega), if_neg (by decide), eval_put _ _ _ _ (by (try simp only [put_size]); omega), if_neg (by decide)]; exact hk38
    have j20 : b1.eval (.tmp 20) = .pointer (some ⟨x.rb, 0, none⟩) := by rw [hb1, eval_put _ _ _ _ (by (try simp only [put_size]); omega), if_neg (by decide), eval_put _ _ _ _ (by (try simp only [put_size]); omega), if_neg (by decide), eval_put _ _ _ _ (by (try simp only [put_size]); omega), if_neg (by decide), eval_put _ _ _ _ (by (try simp only [put_size]); omega), if_neg (by decide)]; exact i20
    have j22 : b1.eval (.tmp 22) = .int .i64 (p : Int) := by rw [hb1, eval_put _ _ _ _ (by (try simp only [put_size]); omega), if_neg (by decide), eval_put _ _ _ _ (by (try simp only [put_size]); omega), if_neg (by decide), eval_put _ _ _ _ (by (try simp only [put_size]); omega), if_neg (by decide), eval_put _ _ _ _ (by (try simp only [put_size]); omega), if_neg (by decide)]; exact i22
    have j23 : b1.eval (.tmp 23) = .int .i64 (n : Int) := by rw [hb1, eval_put _ _ _ _ (by (try simp only [put_size]); omega), if_neg (by decide), eval_put _ _ _ _ (by (try simp only [put_size]); omega), if_neg (by decide), eval_put _ _ _ _ (by (try simp only [put_size]); omega), if_neg (by decide), eval_put _ _ _ _ (by (try simp only [put_size]); omega), if_neg (by decide)]; exact i23
    have j24 : b1.eval (.tmp 24) = .int .i64 (c : Int) := by rw [hb1, eval_put _ _ _ _ (by (try simp only [put_size]); omega), if_neg (by decide), eval_put _ _ _ _ (by (try simp only [put_size]); omega), if_neg (by decide), eval_put _ _ _ _ (by (try simp only [put_size]); omega), if_neg (by decide), eval_put _ _ _ _ (by (try simp only [put_size]); omega), if_neg (by decide)]; exact i24
    have j25 : b1.eval (.tmp 25) = .int .i64 (m : Int) := by rw [hb1, eval_put _ _ _ _ (by (try simp only [put_size]); omega), if_neg (by decide), eval_put _ _ _ _ (by (try simp only [put_size]); omega), if_neg (by decide), eval_put _ _ _ _ (by (try simp only [put_size]); omega), if_neg (by decide), eval_put _ _ _ _ (by (try simp only [put_size]); omega), if_neg (by decide)]; exact i25
    have j26 : b1.eval (.tmp 26) = .bool rd := by rw [hb1, eval_put _ _ _ _ (by (try simp only [put_size]); omega), if_neg (by decide), eval_put _ _ _ _ (by (try simp only [put_size]); omega), if_neg (by decide), eval_put _ _ _ _ (by (try simp only [put_size]); omega), if_neg (by decide), eval_put _ _ _ _ (by (try simp only [put_size]); omega), if_neg (by decide)]; exact i26
    have j27 : b1.eval (.tmp 27) = .bool wt := by rw [hb1, eval_put _ _ _ _ (by (try simp only [put_size]); omega), if_neg (by decide), eval_put _ _ _ _ (by (try simp only [put_size]); omega), if_neg (by decide), eval_put _ _ _ _ (by (try simp only [put_size]); omega), if_neg (by decide), eval_put _ _ _ _ (by (try simp only [put_size]); omega), if_neg (by decide)]; exact i27
    have j28 : b1.eval (.tmp 28) = .bool true := by rw [hb1, eval_put _ _ _ _ (by (try simp only [put_size]); omega), if_neg (by decide), eval_put _ _ _ _ (by (try simp only [put_size]); omega), if_neg (by decide), eval_put _ _ _ _ (by (try simp only [put_size]); omega), if_neg (by decide), eval_put _ _ _ _ (by (try simp only [put_size]); omega), if_neg (by decide)]; exact i28
    show Code.wp Tryz.prog _ _ ((((a.put (some 222) (a.eval (.tmp 37))).put (some 223) (.slice (some ⟨W.heap.size, 0, none⟩) 1 1)).put (some 224) v').put (some 37) v') W'
    rw [← hb1]
    refine wp_incr b1 _ W' 31 38 220 221 k _ _ _ _ _ _ _ _ _ (by omega) (by omega) (by omega) e38 (hR _ _ ⟨?_, ?_, ?_, hbl', ?_, ?_, ?_, ?_, ?_, ?_, ?_, ?_, ?_⟩)
    · rw [eval_put _ _ _ _ (by (try simp only [put_size]); omega), if_pos rfl]
    · rw [put_size, put_size, put_size]; exact hz1
    · rw [put_defers, put_defers, put_defers, hb1, put_defers, put_defers, put_defers, put_defers]; exact hdf
    · rw [eval_put _ _ _ _ (by (try simp only [put_size]); omega), if_neg (by decide), eval_put _ _ _ _ (by (try simp only [put_size]); omega), if_neg (by decide), eval_put _ _ _ _ (by (try simp only [put_size]); omega), if_neg (by decide), e37]; exact hO
    · rw [eval_put _ _ _ _ (by (try simp only [put_size]); omega), if_neg (by decide), eval_put _ _ _ _ (by (try simp only [put_size]); omega), if_neg (by decide), eval_put _ _ _ _ (by (try simp only [put_size]); omega), if_neg (by decide)]; exact j20
    · rw [eval_put _ _ _ _ (by (try simp only [put_size]); omega), if_neg (by decide), eval_put _ _ _ _ (by (try simp only [put_size]); omega), if_neg (by decide), eval_put _ _ _ _ (by (try simp only [put_size]); omega), if_neg (by decide)]; exact j22
    · rw [eval_put _ _ _ _ (by (try simp only [put_size]); omega), if_neg (by decide), eval_put _ _ _ _ (by (try simp only [put_size]); omega), if_neg (by decide), eval_put _ _ _ _ (by (try simp only [put_size]); omega), if_neg (by decide)]; exact j23
    · rw [eval_put _ _ _ _ (by (try simp only [put_size]); omega), if_neg (by decide), eval_put _ _ _ _ (by (try simp only [put_size]); omega), if_neg (by decide), eval_put _ _ _ _ (by (try simp only [put_size]); omega), if_neg (by decide)]; exact j24
    · rw [eval_put _ _ _ _ (by (try simp only [put_size]); omega), if_neg (by decide), eval_put _ _ _ _ (by (try simp only [put_size]); omega), if_neg (by decide), eval_put _ _ _ _ (by (try simp only [put_size]); omega), if_neg (by decide)]; exact j25
    · rw [eval_put _ _ _ _ (by (try simp only [put_size]); omega), if_neg (by decide), eval_put _ _ _ _ (by (try simp only [put_size]); omega), if_neg (by decide), eval_put _ _ _ _ (by (try simp only [put_size]); omega), if_neg (by decide)]; exact j26
    · rw [eval_put _ _ _ _ (by (try simp only [put_size]); omega), if_neg (by decide), eval_put _ _ _ _ (by (try simp only [put_size]); omega), if_neg (by decide), eval_put _ _ _ _ (by (try simp only [put_size]); omega), if_neg (by decide)]; exact j27
    · rw [eval_put _ _ _ _ (by (try simp only [put_size]); omega), if_neg (by decide), eval_put _ _ _ _ (by (try simp only [put_size]); omega), if_neg (by decide), eval_put _ _ _ _ (by (try simp only [put_size]); omega), if_neg (by decide)]; exact j28
  rintro a W7 ⟨hk38, hz, hdf, hbl, how, i20, i22, i23, i24, i25, i26, i27, i28⟩
  have hL7 : LS w W7 x L2 := hL6.below hbl
  have how7 : Owns W7 w.heap.size (a.eval (.tmp 37)) (List.replicate (2 * m) 1) := how.weak hL6.bel.size
  clear h20_16 h22_16 h23_16 h24_16 h25_16 h26_16 h27_16 h28_16 h37_16 h38_16 z16 d16 hk38 hbl how hL6
  obtain ⟨a17, ha⟩ : ∃ b, b = a := ⟨_, rfl⟩
  rw [← ha] at hz hdf how7 i20 i22 i23 i24 i25 i26 i27 i28
  show (tailC 27 (bodyC Tryz.f12)).wp Tryz.prog Q a W7
  rw [← ha]
  have z17 := hz
  have d17 := hdf
  have h20_17 := i20
  have h22_17 := i22
  have h23_17 := i23
  have h24_17 := i24
  have h25_17 := i25
  have h26_17 := i26
  have h27_17 := i27
  have h28_17 := i28
  clear ha hz hdf i20 i22 i23 i24 i25 i26 i27 i28
  have f37 : Fact.ok w.heap.size (.bytes (List.replicate (2 * m) 1)) (a17.eval (.tmp 37)) W7 := by
    obtain ⟨y, k, cp, e⟩ := own_shape how7
    exact ⟨⟨y, k, cp, e⟩, how7⟩
  rw [c12_27]
  refine wp_seq (ruled_r33 a17 _ W7 33 x.rb c m wt z17 w.heap.size (fun W => LS w W x L2 ∧ Fact.ok w.heap.size (.bytes (List.replicate (2 * m) 1)) (a17.eval (.tmp 37)) W) (fun W => LS w W x (nxtR L2 (q16 c (List.replicate m 257)) wt)) ⟨hL7, f37⟩ (hSf _ _ _) (fun W h => hSz _ W h.1) (by omega) hm1 (by omega) h20_17 h24_17 h25_17 h27_17 (fun W h => h.2) (fun W v y h hv hy => h.1.done16 c m hc hm1 hm _ v y wt hwt hv hy) (fun u W8 hL8 hu => ?_))
  show (tailC 28 (bodyC Tryz.f12)).wp Tryz.prog Q (over a17 dsR33 u) W8
  obtain ⟨a18, ha⟩ : ∃ b, b = over a17 dsR33 u := ⟨_, rfl⟩
  rw [← ha]
  have z18 : 360 ≤ a18.tmps.size := by rw [ha, over_size]; exact z17
  have d18 : a18.defers = [] := by rw [ha, over_defers]; exact d17
  have h20_18 : a18.eval (.tmp 20) = .pointer (some ⟨x.rb, 0, none⟩) := by rw [ha]; exact (eval_out a17 dsR33 u 20 (by decide) (by omega)).trans h20_17
  have h22_18 : a18.eval (.tmp 22) = .int .i64 (p : Int) := by rw [ha]; exact (eval_out a17 dsR33 u 22 (by decide) (by omega)).trans h22_17
  have h23_18 : a18.eval (.tmp 23) = .int .i64 (n : Int) := by rw [ha]; exact (eval_out a17 dsR33 u 23 (by decide) (by omega)).trans h23_17
  have h24_18 : a18.eval (.tmp 24) = .int .i64 (c : Int) := by rw [ha]; exact (eval_out a17 dsR33 u 24 (by decide) (by omega)).trans h24_17
  have h25_18 : a18.eval (.tmp 25) = .int .i64 (m : Int) := by rw [ha]; exact (eval_out a17 dsR33 u 25 (by decide) (by omega)).trans h25_17
  have h26_18 : a18.eval (.tmp 26) = .bool rd := by rw [ha]; exact (eval_out a17 dsR33 u 26 (by decide) (by omega)).trans h26_17
  have h27_18 : a18.eval (.tmp 27) = .bool wt := by rw [ha]; exact (eval_out a17 dsR33 u 27 (by decide) (by omega)).trans h27_17
  have h28_18 : a18.eval (.tmp 28) = .bool true := by rw [ha]; exact (eval_out a17 dsR33 u 28 (by decide) (by omega)).trans h28_17
  have h31_18 : a18.eval (.tmp 31) = .bool true := by rw [ha]; exact (eval_in a17 dsR33 u 31 (by decide) (by omega)).trans (hu)
  clear h20_17 h22_17 h23_17 h24_17 h25_17 h26_17 h27_17 h28_17
  have hl2 := hL7.len
  have hd2 := hL7.bd
  clear ha hu u hL7 f37 how7 z17 d17
  obtain ⟨L3, hL3e⟩ : ∃ L3, L3 = nxtR L2 (q16 c (List.replicate m 257)) wt := ⟨_, rfl⟩
  rw [← hL3e] at hL8
  rw [c12_28]
  refine wp_seq (ruled_r34 a18 _ W8 w.heap.size 34 (fun W => LS w W x L3) p n c m (by omega) (by omega) hn1 (by omega) (by omega) hm1 (by omega) h22_18 h23_18 h24_18 h25_18 (hL8.below ((Below.refl _ _).drew)) (hSb _) (hSz _) (fun u W9 hL9 hu => ?_))
  show (tailC 29 (bodyC Tryz.f12)).wp Tryz.prog Q (over a18 dsR34 u) W9
  obtain ⟨a19, ha⟩ : ∃ b, b = over a18 dsR34 u := ⟨_, rfl⟩
  rw [← ha]
  have z19 : 360 ≤ a19.tmps.size := by rw [ha, over_size]; exact z18
  have d19 : a19.defers = [] := by rw [ha, over_defers]; exact d18
  have h20_19 : a19.eval (.tmp 20) = .pointer (some ⟨x.rb, 0, none⟩) := by rw [ha]; exact (eval_out a18 dsR34 u 20 (by decide) (by omega)).trans h20_18
  have h22_19 : a19.eval (.tmp 22) = .int .i64 (p : Int) := by rw [ha]; exact (eval_out a18 dsR34 u 22 (by decide) (by omega)).trans h22_18
  have h23_19 : a19.eval (.tmp 23) = .int .i64 (n : Int) := by rw [ha]; exact (eval_out a18 dsR34 u 23 (by decide) (by omega)).trans h23_18
  have h24_19 : a19.eval (.tmp 24) = .int .i64 (c : Int) := by rw [ha]; exact (eval_out a18 dsR34 u 24 (by decide) (by omega)).trans h24_18
  have h25_19 : a19.eval (.tmp 25) = .int .i64 (m : Int) := by rw [ha]; exact (eval_out a18 dsR34 u 25 (by decide) (by omega)).trans h25_18
  have h26_19 : a19.eval (.tmp 26) = .bool rd := by rw [ha]; exact (eval_out a18 dsR34 u 26 (by decide) (by omega)).trans h26_18
  have h27_19 : a19.eval (.tmp 27) = .bool wt := by rw [ha]; exact (eval_out a18 dsR34 u 27 (by decide) (by omega)).trans h27_18
  have h28_19 : a19.eval (.tmp 28) = .bool true := by rw [ha]; exact (eval_out a18 dsR34 u 28 (by decide) (by omega)).trans h28_18
  have h31_19 : a19.eval (.tmp 31) = .bool true := by rw [ha]; exact (eval_out a18 dsR34 u 31 (by decide) (by omega)).trans h31_18
  clear h20_18 h22_18 h23_18 h24_18 h25_18 h26_18 h27_18 h28_18 h31_18
  have f39 : Fact.ok w.heap.size (.bytes (23 :: b23 p n c (List.replicate m 0))) (a19.eval (.tmp 39)) W9 := by rw [ha, eval_in a18 dsR34 u 39 (by decide) (by omega)]; exact hu
  clear ha hu u hL8 z18 d18
  have hl3 := hL9.len
  obtain ⟨L4, hL4e⟩ : ∃ L4, L4 = nxtR L3 (q23 p n c (List.replicate m 0)) (rd && wt) := ⟨_, rfl⟩
  obtain ⟨rp, hrp⟩ : ∃ rp, rp = repR L3 (q23 p n c (List.replicate m 0)) 23 (rd && wt) := ⟨_, rfl⟩
  rw [c12_29]
  refine wp_seq (ruled_r35 a19 _ W9 35 x.rb (a19.eval (.tmp 39)) z19 (fun W => LS w W x L3 ∧ Fact.ok w.heap.size (.bytes (23 :: b23 p n c (List.replicate m 0))) (a19.eval (.tmp 39)) W) (fun W => LS w W x L4) ⟨hL9, f39⟩ h20_19 rfl (fun v W => Owns W w.heap.size v rp) (fun W h => (h.1.ans23 p n c m hp hn1 hn hc hm1 hm w.heap.size _ (rd && wt) (by rw [hrd, hwt]) h.2.2 (hSz _ _ h.1)).mono (by
    rintro r w' ⟨y, rfl, h1, h2⟩
    rw [← hrp] at h1
    rw [← hL4e] at h2
    exact ⟨y, rfl, h1, h2⟩)) (fun u W10 hL10 hu hu2 => ?_))
  show (tailC 30 (bodyC Tryz.f12)).wp Tryz.prog Q (over a19 dsR35 u) W10
  obtain ⟨a20, ha⟩ : ∃ b, b = over a19 dsR35 u := ⟨_, rfl⟩
  rw [← ha]
  have z20 : 360 ≤ a20.tmps.size := by rw [ha, over_size]; exact z19
  have d20 : a20.defers = [] := by rw [ha, over_defers]; exact d19
  have h20_20 : a20.eval (.tmp 20) = .pointer (some ⟨x.rb, 0, none⟩) := by rw [ha]; exact (eval_out a19 dsR35 u 20 (by decide) (by omega)).trans h20_19
  have h22_20 : a20.eval (.tmp 22) = .int .i64 (p : Int) := by rw [ha]; exact (eval_out a19 dsR35 u 22 (by decide) (by omega)).trans h22_19
  have h23_20 : a20.eval (.tmp 23) = .int .i64 (n : Int) := by rw [ha]; exact (eval_out a19 dsR35 u 23 (by decide) (by omega)).trans h23_19
  have h24_20 : a20.eval (.tmp 24) = .int .i64 (c : Int) := by rw [ha]; exact (eval_out a19 dsR35 u 24 (by decide) (by omega)).trans h24_19
  have h25_20 : a20.eval (.tmp 25) = .int .i64 (m : Int) := by rw [ha]; exact (eval_out a19 dsR35 u 25 (by decide) (by omega)).trans h25_19
  have h26_20 : a20.eval (.tmp 26) = .bool rd := by rw [ha]; exact (eval_out a19 dsR35 u 26 (by decide) (by omega)).trans h26_19
  have h27_20 : a20.eval (.tmp 27) = .bool wt := by rw [ha]; exact (eval_out a19 dsR35 u 27 (by decide) (by omega)).trans h27_19
  have h28_20 : a20.eval (.tmp 28) = .bool true := by rw [ha]; exact (eval_out a19 dsR35 u 28 (by decide) (by omega)).trans h28_19
  have h31_20 : a20.eval (.tmp 31) = .bool true := by rw [ha]; exact (eval_out a19 dsR35 u 31 (by decide) (by omega)).trans h31_19
  have h41_20 : a20.eval (.tmp 41) = .int .i64 0 := by rw [ha]; exact (eval_in a19 dsR35 u 41 (by decide) (by omega)).trans (hu2)
  clear h20_19 h22_19 h23_19 h24_19 h25_19 h26_19 h27_19 h28_19 h31_19
  have f40 : Owns W10 w.heap.size (a20.eval (.tmp 40)) rp := by rw [ha, eval_in a19 dsR35 u 40 (by decide) (by omega)]; exact hu
  clear ha hu hu2 u hL9 f39 z19 d19
  rw [c12_30]
  refine wp_seq (ruled_r36 a20 _ W10 36 x.rb c m z20 (fun W => LS w W x L4 ∧ Owns W w.heap.size (a20.eval (.tmp 40)) rp) (fun W => LS w W x L4 ∧ Owns W w.heap.size (a20.eval (.tmp 40)) rp) ⟨hL10, f40⟩ h20_20 h24_20 h25_20 (fun v W => ∃ b o cp, v = .slice (some ⟨b, o, none⟩) m cp ∧ ∀ i, i < m → W.cell? ⟨b, o + i, none⟩ = some (.int .i64 (L4.getD (c + i) 0))) (fun W h => (h.1.get2 c m hm1 (by omega)).mono (by
    rintro r w' ⟨b, o, cp, rfl, hcell, h1, h2⟩
    exact ⟨_, rfl, ⟨b, o, cp, rfl, hcell⟩, h1, h.2.leB h2⟩)) (fun u W11 hS11 hu hu2 => ?_))
  obtain ⟨gb, go, gcp, hu, hcell⟩ := hu
  obtain ⟨hL11, f40b⟩ := hS11
  show (tailC 31 (bodyC Tryz.f12)).wp Tryz.prog Q (over a20 dsR36 u) W11
  obtain ⟨a21, ha⟩ : ∃ b, b = over a20 dsR36 u := ⟨_, rfl⟩
  rw [← ha]
  have z21 : 360 ≤ a21.tmps.size := by rw [ha, over_size]; exact z20
  have d21 : a21.defers = [] := by rw [ha, over_defers]; exact d20
  have h20_21 : a21.eval (.tmp 20) = .pointer (some ⟨x.rb, 0, none⟩) := by rw [ha]; exact (eval_out a20 dsR36 u 20 (by decide) (by omega)).trans h20_20
  have h22_21 : a21.eval (.tmp 22) = .int .i64 (p : Int) := by rw [ha]; exact (eval_out a20 dsR36 u 22 (by decide) (by omega)).trans h22_20
  have h23_21 : a21.eval (.tmp 23) = .int .i64 (n : Int) := by rw [ha]; exact (eval_out a20 dsR36 u 23 (by decide) (by omega)).trans h23_20
  have h24_21 : a21.eval (.tmp 24) = .int .i64 (c : Int) := by rw [ha]; exact (eval_out a20 dsR36 u 24 (by decide) (by omega)).trans h24_20
  have h25_21 : a21.eval (.tmp 25) = .int .i64 (m : Int) := by rw [ha]; exact (eval_out a20 dsR36 u 25 (by decide) (by omega)).trans h25_20
  have h26_21 : a21.eval (.tmp 26) = .bool rd := by rw [ha]; exact (eval_out a20 dsR36 u 26 (by decide) (by omega)).trans h26_20
  have h27_21 : a21.eval (.tmp 27) = .bool wt := by rw [ha]; exact (eval_out a20 dsR36 u 27 (by decide) (by omega)).trans h27_20
  have h28_21 : a21.eval (.tmp 28) = .bool true := by rw [ha]; exact (eval_out a20 dsR36 u 28 (by decide) (by omega)).trans h28_20
  have h31_21 : a21.eval (.tmp 31) = .bool true := by rw [ha]; exact (eval_out a20 dsR36 u 31 (by decide) (by omega)).trans h31_20
  have h41_21 : a21.eval (.tmp 41) = .int .i64 0 := by rw [ha]; exact (eval_out a20 dsR36 u 41 (by decide) (by omega)).trans h41_20
  have h32_21 : a21.eval (.tmp 32) = .slice (some ⟨gb, go, none⟩) m gcp := by rw [ha]; exact (eval_in a20 dsR36 u 32 (by decide) (by omega)).trans (hu)
  have h33_21 : a21.eval (.tmp 33) = .int .i64 0 := by rw [ha]; exact (eval_in a20 dsR36 u 33 (by decide) (by omega)).trans (hu2)
  clear h20_20 h22_20 h23_20 h24_20 h25_20 h26_20 h27_20 h28_20 h31_20 h41_20
  have f40c : Owns W11 w.heap.size (a21.eval (.tmp 40)) rp := by rw [ha, eval_out a20 dsR36 u 40 (by decide) (by omega)]; exact f40b
  clear ha hu hu2 u hL10 f40 f40b z20 d20
  obtain ⟨sb, so, sc, e40, _, _, hsc⟩ : ∃ b o cp, a21.eval (.tmp 40) = .slice (some ⟨b, o, none⟩) rp.length cp ∧ rp.length ≤ cp ∧ b < W11.heap.size ∧ ∀ i, i < rp.length → W11.cell? ⟨b, o + i, none⟩ = some (.int .u8 (rp.getD i 0)) := f40c.lies.shape (by rw [hrp]; unfold repR; cases (rd && wt) <;> simp [toldL, q23, excB])
  have h40_21 := e40
  obtain ⟨y, hy⟩ : ∃ y : Int, y = if (rd && wt) = true then 0 else if wt = true then 257 else 0 := ⟨_, rfl⟩
  have hq : ∀ i, i < m → wt = true → (L4.getD (c + i) 0 != y) = false := fun i hi ht => by
    subst ht
    rw [hL4e, hL3e, nxt23 L2 p n c m hl2 hd2 hc hm rd i hi, hy]
    cases rd <;> rfl
  clear f40c e40
  have rest : ∀ a : Act, 360 ≤ a.tmps.size → a.defers = [] → a.eval (.tmp 20) = .pointer (some ⟨x.rb, 0, none⟩) → a.eval (.tmp 22) = .int .i64 (p : Int) → a.eval (.tmp 23) = .int .i64 (n : Int) → a.eval (.tmp 24) = .int .i64 (c : Int) → a.eval (.tmp 25) = .int .i64 (m : Int) → a.eval (.tmp 26) = .bool rd → a.eval (.tmp 27) = .bool wt → a.eval (.tmp 28) = .bool true → a.eval (.tmp 31) = .bool true → a.eval (.tmp 41) = .int .i64 0 → a.eval (.tmp 32) = .slice (some ⟨gb, go, none⟩) m gcp → a.eval (.tmp 33) = .int .i64 0 → a.eval (.tmp 42) = .bool true → a.eval (.tmp 43) = .int .i64 y → (tailC 34 (bodyC Tryz.f12)).wp Tryz.prog Q a W11 := by
    intro a121 z121 d121 h20_121 h22_121 h23_121 h24_121 h25_121 h26_121 h27_121 h28_121 h31_121 h41_121 h32_121 h33_121 h42_121 h43_121
    clear h20_21 h22_21 h23_21 h24_21 h25_21 h26_21 h27_21 h28_21 h31_21 h41_21 h32_21 h33_21 h40_21 z21 d21
    rw [c12_34]
    refine wp_seq (wp_seq (ruled_r43 a121 _ W11 43 gb go gcp m z121 h28_121 h31_121 h41_121 h33_121 h42_121 h32_121 h25_121 (fun u hu => ?_)))
    show Code.wp Tryz.prog _ _ (over a121 dsR43 u) W11
    obtain ⟨a122, ha⟩ : ∃ b, b = over a121 dsR43 u := ⟨_, rfl⟩
    rw [← ha]
    have z122 : 360 ≤ a122.tmps.size := by rw [ha, over_size]; exact z121
    have d122 : a122.defers = [] := by rw [ha, over_defers]; exact d121
    have h20_122 : a122.eval (.tmp 20) = .pointer (some ⟨x.rb, 0, none⟩) := by rw [ha]; exact (eval_out a121 dsR43 u 20 (by decide) (by omega)).trans h20_121
    have h22_122 : a122.eval (.tmp 22) = .int .i64 (p : Int) := by rw [ha]; exact (eval_out a121 dsR43 u 22 (by decide) (by omega)).trans h22_121
    have h23_122 : a122.eval (.tmp 23) = .int .i64 (n : Int) := by rw [ha]; exact (eval_out a121 dsR43 u 23 (by decide) (by omega)).trans h23_121
    have h24_122 : a122.eval (.tmp 24) = .int .i64 (c : Int) := by rw [ha]; exact (eval_out a121 dsR43 u 24 (by decide) (by omega)).trans h24_121
    have h25_122 : a122.eval (.tmp 25) = .int .i64 (m : Int) := by rw [ha]; exact (eval_out a121 dsR43 u 25 (by decide) (by omega)).trans h25_121
    have h26_122 : a122.eval (.tmp 26) = .bool rd := by rw [ha]; exact (eval_out a121 dsR43 u 26 (by decide) (by omega)).trans h26_121
    have h27_122 : a122.eval (.tmp 27) = .bool wt := by rw [ha]; exact (eval_out a121 dsR43 u 27 (by decide) (by omega)).trans h27_121
    have h32_122 : a122.eval (.tmp 32) = .slice (some ⟨gb, go, none⟩) m gcp := by rw [ha]; exact (eval_out a121 dsR43 u 32 (by decide) (by omega)).trans h32_121
    have h43_122 : a122.eval (.tmp 43) = .int .i64 y := by rw [ha]; exact (eval_out a121 dsR43 u 43 (by decide) (by omega)).trans h43_121
    have h334_122 : a122.eval (.tmp 334) = .bool false := by rw [ha]; exact (eval_in a121 dsR43 u 334 (by decide) (by omega)).trans (hu)
    clear h20_121 h22_121 h23_121 h24_121 h25_121 h26_121 h27_121 h28_121 h31_121 h41_121 h32_121 h33_121 h42_121 h43_121
    clear ha hu u z121 d121
    refine wp_cond_false h334_122 (wp_skip ?_)
    show (tailC 35 (bodyC Tryz.f12)).wp Tryz.prog Q a122 W11
    rw [c12_35]
    refine wp_seq (wp_seq (wp_asg a122 _ W11 45 44 _ _ _ _ (.int .i64 0) rfl ?_))
    show Code.wp Tryz.prog _ _ (a122.put (some 44) (.int .i64 0)) W11
    obtain ⟨a123, ha⟩ : ∃ b, b = (a122.put (some 44) (.int .i64 0)) := ⟨_, rfl⟩
    rw [← ha]
    have z123 : 360 ≤ a123.tmps.size := by rw [ha, put_size]; exact z122
    have d123 : a123.defers = [] := by rw [ha, put_defers]; exact d122
    have h20_123 : a123.eval (.tmp 20) = .pointer (some ⟨x.rb, 0, none⟩) := by rw [ha, eval_put _ _ _ _ (by (try simp only [put_size]); omega), if_neg (by decide)]; exact h20_122
    have h22_123 : a123.eval (.tmp 22) = .int .i64 (p : Int) := by rw [ha, eval_put _ _ _ _ (by (try simp only [put_size]); omega), if_neg (by decide)]; exact h22_122
    have h23_123 : a123.eval (.tmp 23) = .int .i64 (n : Int) := by rw [ha, eval_put _ _ _ _ (by (try simp only [put_size]); omega), if_neg (by decide)]; exact h23_122
    have h24_123 : a123.eval (.tmp 24) = .int .i64 (c : Int) := by rw [ha, eval_put _ _ _ _ (by (try simp only [put_size]); omega), if_neg (by decide)]; exact h24_122
    have h25_123 : a123.eval (.tmp 25) = .int .i64 (m : Int) := by rw [ha, eval_put _ _ _ _ (by (try simp only [put_size]); omega), if_neg (by decide)]; exact h25_122
    have h26_123 : a123.eval (.tmp 26) = .bool rd := by rw [ha, eval_put _ _ _ _ (by (try simp only [put_size]); omega), if_neg (by decide)]; exact h26_122
    have h27_123 : a123.eval (.tmp 27) = .bool wt := by rw [ha, eval_put _ _ _ _ (by (try simp only [put_size]); omega), if_neg (by decide)]; exact h27_122
    have h32_123 : a123.eval (.tmp 32) = .slice (some ⟨gb, go, none⟩) m gcp := by rw [ha, eval_put _ _ _ _ (by (try simp only [put_size]); omega), if_neg (by decide)]; exact h32_122
    have h43_123 : a123.eval (.tmp 43) = .int .i64 y := by rw [ha, eval_put _ _ _ _ (by (try simp only [put_size]); omega), if_neg (by decide)]; exact h43_122
    have h44_123 : a123.eval (.tmp 44) = .int .i64 0 := by rw [ha, eval_put _ _ _ _ (by (try simp only [put_size]); omega), if_pos rfl]
    clear ha h20_122 h22_122 h23_122 h24_122 h25_122 h26_122 h27_122 h32_122 h43_122 z122 d122
    refine wp_count m 44 (fun k a W => a.eval (.tmp 44) = .int .i64 (k : Int) ∧ 360 ≤ a.tmps.size ∧ a.defers = [] ∧ W = W11 ∧ a.eval (.tmp 20) = .pointer (some ⟨x.rb, 0, none⟩) ∧ a.eval (.tmp 22) = .int .i64 (p : Int) ∧ a.eval (.tmp 23) = .int .i64 (n : Int) ∧ a.eval (.tmp 24) = .int .i64 (c : Int) ∧ a.eval (.tmp 25) = .int .i64 (m : Int) ∧ a.eval (.tmp 26) = .bool rd ∧ a.eval (.tmp 27) = .bool wt ∧ a.eval (.tmp 32) = .slice (some ⟨gb, go, none⟩) m gcp ∧ a.eval (.tmp 43) = .int .i64 y) (fun k a W h => h.1) ⟨h44_123, z123, d123, rfl, h20_123, h22_123, h23_123, h24_123, h25_123, h26_123, h27_123, h32_123, h43_123⟩ ?_ ?_ ?_
    · rintro k a W hk ⟨hk44, hz, hdf, rfl, i20, i22, i23, i24, i25, i26, i27, i32, i43⟩ R hR
      refine ruled_r46 a _ W 46 k m _ hz hk44 i25 rfl (fun u hu => hR _ _ ?_ ⟨?_, ?_, ?_, rfl, ?_, ?_, ?_, ?_, ?_, ?_, ?_, ?_, ?_⟩)
      · rw [eval_in a dsR46 u 337 (by decide) (by omega), hu]
        congr 1
        rw [Bool.eq_iff_iff]
        simp
      · exact (eval_out a dsR46 u 44 (by decide) (by omega)).trans hk44
      · rw [over_size]; exact hz
      · rw [over_defers]; exact hdf
      · exact (eval_out a dsR46 u 20 (by decide) (by omega)).trans i20
      · exact (eval_out a dsR46 u 22 (by decide) (by omega)).trans i22
      · exact (eval_out a dsR46 u 23 (by decide) (by omega)).trans i23
      · exact (eval_out a dsR46 u 24 (by decide) (by omega)).trans i24
      · exact (eval_out a dsR46 u 25 (by decide) (by omega)).trans i25
      · exact (eval_out a dsR46 u 26 (by decide) (by omega)).trans i26
      · exact (eval_out a dsR46 u 27 (by decide) (by omega)).trans i27
      · exact (eval_out a dsR46 u 32 (by decide) (by omega)).trans i32
      · exact (eval_out a dsR46 u 43 (by decide) (by omega)).trans i43
    · rintro k a W hk ⟨hk44, hz, hdf, rfl, i20, i22, i23, i24, i25, i26, i27, i32, i43⟩ R hR
      refine wp_seq (wp_block (wp_seq (ruled_r48 a _ W 48 gb go gcp m k (L4.getD (c + k) 0) y wt hz hk i27 i32 hk44 i43 (hcell k hk) (hq k hk) (fun u hu => ?_))))
      obtain ⟨b1, hb1⟩ : ∃ b, b = over a dsR48 u := ⟨_, rfl⟩
      show Code.wp Tryz.prog _ _ (over a dsR48 u) W
      rw [← hb1]
      have hz1 : 360 ≤ b1.tmps.size := by rw [hb1, over_size]; exact hz
      have e348 : b1.eval (.tmp 348) = .bool false := by rw [hb1]; exact (eval_in a dsR48 u 348 (by decide) (by omega)).trans hu
      have e44 : b1.eval (.tmp 44) = .int .i64 (k : Int) := by rw [hb1]; exact (eval_out a dsR48 u 44 (by decide) (by omega)).trans hk44
      have j20 : b1.eval (.tmp 20) = .pointer (some ⟨x.rb, 0, none⟩) := by rw [hb1]; exact (eval_out a dsR48 u 20 (by decide) (by omega)).trans i20
      have j22 : b1.eval (.tmp 22) = .int .i64 (p : Int) := by rw [hb1]; exact (eval_out a dsR48 u 22 (by decide) (by omega)).trans i22
      have j23 : b1.eval (.tmp 23) = .int .i64 (n : Int) := by rw [hb1]; exact (eval_out a dsR48 u 23 (by decide) (by omega)).trans i23
      have j24 : b1.eval (.tmp 24) = .int .i64 (c : Int) := by rw [hb1]; exact (eval_out a dsR48 u 24 (by decide) (by omega)).trans i24
      have j25 : b1.eval (.tmp 25) = .int .i64 (m : Int) := by rw [hb1]; exact (eval_out a dsR48 u 25 (by decide) (by omega)).trans i25
      have j26 : b1.eval (.tmp 26) = .bool rd := by rw [hb1]; exact (eval_out a dsR48 u 26 (by decide) (by omega)).trans i26
      have j27 : b1.eval (.tmp 27) = .bool wt := by rw [hb1]; exact (eval_out a dsR48 u 27 (by decide) (by omega)).trans i27
      have j32 : b1.eval (.tmp 32) = .slice (some ⟨gb, go, none⟩) m gcp := by rw [hb1]; exact (eval_out a dsR48 u 32 (by decide) (by omega)).trans i32
      have j43 : b1.eval (.tmp 43) = .int .i64 y := by rw [hb1]; exact (eval_out a dsR48 u 43 (by decide) (by omega)).trans i43
      refine wp_cond_false e348 (wp_skip ?_)
      show Code.wp Tryz.prog _ _ b1 W
      refine wp_incr b1 _ W 47 44 338 339 k _ _ _ _ _ _ _ _ _ (by omega) (by omega) (by omega) e44 (hR _ _ ⟨?_, ?_, ?_, rfl, ?_, ?_, ?_, ?_, ?_, ?_, ?_, ?_, ?_⟩)
      · rw [eval_put _ _ _ _ (by (try simp only [put_size]); omega), if_pos rfl]
      · rw [put_size, put_size, put_size]; exact hz1
      · rw [put_defers, put_defers, put_defers, hb1, over_defers]; exact hdf
      · rw [eval_put _ _ _ _ (by (try simp only [put_size]); omega), if_neg (by decide), eval_put _ _ _ _ (by (try simp only [put_size]); omega), if_neg (by decide), eval_put _ _ _ _ (by (try simp only [put_size]); omega), if_neg (by decide)]; exact j20
      · rw [eval_put _ _ _ _ (by (try simp only [put_size]); omega), if_neg (by decide), eval_put _ _ _ _ (by (try simp only [put_size]); omega), if_neg (by decide), eval_put _ _ _ _ (by (try simp only [put_size]); omega), if_neg (by decide)]; exact j22
      · rw [eval_put _ _ _ _ (by (try simp only [put_size]); omega), if_neg (by decide), eval_put _ _ _ _ (by (try simp only [put_size]); omega), if_neg (by decide), eval_put _ _ _ _ (by (try simp only [put_size]); omega), if_neg (by decide)]; exact j23
      · rw [eval_put _ _ _ _ (by (try simp only [put_size]); omega), if_neg (by decide), eval_put _ _ _ _ (by (try simp only [put_size]); omega), if_neg (by decide), eval_put _ _ _ _ (by (try simp only [put_size]); omega), if_neg (by decide)]; exact j24
      · rw [eval_put _ _ _ _ (by (try simp only [put_size]); omega), if_neg (by decide), eval_put _ _ _ _ (by (try simp only [put_size]); omega), if_neg (by decide), eval_put _ _ _ _ (by (try simp only [put_size]); omega), if_neg (by decide)]; exact j25
      · rw [eval_put _ _ _ _ (by (try simp only [put_size]); omega), if_neg (by decide), eval_put _ _ _ _ (by (try simp only [put_size]); omega), if_neg (by decide), eval_put _ _ _ _ (by (try simp only [put_size]); omega), if_neg (by decide)]; exact j26
      · rw [eval_put _ _ _ _ (by (try simp only [put_size]); omega), if_neg (by decide), eval_put _ _ _ _ (by (try simp only [put_size]); omega), if_neg (by decide), eval_put _ _ _ _ (by (try simp only [put_size]); omega), if_neg (by decide)]; exact j27
      · rw [eval_put _ _ _ _ (by (try simp only [put_size]); omega), if_neg (by decide), eval_put _ _ _ _ (by (try simp only [put_size]); omega), if_neg (by decide), eval_put _ _ _ _ (by (try simp only [put_size]); omega), if_neg (by decide)]; exact j32
      · rw [eval_put _ _ _ _ (by (try simp only [put_size]); omega), if_neg (by decide), eval_put _ _ _ _ (by (try simp only [put_size]); omega), if_neg (by decide), eval_put _ _ _ _ (by (try simp only [put_size]); omega), if_neg (by decide)]; exact j43
    rintro a W ⟨_, hz, hdf, rfl, i20, i22, i23, i24, i25, i26, i27, i32, i43⟩
    clear h20_123 h22_123 h23_123 h24_123 h25_123 h26_123 h27_123 h32_123 h43_123 h44_123 z123 d123
    obtain ⟨a124, ha⟩ : ∃ b, b = a := ⟨_, rfl⟩
    rw [← ha] at hz hdf i20 i22 i23 i24 i25 i26 i27 i32 i43
    show (tailC 36 (bodyC Tryz.f12)).wp Tryz.prog Q a W
    rw [← ha]
    rw [c12_36]
    refine wp_seq (ruled_r50 a124 _ W 50 x.rb p n hz w.heap.size (fun W => LS w W x L4) (fun W => LS w W x L4) hL11 (hSb _) (hSz _) (by omega) hn1 (by omega) i20 i22 i23 (fun W v y h hv hy => h.done0 p n hp hn1 hn _ v y hv hy) (fun u W12 hL12 hu => ?_))
    show (tailC 37 (bodyC Tryz.f12)).wp Tryz.prog Q (over a124 dsR50 u) W12
    rw [c12_37]
    refine wp_seq (wp_mov_asg _ _ W12 51 359 16 _ _ _ _ _ _ _ (.bool true) (by rw [over_size]; omega) ((eval_in a124 dsR50 u 45 (by decide) (by omega)).trans hu) ?_)
    refine wp_ret (hQ _ _ ?_ ?_ hL12.bel)
    · rw [eval_put _ _ _ _ (by rw [put_size, over_size]; omega), if_pos rfl]
    · rw [put_defers, put_defers, over_defers]
      exact hdf
  rw [c12_31]
  cases hbw : (rd && wt) with
  | true =>
    rw [hbw] at hrp hy
    obtain ⟨hrl, hr0⟩ := rep23_t L3 p n c m hl3 (by omega) (by omega)
    rw [← hrp] at hrl hr0
    have hd1 : ((rp.length : Int) == 2) = false := by rw [hrl]; simp; omega
    refine wp_seq (ruled_r37 a21 _ W11 37 sb so sc rp.length (rp.getD 0 0) (rp.getD 1 0) false _ _ z21 (by omega) h40_21 (hsc 0 (by omega)) (hsc 1 (by omega)) hd1 rfl rfl (fun u hu => ?_))
    show (tailC 32 (bodyC Tryz.f12)).wp Tryz.prog Q (over a21 dsR37 u) W11
    obtain ⟨a22, ha⟩ : ∃ b, b = over a21 dsR37 u := ⟨_, rfl⟩
    rw [← ha]
    have z22 : 360 ≤ a22.tmps.size := by rw [ha, over_size]; exact z21
    have d22 : a22.defers = [] := by rw [ha, over_defers]; exact d21
    have h20_22 : a22.eval (.tmp 20) = .pointer (some ⟨x.rb, 0, none⟩) := by rw [ha]; exact (eval_out a21 dsR37 u 20 (by decide) (by omega)).trans h20_21
    have h22_22 : a22.eval (.tmp 22) = .int .i64 (p : Int) := by rw [ha]; exact (eval_out a21 dsR37 u 22 (by decide) (by omega)).trans h22_21
    have h23_22 : a22.eval (.tmp 23) = .int .i64 (n : Int) := by rw [ha]; exact (eval_out a21 dsR37 u 23 (by decide) (by omega)).trans h23_21
    have h24_22 : a22.eval (.tmp 24) = .int .i64 (c : Int) := by rw [ha]; exact (eval_out a21 dsR37 u 24 (by decide) (by omega)).trans h24_21
    have h25_22 : a22.eval (.tmp 25) = .int .i64 (m : Int) := by rw [ha]; exact (eval_out a21 dsR37 u 25 (by decide) (by omega)).trans h25_21
    have h26_22 : a22.eval (.tmp 26) = .bool rd := by rw [ha]; exact (eval_out a21 dsR37 u 26 (by decide) (by omega)).trans h26_21
    have h27_22 : a22.eval (.tmp 27) = .bool wt := by rw [ha]; exact (eval_out a21 dsR37 u 27 (by decide) (by omega)).trans h27_21
    have h28_22 : a22.eval (.tmp 28) = .bool true := by rw [ha]; exact (eval_out a21 dsR37 u 28 (by decide) (by omega)).trans h28_21
    have h31_22 : a22.eval (.tmp 31) = .bool true := by rw [ha]; exact (eval_out a21 dsR37 u 31 (by decide) (by omega)).trans h31_21
    have h41_22 : a22.eval (.tmp 41) = .int .i64 0 := by rw [ha]; exact (eval_out a21 dsR37 u 41 (by decide) (by omega)).trans h41_21
    have h32_22 : a22.eval (.tmp 32) = .slice (some ⟨gb, go, none⟩) m gcp := by rw [ha]; exact (eval_out a21 dsR37 u 32 (by decide) (by omega)).trans h32_21
    have h33_22 : a22.eval (.tmp 33) = .int .i64 0 := by rw [ha]; exact (eval_out a21 dsR37 u 33 (by decide) (by omega)).trans h33_21
    have h40_22 : a22.eval (.tmp 40) = .slice (some ⟨sb, so, none⟩) rp.length sc := by rw [ha]; exact (eval_out a21 dsR37 u 40 (by decide) (by omega)).trans h40_21
    have h42_22 : a22.eval (.tmp 42) = .bool false := by rw [ha]; exact (eval_in a21 dsR37 u 42 (by decide) (by omega)).trans (hu)
    clear h20_21 h22_21 h23_21 h24_21 h25_21 h26_21 h27_21 h28_21 h31_21 h41_21 h32_21 h33_21 h40_21
    clear ha hu u z21 d21
    rw [c12_32]
    refine wp_seq (wp_asg a22 _ W11 38 43 _ _ _ _ (.int .i64 0) rfl ?_)
    show (tailC 33 (bodyC Tryz.f12)).wp Tryz.prog Q (a22.put (some 43) (.int .i64 0)) W11
    obtain ⟨a23, ha⟩ : ∃ b, b = (a22.put (some 43) (.int .i64 0)) := ⟨_, rfl⟩
    rw [← ha]
    have z23 : 360 ≤ a23.tmps.size := by rw [ha, put_size]; exact z22
    have d23 : a23.defers = [] := by rw [ha, put_defers]; exact d22
    have h20_23 : a23.eval (.tmp 20) = .pointer (some ⟨x.rb, 0, none⟩) := by rw [ha, eval_put _ _ _ _ (by (try simp only [put_size]); omega), if_neg (by decide)]; exact h20_22
    have h22_23 : a23.eval (.tmp 22) = .int .i64 (p : Int) := by rw [ha, eval_put _ _ _ _ (by (try simp only [put_size]); omega), if_neg (by decide)]; exact h22_22
    have h23_23 : a23.eval (.tmp 23) = .int .i64 (n : Int) := by rw [ha, eval_put _ _ _ _ (by (try simp only [put_size]); omega), if_neg (by decide)]; exact h23_22
    have h24_23 : a23.eval (.tmp 24) = .int .i64 (c : Int) := by rw [ha, eval_put _ _ _ _ (by (try simp only [put_size]); omega), if_neg (by decide)]; exact h24_22
    have h25_23 : a23.eval (.tmp 25) = .int .i64 (m : Int) := by rw [ha, eval_put _ _ _ _ (by (try simp only [put_size]); omega), if_neg (by decide)]; exact h25_22
    have h26_23 : a23.eval (.tmp 26) = .bool rd := by rw [ha, eval_put _ _ _ _ (by (try simp only [put_size]); omega), if_neg (by decide)]; exact h26_22
    have h27_23 : a23.eval (.tmp 27) = .bool wt := by rw [ha, eval_put _ _ _ _ (by (try simp only [put_size]); omega), if_neg (by decide)]; exact h27_22
    have h28_23 : a23.eval (.tmp 28) = .bool true := by rw [ha, eval_put _ _ _ _ (by (try simp only [put_size]); omega), if_neg (by decide)]; exact h28_22
    have h31_23 : a23.eval (.tmp 31) = .bool true := by rw [ha, eval_put _ _ _ _ (by (try simp only [put_size]); omega), if_neg (by decide)]; exact h31_22
    have h41_23 : a23.eval (.tmp 41) = .int .i64 0 := by rw [ha, eval_put _ _ _ _ (by (try simp only [put_size]); omega), if_neg (by decide)]; exact h41_22
    have h32_23 : a23.eval (.tmp 32) = .slice (some ⟨gb, go, none⟩) m gcp := by rw [ha, eval_put _ _ _ _ (by (try simp only [put_size]); omega), if_neg (by decide)]; exact h32_22
    have h33_23 : a23.eval (.tmp 33) = .int .i64 0 := by rw [ha, eval_put _ _ _ _ (by (try simp only [put_size]); omega), if_neg (by decide)]; exact h33_22
    have h40_23 : a23.eval (.tmp 40) = .slice (some ⟨sb, so, none⟩) rp.length sc := by rw [ha, eval_put _ _ _ _ (by (try simp only [put_size]); omega), if_neg (by decide)]; exact h40_22
    have h42_23 : a23.eval (.tmp 42) = .bool false := by rw [ha, eval_put _ _ _ _ (by (try simp only [put_size]); omega), if_neg (by decide)]; exact h42_22
    have h43_23 : a23.eval (.tmp 43) = .int .i64 0 := by rw [ha, eval_put _ _ _ _ (by (try simp only [put_size]); omega), if_pos rfl]
    clear ha h20_22 h22_22 h23_22 h24_22 h25_22 h26_22 h27_22 h28_22 h31_22 h41_22 h32_22 h33_22 h40_22 h42_22 z22 d22
    rw [c12_33]
    refine wp_seq (wp_seq (ruled_r39 a23 _ W11 39 rd wt z23 h26_23 h27_23 (fun u hu => ?_)))
    show Code.wp Tryz.prog _ _ (over a23 dsR39 u) W11
    obtain ⟨a24, ha⟩ : ∃ b, b = over a23 dsR39 u := ⟨_, rfl⟩
    rw [← ha]
    have z24 : 360 ≤ a24.tmps.size := by rw [ha, over_size]; exact z23
    have d24 : a24.defers = [] := by rw [ha, over_defers]; exact d23
    have h20_24 : a24.eval (.tmp 20) = .pointer (some ⟨x.rb, 0, none⟩) := by rw [ha]; exact (eval_out a23 dsR39 u 20 (by decide) (by omega)).trans h20_23
    have h22_24 : a24.eval (.tmp 22) = .int .i64 (p : Int) := by rw [ha]; exact (eval_out a23 dsR39 u 22 (by decide) (by omega)).trans h22_23
    have h23_24 : a24.eval (.tmp 23) = .int .i64 (n : Int) := by rw [ha]; exact (eval_out a23 dsR39 u 23 (by decide) (by omega)).trans h23_23
    have h24_24 : a24.eval (.tmp 24) = .int .i64 (c : Int) := by rw [ha]; exact (eval_out a23 dsR39 u 24 (by decide) (by omega)).trans h24_23
    have h25_24 : a24.eval (.tmp 25) = .int .i64 (m : Int) := by rw [ha]; exact (eval_out a23 dsR39 u 25 (by decide) (by omega)).trans h25_23
    have h26_24 : a24.eval (.tmp 26) = .bool rd := by rw [ha]; exact (eval_out a23 dsR39 u 26 (by decide) (by omega)).trans h26_23
    have h27_24 : a24.eval (.tmp 27) = .bool wt := by rw [ha]; exact (eval_out a23 dsR39 u 27 (by decide) (by omega)).trans h27_23
    have h28_24 : a24.eval (.tmp 28) = .bool true := by rw [ha]; exact (eval_out a23 dsR39 u 28 (by decide) (by omega)).trans h28_23
    have h31_24 : a24.eval (.tmp 31) = .bool true := by rw [ha]; exact (eval_out a23 dsR39 u 31 (by decide) (by omega)).trans h31_23
    have h41_24 : a24.eval (.tmp 41) = .int .i64 0 := by rw [ha]; exact (eval_out a23 dsR39 u 41 (by decide) (by omega)).trans h41_23
    have h32_24 : a24.eval (.tmp 32) = .slice (some ⟨gb, go, none⟩) m gcp := by rw [ha]; exact (eval_out a23 dsR39 u 32 (by decide) (by omega)).trans h32_23
    have h33_24 : a24.eval (.tmp 33) = .int .i64 0 := by rw [ha]; exact (eval_out a23 dsR39 u 33 (by decide) (by omega)).trans h33_23
    have h40_24 : a24.eval (.tmp 40) = .slice (some ⟨sb, so, none⟩) rp.length sc := by rw [ha]; exact (eval_out a23 dsR39 u 40 (by decide) (by omega)).trans h40_23
    have h42_24 : a24.eval (.tmp 42) = .bool false := by rw [ha]; exact (eval_out a23 dsR39 u 42 (by decide) (by omega)).trans h42_23
    have h43_24 : a24.eval (.tmp 43) = .int .i64 0 := by rw [ha]; exact (eval_out a23 dsR39 u 43 (by decide) (by omega)).trans h43_23
    have h297_24 : a24.eval (.tmp 297) = .bool true := by rw [ha]; exact (eval_in a23 dsR39 u 297 (by decide) (by omega)).trans (hu.trans (congrArg Value.bool hbw))
    clear h20_23 h22_23 h23_23 h24_23 h25_23 h26_23 h27_23 h28_23 h31_23 h41_23 h32_23 h33_23 h40_23 h42_23 h43_23
    clear ha hu u z23 d23
    refine wp_cond_true h297_24 ?_
    refine ruled_r40 a24 _ W11 40 sb so sc rp.length n z24 (by omega) hrl h40_24 h23_24 (by rw [← hr0]; exact hsc 0 (by omega)) (fun u hu => ?_)
    show (tailC 34 (bodyC Tryz.f12)).wp Tryz.prog Q (over a24 dsR40 u) W11
    obtain ⟨a25, ha⟩ : ∃ b, b = over a24 dsR40 u := ⟨_, rfl⟩
    rw [← ha]
    have z25 : 360 ≤ a25.tmps.size := by rw [ha, over_size]; exact z24
    have d25 : a25.defers = [] := by rw [ha, over_defers]; exact d24
    have h20_25 : a25.eval (.tmp 20) = .pointer (some ⟨x.rb, 0, none⟩) := by rw [ha]; exact (eval_out a24 dsR40 u 20 (by decide) (by omega)).trans h20_24
    have h22_25 : a25.eval (.tmp 22) = .int .i64 (p : Int) := by rw [ha]; exact (eval_out a24 dsR40 u 22 (by decide) (by omega)).trans h22_24
    have h23_25 : a25.eval (.tmp 23) = .int .i64 (n : Int) := by rw [ha]; exact (eval_out a24 dsR40 u 23 (by decide) (by omega)).trans h23_24
    have h24_25 : a25.eval (.tmp 24) = .int .i64 (c : Int) := by rw [ha]; exact (eval_out a24 dsR40 u 24 (by decide) (by omega)).trans h24_24
    have h25_25 : a25.eval (.tmp 25) = .int .i64 (m : Int) := by rw [ha]; exact (eval_out a24 dsR40 u 25 (by decide) (by omega)).trans h25_24
    have h26_25 : a25.eval (.tmp 26) = .bool rd := by rw [ha]; exact (eval_out a24 dsR40 u 26 (by decide) (by omega)).trans h26_24
    have h27_25 : a25.eval (.tmp 27) = .bool wt := by rw [ha]; exact (eval_out a24 dsR40 u 27 (by decide) (by omega)).trans h27_24
    have h28_25 : a25.eval (.tmp 28) = .bool true := by rw [ha]; exact (eval_out a24 dsR40 u 28 (by decide) (by omega)).trans h28_24
    have h31_25 : a25.eval (.tmp 31) = .bool true := by rw [ha]; exact (eval_out a24 dsR40 u 31 (by decide) (by omega)).trans h31_24
    have h41_25 : a25.eval (.tmp 41) = .int .i64 0 := by rw [ha]; exact (eval_out a24 dsR40 u 41 (by decide) (by omega)).trans h41_24
    have h32_25 : a25.eval (.tmp 32) = .slice (some ⟨gb, go, none⟩) m gcp := by rw [ha]; exact (eval_out a24 dsR40 u 32 (by decide) (by omega)).trans h32_24
    have h33_25 : a25.eval (.tmp 33) = .int .i64 0 := by rw [ha]; exact (eval_out a24 dsR40 u 33 (by decide) (by omega)).trans h33_24
    have h40_25 : a25.eval (.tmp 40) = .slice (some ⟨sb, so, none⟩) rp.length sc := by rw [ha]; exact (eval_out a24 dsR40 u 40 (by decide) (by omega)).trans h40_24
    have h43_25 : a25.eval (.tmp 43) = .int .i64 0 := by rw [ha]; exact (eval_out a24 dsR40 u 43 (by decide) (by omega)).trans h43_24
    have h297_25 : a25.eval (.tmp 297) = .bool true := by rw [ha]; exact (eval_out a24 dsR40 u 297 (by decide) (by omega)).trans h297_24
    have h42_25 : a25.eval (.tmp 42) = .bool true := by rw [ha]; exact (eval_in a24 dsR40 u 42 (by decide) (by omega)).trans (hu)
    clear h20_24 h22_24 h23_24 h24_24 h25_24 h26_24 h27_24 h28_24 h31_24 h41_24 h32_24 h33_24 h40_24 h42_24 h43_24 h297_24
    clear ha hu u z24 d24
    have hy0 : y = 0 := hy
    rw [hy0] at rest
    exact rest a25 z25 d25 h20_25 h22_25 h23_25 h24_25 h25_25 h26_25 h27_25 h28_25 h31_25 h41_25 h32_25 h33_25 h42_25 h43_25
  | false =>
    rw [hbw] at hrp hy
    rw [rep23_f] at hrp
    refine wp_seq (ruled_r37 a21 _ W11 37 sb so sc rp.length (rp.getD 0 0) (rp.getD 1 0) true true true z21 (by rw [hrp]; simp) h40_21 (hsc 0 (by rw [hrp]; simp)) (hsc 1 (by rw [hrp]; simp)) (by rw [hrp]; rfl) (by rw [hrp]; rfl) (by rw [hrp]; rfl) (fun u hu => ?_))
    show (tailC 32 (bodyC Tryz.f12)).wp Tryz.prog Q (over a21 dsR37 u) W11
    obtain ⟨a22, ha⟩ : ∃ b, b = over a21 dsR37 u := ⟨_, rfl⟩
    rw [← ha]
    have z22 : 360 ≤ a22.tmps.size := by rw [ha, over_size]; exact z21
    have d22 : a22.defers = [] := by rw [ha, over_defers]; exact d21
    have h20_22 : a22.eval (.tmp 20) = .pointer (some ⟨x.rb, 0, none⟩) := by rw [ha]; exact (eval_out a21 dsR37 u 20 (by decide) (by omega)).trans h20_21
    have h22_22 : a22.eval (.tmp 22) = .int .i64 (p : Int) := by rw [ha]; exact (eval_out a21 dsR37 u 22 (by decide) (by omega)).trans h22_21
    have h23_22 : a22.eval (.tmp 23) = .int .i64 (n : Int) := by rw [ha]; exact (eval_out a21 dsR37 u 23 (by decide) (by omega)).trans h23_21
    have h24_22 : a22.eval (.tmp 24) = .int .i64 (c : Int) := by rw [ha]; exact (eval_out a21 dsR37 u 24 (by decide) (by omega)).trans h24_21
    have h25_22 : a22.eval (.tmp 25) = .int .i64 (m : Int) := by rw [ha]; exact (eval_out a21 dsR37 u 25 (by decide) (by omega)).trans h25_21
    have h26_22 : a22.eval (.tmp 26) = .bool rd := by rw [ha]; exact (eval_out a21 dsR37 u 26 (by decide) (by omega)).trans h26_21
    have h27_22 : a22.eval (.tmp 27) = .bool wt := by rw [ha]; exact (eval_out a21 dsR37 u 27 (by decide) (by omega)).trans h27_21
    have h28_22 : a22.eval (.tmp 28) = .bool true := by rw [ha]; exact (eval_out a21 dsR37 u 28 (by decide) (by omega)).trans h28_21
    have h31_22 : a22.eval (.tmp 31) = .bool true := by rw [ha]; exact (eval_out a21 dsR37 u 31 (by decide) (by omega)).trans h31_21
    have h41_22 : a22.eval (.tmp 41) = .int .i64 0 := by rw [ha]; exact (eval_out a21 dsR37 u 41 (by decide) (by omega)).trans h41_21
    have h32_22 : a22.eval (.tmp 32) = .slice (some ⟨gb, go, none⟩) m gcp := by rw [ha]; exact (eval_out a21 dsR37 u 32 (by decide) (by omega)).trans h32_21
    have h33_22 : a22.eval (.tmp 33) = .int .i64 0 := by rw [ha]; exact (eval_out a21 dsR37 u 33 (by decide) (by omega)).trans h33_21
    have h40_22 : a22.eval (.tmp 40) = .slice (some ⟨sb, so, none⟩) rp.length sc := by rw [ha]; exact (eval_out a21 dsR37 u 40 (by decide) (by omega)).trans h40_21
    have h42_22 : a22.eval (.tmp 42) = .bool true := by rw [ha]; exact (eval_in a21 dsR37 u 42 (by decide) (by omega)).trans (hu)
    clear h20_21 h22_21 h23_21 h24_21 h25_21 h26_21 h27_21 h28_21 h31_21 h41_21 h32_21 h33_21 h40_21
    clear ha hu u z21 d21
    rw [c12_32]
    refine wp_seq (wp_asg a22 _ W11 38 43 _ _ _ _ (.int .i64 0) rfl ?_)
    show (tailC 33 (bodyC Tryz.f12)).wp Tryz.prog Q (a22.put (some 43) (.int .i64 0)) W11
    obtain ⟨a23, ha⟩ : ∃ b, b = (a22.put (some 43) (.int .i64 0)) := ⟨_, rfl⟩
    rw [← ha]
    have z23 : 360 ≤ a23.tmps.size := by rw [ha, put_size]; exact z22
    have d23 : a23.defers = [] := by rw [ha, put_defers]; exact d22
    have h20_23 : a23.eval (.tmp 20) = .pointer (some ⟨x.rb, 0, none⟩) := by rw [ha, eval_put _ _ _ _ (by (try simp only [put_size]); omega), if_neg (by decide)]; exact h20_22
    have h22_23 : a23.eval (.tmp 22) = .int .i64 (p : Int) := by rw [ha, eval_put _ _ _ _ (by (try simp only [put_size]); omega), if_neg (by decide)]; exact h22_22
    have h23_23 : a23.eval (.tmp 23) = .int .i64 (n : Int) := by rw [ha, eval_put _ _ _ _ (by (try simp only [put_size]); omega), if_neg (by decide)]; exact h23_22
    have h24_23 : a23.eval (.tmp 24) = .int .i64 (c : Int) := by rw [ha, eval_put _ _ _ _ (by (try simp only [put_size]); omega), if_neg (by decide)]; exact h24_22
    have h25_23 : a23.eval (.tmp 25) = .int .i64 (m : Int) := by rw [ha, eval_put _ _ _ _ (by (try simp only [put_size]); omega), if_neg (by decide)]; exact h25_22
    have h26_23 : a23.eval (.tmp 26) = .bool rd := by rw [ha, eval_put _ _ _ _ (by (try simp only [put_size]); omega), if_neg (by decide)]; exact h26_22
    have h27_23 : a23.eval (.tmp 27) = .bool wt := by rw [ha, eval_put _ _ _ _ (by (try simp only [put_size]); omega), if_neg (by decide)]; exact h27_22
    have h28_23 : a23.eval (.tmp 28) = .bool true := by rw [ha, eval_put _ _ _ _ (by (try simp only [put_size]); omega), if_neg (by decide)]; exact h28_22
    have h31_23 : a23.eval (.tmp 31) = .bool true := by rw [ha, eval_put _ _ _ _ (by (try simp only [put_size]); omega), if_neg (by decide)]; exact h31_22
    have h41_23 : a23.eval (.tmp 41) = .int .i64 0 := by rw [ha, eval_put _ _ _ _ (by (try simp only [put_size]); omega), if_neg (by decide)]; exact h41_22
    have h32_23 : a23.eval (.tmp 32) = .slice (some ⟨gb, go, none⟩) m gcp := by rw [ha, eval_put _ _ _ _ (by (try simp only [put_size]); omega), if_neg (by decide)]; exact h32_22
    have h33_23 : a23.eval (.tmp 33) = .int .i64 0 := by rw [ha, eval_put _ _ _ _ (by (try simp only [put_size]); omega), if_neg (by decide)]; exact h33_22
    have h40_23 : a23.eval (.tmp 40) = .slice (some ⟨sb, so, none⟩) rp.length sc := by rw [ha, eval_put _ _ _ _ (by (try simp only [put_size]); omega), if_neg (by decide)]; exact h40_22
    have h42_23 : a23.eval (.tmp 42) = .bool true := by rw [ha, eval_put _ _ _ _ (by (try simp only [put_size]); omega), if_neg (by decide)]; exact h42_22
    have h43_23 : a23.eval (.tmp 43) = .int .i64 0 := by rw [ha, eval_put _ _ _ _ (by (try simp only [put_size]); omega), if_pos rfl]
    clear ha h20_22 h22_22 h23_22 h24_22 h25_22 h26_22 h27_22 h28_22 h31_22 h41_22 h32_22 h33_22 h40_22 h42_22 z22 d22
    rw [c12_33]
    refine wp_seq (wp_seq (ruled_r39 a23 _ W11 39 rd wt z23 h26_23 h27_23 (fun u hu => ?_)))
    show Code.wp Tryz.prog _ _ (over a23 dsR39 u) W11
    obtain ⟨a24, ha⟩ : ∃ b, b = over a23 dsR39 u := ⟨_, rfl⟩
    rw [← ha]
    have z24 : 360 ≤ a24.tmps.size := by rw [ha, over_size]; exact z23
    have d24 : a24.defers = [] := by rw [ha, over_defers]; exact d23
    have h20_24 : a24.eval (.tmp 20) = .pointer (some ⟨x.rb, 0, none⟩) := by rw [ha]; exact (eval_out a23 dsR39 u 20 (by decide) (by omega)).trans h20_23
    have h22_24 : a24.eval (.tmp 22) = .int .i64 (p : Int) := by rw [ha]; exact (eval_out a23 dsR39 u 22 (by decide) (by omega)).trans h22_23
    have h23_24 : a24.eval (.tmp 23) = .int .i64 (n : Int) := by rw [ha]; exact (eval_out a23 dsR39 u 23 (by decide) (by omega)).trans h23_23
    have h24_24 : a24.eval (.tmp 24) = .int .i64 (c : Int) := by rw [ha]; exact (eval_out a23 dsR39 u 24 (by decide) (by omega)).trans h24_23
    have h25_24 : a24.eval (.tmp 25) = .int .i64 (m : Int) := by rw [ha]; exact (eval_out a23 dsR39 u 25 (by decide) (by omega)).trans h25_23
    have h26_24 : a24.eval (.tmp 26) = .bool rd := by rw [ha]; exact (eval_out a23 dsR39 u 26 (by decide) (by omega)).trans h26_23
    have h27_24 : a24.eval (.tmp 27) = .bool wt := by rw [ha]; exact (eval_out a23 dsR39 u 27 (by decide) (by omega)).trans h27_23
    have h28_24 : a24.eval (.tmp 28) = .bool true := by rw [ha]; exact (eval_out a23 dsR39 u 28 (by decide) (by omega)).trans h28_23
    have h31_24 : a24.eval (.tmp 31) = .bool true := by rw [ha]; exact (eval_out a23 dsR39 u 31 (by decide) (by omega)).trans h31_23
    have h41_24 : a24.eval (.tmp 41) = .int .i64 0 := by rw [ha]; exact (eval_out a23 dsR39 u 41 (by decide) (by omega)).trans h41_23
    have h32_24 : a24.eval (.tmp 32) = .slice (some ⟨gb, go, none⟩) m gcp := by rw [ha]; exact (eval_out a23 dsR39 u 32 (by decide) (by omega)).trans h32_23
    have h33_24 : a24.eval (.tmp 33) = .int .i64 0 := by rw [ha]; exact (eval_out a23 dsR39 u 33 (by decide) (by omega)).trans h33_23
    have h40_24 : a24.eval (.tmp 40) = .slice (some ⟨sb, so, none⟩) rp.length sc := by rw [ha]; exact (eval_out a23 dsR39 u 40 (by decide) (by omega)).trans h40_23
    have h42_24 : a24.eval (.tmp 42) = .bool true := by rw [ha]; exact (eval_out a23 dsR39 u 42 (by decide) (by omega)).trans h42_23
    have h43_24 : a24.eval (.tmp 43) = .int .i64 0 := by rw [ha]; exact (eval_out a23 dsR39 u 43 (by decide) (by omega)).trans h43_23
    have h297_24 : a24.eval (.tmp 297) = .bool false := by rw [ha]; exact (eval_in a23 dsR39 u 297 (by decide) (by omega)).trans (hu.trans (congrArg Value.bool hbw))
    clear h20_23 h22_23 h23_23 h24_23 h25_23 h26_23 h27_23 h28_23 h31_23 h41_23 h32_23 h33_23 h40_23 h42_23 h43_23
    clear ha hu u z23 d23
    refine wp_cond_false h297_24 ?_
    refine wp_seq (wp_mov a24 _ W11 41 310 _ _ _ _ (.bool wt) h27_24 ?_)
    show Code.wp Tryz.prog _ _ (a24.put (some 310) (.bool wt)) W11
    obtain ⟨a25, ha⟩ : ∃ b, b = (a24.put (some 310) (.bool wt)) := ⟨_, rfl⟩
    rw [← ha]
    have z25 : 360 ≤ a25.tmps.size := by rw [ha, put_size]; exact z24
    have d25 : a25.defers = [] := by rw [ha, put_defers]; exact d24
    have h20_25 : a25.eval (.tmp 20) = .pointer (some ⟨x.rb, 0, none⟩) := by rw [ha, eval_put _ _ _ _ (by (try simp only [put_size]); omega), if_neg (by decide)]; exact h20_24
    have h22_25 : a25.eval (.tmp 22) = .int .i64 (p : Int) := by rw [ha, eval_put _ _ _ _ (by (try simp only [put_size]); omega), if_neg (by decide)]; exact h22_24
    have h23_25 : a25.eval (.tmp 23) = .int .i64 (n : Int) := by rw [ha, eval_put _ _ _ _ (by (try simp only [put_size]); omega), if_neg (by decide)]; exact h23_24
    have h24_25 : a25.eval (.tmp 24) = .int .i64 (c : Int) := by rw [ha, eval_put _ _ _ _ (by (try simp only [put_size]); omega), if_neg (by decide)]; exact h24_24
    have h25_25 : a25.eval (.tmp 25) = .int .i64 (m : Int) := by rw [ha, eval_put _ _ _ _ (by (try simp only [put_size]); omega), if_neg (by decide)]; exact h25_24
    have h26_25 : a25.eval (.tmp 26) = .bool rd := by rw [ha, eval_put _ _ _ _ (by (try simp only [put_size]); omega), if_neg (by decide)]; exact h26_24
    have h27_25 : a25.eval (.tmp 27) = .bool wt := by rw [ha, eval_put _ _ _ _ (by (try simp only [put_size]); omega), if_neg (by decide)]; exact h27_24
    have h28_25 : a25.eval (.tmp 28) = .bool true := by rw [ha, eval_put _ _ _ _ (by (try simp only [put_size]); omega), if_neg (by decide)]; exact h28_24
    have h31_25 : a25.eval (.tmp 31) = .bool true := by rw [ha, eval_put _ _ _ _ (by (try simp only [put_size]); omega), if_neg (by decide)]; exact h31_24
    have h41_25 : a25.eval (.tmp 41) = .int .i64 0 := by rw [ha, eval_put _ _ _ _ (by (try simp only [put_size]); omega), if_neg (by decide)]; exact h41_24
    have h32_25 : a25.eval (.tmp 32) = .slice (some ⟨gb, go, none⟩) m gcp := by rw [ha, eval_put _ _ _ _ (by (try simp only [put_size]); omega), if_neg (by decide)]; exact h32_24
    have h33_25 : a25.eval (.tmp 33) = .int .i64 0 := by rw [ha, eval_put _ _ _ _ (by (try simp only [put_size]); omega), if_neg (by decide)]; exact h33_24
    have h40_25 : a25.eval (.tmp 40) = .slice (some ⟨sb, so, none⟩) rp.length sc := by rw [ha, eval_put _ _ _ _ (by (try simp only [put_size]); omega), if_neg (by decide)]; exact h40_24
    have h42_25 : a25.eval (.tmp 42) = .bool true := by rw [ha, eval_put _ _ _ _ (by (try simp only [put_size]); omega), if_neg (by decide)]; exact h42_24
    have h43_25 : a25.eval (.tmp 43) = .int .i64 0 := by rw [ha, eval_put _ _ _ _ (by (try simp only [put_size]); omega), if_neg (by decide)]; exact h43_24
    have h297_25 : a25.eval (.tmp 297) = .bool false := by rw [ha, eval_put _ _ _ _ (by (try simp only [put_size]); omega), if_neg (by decide)]; exact h297_24
    have h310_25 : a25.eval (.tmp 310) = .bool wt := by rw [ha, eval_put _ _ _ _ (by (try simp only [put_size]); omega), if_pos rfl]
    clear ha h20_24 h22_24 h23_24 h24_24 h25_24 h26_24 h27_24 h28_24 h31_24 h41_24 h32_24 h33_24 h40_24 h42_24 h43_24 h297_24 z24 d24
    refine cond_turn 310 43 42 _ _ _ (.int .i64 0) (.int .i64 257) wt h310_25 (tmp_some _ _ (by omega) _ h43_25) (fun v hv => ?_)
    have hv2 : v = .int .i64 y := by rw [hv, hy]; cases wt <;> rfl
    subst hv2
    show (tailC 34 (bodyC Tryz.f12)).wp Tryz.prog Q (a25.put (some 43) (.int .i64 y)) W11
    obtain ⟨a26, ha⟩ : ∃ b, b = (a25.put (some 43) (.int .i64 y)) := ⟨_, rfl⟩
    rw [← ha]
    have z26 : 360 ≤ a26.tmps.size := by rw [ha, put_size]; exact z25
    have d26 : a26.defers = [] := by rw [ha, put_defers]; exact d25
    have h20_26 : a26.eval (.tmp 20) = .pointer (some ⟨x.rb, 0, none⟩) := by rw [ha, eval_put _ _ _ _ (by (try simp only [put_size]); omega), if_neg (by decide)]; exact h20_25
    have h22_26 : a26.eval (.tmp 22) = .int .i64 (p : Int) := by rw [ha, eval_put _ _ _ _ (by (try simp only [put_size]); omega), if_neg (by decide)]; exact h22_25
    have h23_26 : a26.eval (.tmp 23) = .int .i64 (n : Int) := by rw [ha, eval_put _ _ _ _ (by (try simp only [put_size]); omega), if_neg (by decide)]; exact h23_25
    have h24_26 : a26.eval (.tmp 24) = .int .i64 (c : Int) := by rw [ha, eval_put _ _ _ _ (by (try simp only [put_size]); omega), if_neg (by decide)]; exact h24_25
    have h25_26 : a26.eval (.tmp 25) = .int .i64 (m : Int) := by rw [ha, eval_put _ _ _ _ (by (try simp only [put_size]); omega), if_neg (by decide)]; exact h25_25
    have h26_26 : a26.eval (.tmp 26) = .bool rd := by rw [ha, eval_put _ _ _ _ (by (try simp only [put_size]); omega), if_neg (by decide)]; exact h26_25
    have h27_26 : a26.eval (.tmp 27) = .bool wt := by rw [ha, eval_put _ _ _ _ (by (try simp only [put_size]); omega), if_neg (by decide)]; exact h27_25
    have h28_26 : a26.eval (.tmp 28) = .bool true := by rw [ha, eval_put _ _ _ _ (by (try simp only [put_size]); omega), if_neg (by decide)]; exact h28_25
    have h31_26 : a26.eval (.tmp 31) = .bool true := by rw [ha, eval_put _ _ _ _ (by (try simp only [put_size]); omega), if_neg (by decide)]; exact h31_25
    have h41_26 : a26.eval (.tmp 41) = .int .i64 0 := by rw [ha, eval_put _ _ _ _ (by (try simp only [put_size]); omega), if_neg (by decide)]; exact h41_25
    have h32_26 : a26.eval (.tmp 32) = .slice (some ⟨gb, go, none⟩) m gcp := by rw [ha, eval_put _ _ _ _ (by (try simp only [put_size]); omega), if_neg (by decide)]; exact h32_25
    have h33_26 : a26.eval (.tmp 33) = .int .i64 0 := by rw [ha, eval_put _ _ _ _ (by (try simp only [put_size]); omega), if_neg (by decide)]; exact h33_25
    have h40_26 : a26.eval (.tmp 40) = .slice (some ⟨sb, so, none⟩) rp.length sc := by rw [ha, eval_put _ _ _ _ (by (try simp only [put_size]); omega), if_neg (by decide)]; exact h40_25
    have h42_26 : a26.eval (.tmp 42) = .bool true := by rw [ha, eval_put _ _ _ _ (by (try simp only [put_size]); omega), if_neg (by decide)]; exact h42_25
    have h297_26 : a26.eval (.tmp 297) = .bool false := by rw [ha, eval_put _ _ _ _ (by (try simp only [put_size]); omega), if_neg (by decide)]; exact h297_25
    have h310_26 : a26.eval (.tmp 310) = .bool wt := by rw [ha, eval_put _ _ _ _ (by (try simp only [put_size]); omega), if_neg (by decide)]; exact h310_25
    have h43_26 : a26.eval (.tmp 43) = .int .i64 y := by rw [ha, eval_put _ _ _ _ (by (try simp only [put_size]); omega), if_pos rfl]
    clear ha h20_25 h22_25 h23_25 h24_25 h25_25 h26_25 h27_25 h28_25 h31_25 h41_25 h32_25 h33_25 h40_25 h42_25 h43_25 h297_25 h310_25 z25 d25
    exact rest a26 z26 d26 h20_26 h22_26 h23_26 h24_26 h25_26 h26_26 h27_26 h28_26 h31_26 h41_26 h32_26 h33_26 h42_26 h43_26
end Go.Proofs.YtfekelmldebplaaGreatDoor
