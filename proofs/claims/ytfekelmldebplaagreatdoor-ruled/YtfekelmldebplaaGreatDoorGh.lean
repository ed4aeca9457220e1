import Derived.Test.YtfekelmldebplaaGreatDoorZc
import Derived.Test.YtfekelmldebplaaGreatDoorTr
import Derived.Test.YtfekelmldebplaaGreatDoorFe
namespace Go.Proofs.YtfekelmldebplaaGreatDoor
open Go.RowKit Go.MuLone

/-! ### What a slot holds -/
inductive Fact where
  | val (v : Value)
  | bytes (xs : List Int)
  | row (xss : List (List Int))
  | any
def Fact.ok (B : Nat) : Fact → Value → World → Prop
  | .val x, v, _ => v = x
  | .bytes xs, v, w => (∃ a n c, v = .slice a n c) ∧ Owns w B v xs
  | .row xss, v, w => ∃ (J : Nat) (vs : List Value), v = .slice (some ⟨J, 0, none⟩) xss.length xss.length ∧ vs.length = xss.length ∧ w.heap[J]? = some (.cells vs.toArray 37 (0, 0)) ∧ ∀ i, i < xss.length → Owns w B (vs.getD i undef) (xss.getD i [])
  | .any, _, _ => True
theorem Fact.keep {B : Nat} : ∀ (f : Fact) (v : Value) (w w' : World), f.ok B v w → LeB w w' → f.ok B v w'
  | .val _, _, _, _, h, _ => h
  | .bytes _, _, _, _, h, l => ⟨h.1, h.2.leB l⟩
  | .row _, _, _, _, ⟨J, vs, e, hl, q, o⟩, l => ⟨J, vs, e, hl, l J _ _ _ (.inr rfl) q, fun i hi => (o i hi).leB l⟩
  | .any, _, _, _, h, _ => h
def RF (B : Nat) (fs : List Fact) (i : Nat) (v : Value) (w : World) : Prop := (fs.getD i .any).ok B v w
theorem RF.keep {B : Nat} {fs : List Fact} (i : Nat) (v : Value) (w w' : World) (h : RF B fs i v w) (l : LeB w w') : RF B fs i v w' := Fact.keep _ v w w' h l
theorem Fact.fresh (W : World) (xs : List Int) (B : Nat) (hB : B ≤ W.heap.size) (hn : xs.length ≤ 1000000) : Fact.ok B (.bytes xs) (.slice (some ⟨W.heap.size, 0, none⟩) xs.length xs.length) (W.alloc (.cells (xs.map (Value.int .u8)).toArray 5)) := ⟨⟨_, _, _, rfl⟩, owns_fresh W xs B hB hn⟩
/-- A row that was just laid. -/
theorem Fact.newRow (W : World) (vs : List Value) (xss : List (List Int)) (B : Nat) (hl : vs.length = xss.length) (h : ∀ i, i < xss.length → Owns W B (vs.getD i undef) (xss.getD i [])) : Fact.ok B (.row xss) (.slice (some ⟨W.heap.size, 0, none⟩) xss.length xss.length) (W.alloc (.cells vs.toArray 37)) :=
  ⟨W.heap.size, vs, rfl, hl, heap_alloc_new W _, fun i hi => (h i hi).leB (LeB.new _ _)⟩

section
variable {A : Act} {W : World} {S : World → Prop} {Q : Exit → Act → World → Prop} {B : Nat} {R : Value → World → Prop} {d : Nat} {T : TypeId} {p : String} {af : Array Edge} {g : Option (Nat × Bool)}

/-- 'join' of the lists of a row. -/
theorem step_join (x : Operand) (ts : Array TypeId) (xss : List (List Int)) (out : List Int) (hS : S W) (hB : B ≤ W.heap.size) (hSb : ∀ W W', S W → Below W.heap.size W W' → S W') (hx : Fact.ok B (.row xss) (A.eval x) W) (hne : ∀ i, i < xss.length → xss.getD i [] ≠ []) (hn : xss.length ≤ 1000) (ht : xss.flatten.length ≤ 1000000) (ho : xss.flatten = out)
    (hR : ∀ v w', Fact.ok B (.bytes out) v w' → R v w') : Does Tryz.prog { dst := some d, op := .call { callee := .value (.func 24), args := #[x], argTypes := ts }, type := T, pos := p, after := af, guard := g } A W R LeB S Q := by
  obtain ⟨J, vs, e, hl, q, o⟩ := hx
  have hj := join_row J xss.length vs xss _ W W (Below.refl _ _) q hl rfl (fun i hi => ⟨(o i hi).lies, hne i hi⟩) hn ht
  rw [← e] at hj
  refine step_enter d rfl (run_call1 _ _ _ (by simp [Act.eval]) callf_join) _ hj ?_
  rintro e' w' ⟨a', m', c', rfl, ho', hb⟩
  rw [ho] at ho'
  exact ⟨_, rfl, hR _ _ ⟨⟨_, _, _, rfl⟩, ho'.weak hB⟩, LeB.of_below hb, hSb _ _ hS hb⟩
theorem callf_word (args : Array Value) (w : World) : (callFunc 25 args).run Tryz.prog w = .ok (.enter 25 args) w := by
  simp [go_sem]
theorem callf_wordy (args : Array Value) (w : World) : (callFunc 22 args).run Tryz.prog w = .ok (.enter 22 args) w := by
  simp [go_sem]
/-- 'word'. -/
theorem step_word (x : Operand) (ts : Array TypeId) (n : Int) (hS : S W) (hB : B ≤ W.heap.size) (hSb : ∀ W W', S W → Below W.heap.size W W' → S W') (hx : A.eval x = .int .i64 n) (h0 : 0 ≤ n) (h1 : n ≤ 65535)
    (hR : ∀ v w', Fact.ok B (.bytes (wd n)) v w' → R v w') : Does Tryz.prog { dst := some d, op := .call { callee := .value (.func 25), args := #[x], argTypes := ts }, type := T, pos := p, after := af, guard := g } A W R LeB S Q := by
  have hj := word_any n W h0 h1
  rw [← hx] at hj
  refine step_enter d rfl (run_call1 _ _ _ (by simp [Act.eval]) callf_word) _ hj ?_
  rintro e' w' ⟨rfl, rfl⟩
  exact ⟨_, rfl, hR _ _ (Fact.fresh W (wd n) B hB (by simp [wd])), LeB.new _ _, hSb _ _ hS (rule_new _ _)⟩
/-- 'wordy'. -/
theorem step_wordy (x : Operand) (ts : Array TypeId) (a : Option Addr) (c : Nat) (xs : List Int) (hS : S W) (hB : B ≤ W.heap.size) (hSb : ∀ W W', S W → Below W.heap.size W W' → S W') (hx : A.eval x = .slice a xs.length c) (hxs : xs = [] ∨ ∃ b o, a = some ⟨b, o, none⟩ ∧ b < W.heap.size ∧ ∀ i, i < xs.length → W.cell? ⟨b, o + i, none⟩ = some (.int .i64 (xs.getD i 0))) (hin : ∀ x ∈ xs, 0 ≤ x ∧ x ≤ 65535) (hn : xs.length ≤ 1000)
    (hR : ∀ v w', Fact.ok B (.bytes (wordsL xs)) v w' → R v w') : Does Tryz.prog { dst := some d, op := .call { callee := .value (.func 22), args := #[x], argTypes := ts }, type := T, pos := p, after := af, guard := g } A W R LeB S Q := by
  have hj := wordy_lies a c xs W hxs hin hn
  rw [← hx] at hj
  refine step_enter d rfl (run_call1 _ _ _ (by simp [Act.eval]) callf_wordy) _ hj ?_
  rintro e' w' ⟨v', rfl, ho, hb⟩
  obtain ⟨a', n', c', rfl⟩ := own_shape ho
  exact ⟨_, rfl, hR _ _ ⟨⟨_, _, _, rfl⟩, ho.weak hB⟩, LeB.of_below hb, hSb _ _ hS hb⟩
end
section
variable {ev : Operand → Value} {w : World} {dst : Option Tmp} {T : TypeId} {p : String} {af : Array Edge} {g : Option (Nat × Bool)}
theorem run_mul2 (x : Operand) (n : Int) (hc : ∀ v, ev (.const v) = v) (hx : ev x = .int .i64 n) (h0 : 0 ≤ n) (h1 : n ≤ 1000000) : (execOp ev { dst := dst, op := .binOp .mul 3 (.const (.int .i64 2)) x 3, type := T, pos := p, after := af, guard := g }).run Tryz.prog w = .ok (.value (.int .i64 (2 * n))) w := by
  have hw : IntKind.i64.wrap (2 * n) = 2 * n := by
    rw [IntKind.wrap_i64]
    omega
  simp [go_sem, hc, hx, hw]
theorem run_add (x y : Operand) (n m : Int) (hx : ev x = .int .i64 n) (hy : ev y = .int .i64 m) (h0 : 0 ≤ n) (h1 : n ≤ 1000000) (h2 : 0 ≤ m) (h3 : m ≤ 1000000) : (execOp ev { dst := dst, op := .binOp .add 3 x y 3, type := T, pos := p, after := af, guard := g }).run Tryz.prog w = .ok (.value (.int .i64 (n + m))) w := by
  have hw : IntKind.i64.wrap (n + m) = n + m := by
    rw [IntKind.wrap_i64]
    omega
  simp [go_sem, hx, hy, hw]
theorem run_lenI (x : Operand) (a : Option Addr) (n c : Nat) (hx : ev x = .slice a n c) : (execOp ev { dst := dst, op := .call { callee := .builtin .len, args := #[x], argTypes := #[24] }, type := 3, pos := p, after := af, guard := g }).run Tryz.prog w = .ok (.value (.int .i64 n)) w := by
  simp [go_sem, hx]
theorem run_row3 (x y z : Operand) (a1 a2 a3 : Option Addr) (n1 c1 n2 c2 n3 c3 : Nat) (hx : ev x = .slice a1 n1 c1) (hy : ev y = .slice a2 n2 c2) (hz : ev z = .slice a3 n3 c3) : (execOp ev { dst := dst, op := .buildSlice 45 3 #[(0, x), (1, y), (2, z)], type := T, pos := p, after := af, guard := g }).run Tryz.prog w = .ok (.value (.slice (some ⟨w.heap.size, 0, none⟩) 3 3)) (w.alloc (.cells #[.slice a1 n1 c1, .slice a2 n2 c2, .slice a3 n3 c3] 37)) := by
  simp [go_sem, hx, hy, hz]
theorem run_row6 (x1 x2 x3 x4 x5 x6 : Operand) (a1 a2 a3 a4 a5 a6 : Option Addr) (n1 c1 n2 c2 n3 c3 n4 c4 n5 c5 n6 c6 : Nat) (h1 : ev x1 = .slice a1 n1 c1) (h2 : ev x2 = .slice a2 n2 c2) (h3 : ev x3 = .slice a3 n3 c3) (h4 : ev x4 = .slice a4 n4 c4) (h5 : ev x5 = .slice a5 n5 c5) (h6 : ev x6 = .slice a6 n6 c6) : (execOp ev { dst := dst, op := .buildSlice 45 6 #[(0, x1), (1, x2), (2, x3), (3, x4), (4, x5), (5, x6)], type := T, pos := p, after := af, guard := g }).run Tryz.prog w = .ok (.value (.slice (some ⟨w.heap.size, 0, none⟩) 6 6)) (w.alloc (.cells #[.slice a1 n1 c1, .slice a2 n2 c2, .slice a3 n3 c3, .slice a4 n4 c4, .slice a5 n5 c5, .slice a6 n6 c6] 37)) := by
  simp [go_sem, h1, h2, h3, h4, h5, h6]
theorem run_index (x y : Operand) (b n c k : Nat) (hx : ev x = .slice (some ⟨b, 0, none⟩) n c) (hy : ev y = .int .i64 (k : Int)) (hk : k < n) : (execOp ev { dst := dst, op := .indexAddr 24 x y, type := T, pos := p, after := af, guard := g }).run Tryz.prog w = .ok (.value (.pointer (some ⟨b, k, none⟩))) w := by
  simp [go_sem, hx, hy]
  exact fun h => absurd h (by omega)
theorem run_loadI (x : Operand) (b k : Nat) (n : Int) (hx : ev x = .pointer (some ⟨b, k, none⟩)) (hc : w.cell? ⟨b, k, none⟩ = some (.int .i64 n)) : (execOp ev { dst := dst, op := .load 3 x, type := T, pos := p, after := af, guard := g }).run Tryz.prog w = .ok (.value (.int .i64 n)) w := by
  simp [go_sem, hx, hc]
theorem run_slice (x y z : Operand) (b n c i j : Nat) (hx : ev x = .slice (some ⟨b, 0, none⟩) n c) (hy : ev y = .int .i64 (i : Int)) (hz : ev z = .int .i64 (j : Int)) (hij : i ≤ j) (hj : j ≤ c) (hi : i < c) : (execOp ev { dst := dst, op := .slice 24 x (some y) (some z) none, type := T, pos := p, after := af, guard := g }).run Tryz.prog w = .ok (.value (.slice (some ⟨b, i, none⟩) (j - i) (c - i))) w := by
  have h3 : c ≠ i := by omega
  simp [go_sem, hx, hy, hz, hij, hj, h3]
end
end Go.Proofs.YtfekelmldebplaaGreatDoor

namespace Go.Proofs.YtfekelmldebplaaGreatDoor
open Go.RowKit

/-! ### The same, where one operation turns what holds -/
/-- Each operation does its part; the operation n turns the flag. -/
def StepAll2 (P : Program) (Q : Exit → Act → World → Prop) (a : Act) (ds : List (Option Nat)) (n : Nat) (S : Bool → World → Prop) (Le : World → World → Prop) (R : Nat → Value → World → Prop) : Nat → List Oper → Prop
  | _, [] => True
  | i, o :: l => (o.guard = none ∧ o.dst = ds.getD i none ∧ (∀ b u w, (i = n → b = false) → S b w → Deps ds R u w o.after.toList → Does P o (over a ds u) w (R i) Le (S (if i = n then true else b)) Q)) ∧ StepAll2 P Q a ds n S Le R (i + 1) l
theorem StepAll2.at {P : Program} {Q : Exit → Act → World → Prop} {a : Act} {ds : List (Option Nat)} {n : Nat} {S : Bool → World → Prop} {Le : World → World → Prop} {R : Nat → Value → World → Prop} : ∀ (l : List Oper) (k i : Nat) (o : Oper), StepAll2 P Q a ds n S Le R k l → l[i]? = some o → (o.guard = none ∧ o.dst = ds.getD (k + i) none ∧ (∀ b u w, (k + i = n → b = false) → S b w → Deps ds R u w o.after.toList → Does P o (over a ds u) w (R (k + i)) Le (S (if k + i = n then true else b)) Q))
  | [], _, _, _, _, e => by simp at e
  | x :: l, k, 0, o, h, e => by
    simp at e
    subst e
    exact h.1
  | x :: l, k, i + 1, o, h, e => by
    have := StepAll2.at l (k + 1) i o h.2 (by simpa using e)
    rw [show k + 1 + i = k + (i + 1) by omega] at this
    exact this
theorem wpAny_facts2 {P : Program} {Q : Exit → Act → World → Prop} {a : Act} {ds : List (Option Nat)} {n : Nat} {S : Bool → World → Prop} {Le : World → World → Prop} {R : Nat → Value → World → Prop} {ops : List Oper}
    (nd : ∀ (i j k : Nat), ds[i]? = some (some k) → ds[j]? = some (some k) → i = j) (hlen : ds.length = ops.length)
    (hback : BackAll 0 ops = true) (hst : ∀ i v w w', R i v w → Le w w' → R i v w') (hstep : StepAll2 P Q a ds n S Le R 0 ops)
    (hn : n < ops.length) (hend : ∀ u w, S true w → (∀ i, i < ops.length → R i (valOf u (ds.getD i none)) w) → Q .normal (over a ds u) w) :
    ∀ (fuel : Nat) (listed : Array Bool) (u : Nat → Value) (w : World), S (listed.getD n false) w → listed.size = ops.length → (List.range ops.length).countP (fun i => !listed.getD i true) ≤ fuel → (∀ i, listed.getD i false = true → R i (valOf u (ds.getD i none)) w) →
      wpAny P .any ops.toArray Q fuel listed (over a ds u) w := by
  -- where nothing is ready, all are listed
  have hall : ∀ (listed : Array Bool), listed.size = ops.length → Region.ready .any ops.toArray listed = [] → ∀ i, i < ops.length → listed.getD i false = true := by
    intro listed hs hr i
    induction i using Nat.strongRecOn with
    | _ i ih =>
      intro hi
      cases hb : listed.getD i false with
      | true => rfl
      | false =>
        exfalso
        have hlt : i < listed.size := by omega
        have hb' : listed.getD i true = false := by
          simp only [Array.getD, hlt, dite_true] at hb ⊢
          exact hb
        have : i ∈ Region.ready .any ops.toArray listed := by
          unfold Region.ready
          rw [List.mem_filter]
          refine ⟨by simpa using hi, ?_⟩
          have ho : ops.toArray[i]? = some ops[i] := by simp [hi]
          rw [hb', ho]
          simp only [Bool.not_false, Option.map_some, Option.getD_some, Bool.true_and]
          rw [Array.all_eq_true]
          intro k hk
          have he := BackAll.at ops 0 i ops[i] hback (by simp [hi]) _ (Array.getElem_mem hk)
          rw [he.2, ih _ (by omega) (by omega)]
          rfl
        rw [hr] at this
        simp at this
  have hnorm : ∀ (listed : Array Bool) (u : Nat → Value) (w : World), S (listed.getD n false) w → listed.size = ops.length → Region.ready .any ops.toArray listed = [] → (∀ i, listed.getD i false = true → R i (valOf u (ds.getD i none)) w) → Q .normal (over a ds u) w := fun listed u w hS hs hr hf => hend u w (by rw [hall listed hs hr n hn] at hS; exact hS) (fun i hi => hf i (hall listed hs hr i hi))
  intro fuel
  induction fuel with
  | zero =>
    intro listed u w hS hs hc hf
    have hr : Region.ready .any ops.toArray listed = [] := by
      unfold Region.ready
      rw [List.filter_eq_nil_iff]
      intro i hi
      have h0 : (List.range ops.length).countP (fun i => !listed.getD i true) = 0 := by omega
      rw [List.countP_eq_zero] at h0
      have := h0 i (by simpa using hi)
      simp only [Bool.and_eq_true, _root_.not_and]
      intro h
      exact absurd h this
    exact ⟨hr, hnorm listed u w hS hs hr hf⟩
  | succ fuel ih =>
    intro listed u w hS hs hc hf
    refine ⟨fun hr => hnorm listed u w hS hs hr hf, fun i hi => ?_⟩
    unfold Region.ready at hi
    rw [List.mem_filter] at hi
    obtain ⟨hi, hp⟩ := hi
    have hi' : i < ops.length := by simpa using hi
    have ho : ops.toArray[i]? = some ops[i] := by simp [hi']
    have hol : ops[i]? = some ops[i] := by simp [hi']
    rw [ho] at hp
    simp only [Option.map_some, Option.getD_some, Bool.and_eq_true, Bool.not_eq_true'] at hp
    obtain ⟨hpl, hpa⟩ := hp
    rw [Array.all_eq_true] at hpa
    obtain ⟨s1, s2, s3⟩ := StepAll2.at ops 0 i ops[i] hstep hol
    rw [Nat.zero_add] at s2 s3
    have hdi : ds[i]? = some (ds.getD i none) := by
      have : i < ds.length := by omega
      simp [List.getD, List.getElem?_eq_getElem this]
    have hdm : (ops[i]).dst = none ∨ (ops[i]).dst ∈ ds := by
      rw [s2]
      exact .inr (List.mem_of_getElem? hdi)
    have hdeps : Deps ds R u w (ops[i]).after.toList := by
      have : ∀ l : List Edge, (∀ e ∈ l, e ∈ (ops[i]).after) → Deps ds R u w l := by
        intro l
        induction l with
        | nil => intro _; trivial
        | cons e l ihl =>
          intro h
          have he := h e (List.mem_cons_self ..)
          obtain ⟨k, hk, rfl⟩ := Array.getElem_of_mem he
          have hb := (BackAll.at ops 0 i ops[i] hback hol _ he).2
          have := hpa k hk
          rw [hb] at this
          refine ⟨hf _ (by simpa using this), ihl (fun e he => h e (List.mem_cons_of_mem _ he))⟩
      exact this _ (fun e he => by simpa using he)
    have hw : Region.wanted ops[i] (yielded ops.toArray (over a ds u).tmps) = true := by
      unfold Region.wanted
      rw [s1]
    unfold wpOp
    rw [ho]
    simp only [hw, if_true]
    refine .inl (Oper.wp_mono ?_ (s3 _ u w (fun e => by
      subst e
      have hil : i < listed.size := by omega
      simp only [Array.getD, hil, dite_true] at hpl ⊢
      exact hpl) hS hdeps).go)
    rintro a' w' ⟨v, rfl, hR, hLe, hS'⟩
    rw [over_put a ds u _ v hdm]
    have hil : i < listed.size := by omega
    have hS2 : S ((listed.setIfInBounds i true).getD n false) w' := by
      have e : (listed.setIfInBounds i true).getD n false = (if i = n then true else listed.getD n false) := by
        by_cases e : i = n
        · subst e
          simp [Array.getD, hil]
        · by_cases hnl : n < listed.size
          · simp only [Array.getD, Array.size_setIfInBounds, hnl, dite_true, Array.getInternal_eq_getElem, Array.getElem_setIfInBounds_ne hnl e]
            simp [e]
          · simp [Array.getD, hnl, e]
      rw [e]
      exact hS'
    refine ih _ _ _ hS2 (by simpa using hs) ?_ ?_
    · have := count_less (p := fun x => !listed.getD x true) (q := fun x => !(listed.setIfInBounds i true).getD x true) (i := i) (fun x hx => by
        by_cases e : x = i
        · subst e
          simp [Array.getD, hil] at hx
        · have e' : i ≠ x := fun h => e h.symm
          by_cases hxl : x < listed.size
          · simp only [Array.getD, Array.size_setIfInBounds, hxl, dite_true, Array.getInternal_eq_getElem, Array.getElem_setIfInBounds_ne hxl e'] at hx ⊢
            exact hx
          · simp [Array.getD, hxl] at hx) (by rw [hpl]; rfl) (by simp [Array.getD, hil]) (List.range ops.length) (by simpa using hi')
      omega
    · intro j hj
      by_cases e : j = i
      · subst e
        rw [← s2]
        have hv : valOf (upd u (ops[j]).dst v) (ops[j]).dst = wrote (ops[j]).dst v := by
          cases (ops[j]).dst with
          | none => rfl
          | some k => simp [valOf, upd, wrote]
        rw [hv]
        exact hR
      · have e' : i ≠ j := fun h => e h.symm
        have hj' : listed.getD j false = true := by
          by_cases hxl : j < listed.size
          · simp only [Array.getD, Array.size_setIfInBounds, hxl, dite_true, Array.getInternal_eq_getElem, Array.getElem_setIfInBounds_ne hxl e'] at hj ⊢
            exact hj
          · simp [Array.getD, hxl] at hj
        have h1 := hst _ _ _ _ (hf j hj') hLe
        have hv : valOf (upd u (ops[i]).dst v) (ds.getD j none) = valOf u (ds.getD j none) := by
          cases hdj : ds.getD j none with
          | none => rfl
          | some k =>
            cases hdi2 : (ops[i]).dst with
            | none => rfl
            | some k2 =>
              have hne : k ≠ k2 := by
                intro hk
                subst hk
                refine e (nd j i k ?_ ?_)
                · have hjl : j < ds.length := by
                    by_cases hjl : j < ds.length
                    · exact hjl
                    · simp [List.getD, List.getElem?_eq_none (Nat.le_of_not_lt hjl)] at hdj
                  simp [List.getD, List.getElem?_eq_getElem hjl] at hdj
                  rw [List.getElem?_eq_getElem hjl, hdj]
                · rw [hdi, ← s2, hdi2]
              simp [valOf, upd, hne]
        rw [hv]
        exact h1

theorem wp_region_facts2 {P : Program} {Q : Exit → Act → World → Prop} {a : Act} {w : World} {id : Nat} {ops : List Oper} (ds : List (Option Nat)) (n : Nat) (S : Bool → World → Prop) (Le : World → World → Prop) (R : Nat → Value → World → Prop)
    (hm : P.follows .mixedOrders = true) (nd : ndB ds = true) (hlen : ds.length = ops.length)
    (hback : BackAll 0 ops = true) (hst : ∀ i v w w', R i v w → Le w w' → R i v w') (hn : n < ops.length) (hS : S false w.drew) (hstep : StepAll2 P Q a ds n S Le R 0 ops)
    (hend : ∀ u w, S true w → (∀ i, i < ops.length → R i (valOf u (ds.getD i none)) w) → Q .normal (over a ds u) w) : (Code.region id ops.toArray true).wp P Q a w := by
  refine wp_region_any hm ?_
  have := wpAny_facts2 (ndB.spec ds nd) hlen hback hst hstep hn hend ops.length (Array.replicate ops.length false) (fun k => a.tmps.getD k undef) w.drew (by
    have e : (Array.replicate ops.length false).getD n false = false := by simp [Array.getD, hn]
    rw [e]
    exact hS) (by simp) (by
    refine Nat.le_trans List.countP_le_length ?_
    simp) (fun i hi => by
    exfalso
    by_cases h : i < ops.length
    · simp [Array.getD, h] at hi
    · simp [Array.getD, h] at hi)
  rw [over_self] at this
  simpa using this
theorem StepAll2.cons {P : Program} {Q : Exit → Act → World → Prop} {a : Act} {ds : List (Option Nat)} {n : Nat} {S : Bool → World → Prop} {Le : World → World → Prop} {R : Nat → Value → World → Prop} {i : Nat} {o : Oper} {l : List Oper} (h1 : o.guard = none) (h2 : o.dst = ds.getD i none)
    (h3 : ∀ b u w, (i = n → b = false) → S b w → Deps ds R u w o.after.toList → Does P o (over a ds u) w (R i) Le (S (if i = n then true else b)) Q) (h4 : StepAll2 P Q a ds n S Le R (i + 1) l) : StepAll2 P Q a ds n S Le R i (o :: l) := ⟨⟨h1, h2, h3⟩, h4⟩
end Go.Proofs.YtfekelmldebplaaGreatDoor

namespace Go.Proofs.YtfekelmldebplaaGreatDoor
open Go.RowKit Go.MuLone

/-! ### Ruled: its rules -/
def otherR : Rule := ⟨2, 0, 65535, true, true⟩
def rdR (lo hi : Nat) : Rule := ⟨3, (lo : Int), (hi : Int), true, false⟩
def wrR (lo hi : Nat) : Rule := ⟨3, (lo : Int), (hi : Int), false, true⟩
def threeR (lo hi wlo whi : Nat) : List Rule := [otherR, rdR lo hi, wrR wlo whi]
def ruledLL (lo hi wlo whi : Nat) : List (List Rule) := [[otherR], threeR lo hi wlo whi]
theorem may_rd (lo hi wlo whi a n : Nat) (hn : 1 ≤ n) : mayB false (threeR lo hi wlo whi) 3 (a : Int) n = decide (lo ≤ a ∧ a + n ≤ hi + 1) := by
  unfold mayB
  rw [Bool.eq_iff_iff]
  simp only [List.all_eq_true, List.mem_range, decide_eq_true_eq]
  constructor
  · intro h
    have h0 := h 0 (by omega)
    have h1 := h (n - 1) (by omega)
    simp [lets, Rule.over, threeR, otherR, rdR, wrR] at h0 h1
    omega
  · intro h k hk
    simp [lets, Rule.over, threeR, otherR, rdR, wrR]
    omega
theorem may_wr (lo hi wlo whi a n : Nat) (hn : 1 ≤ n) : mayB true (threeR lo hi wlo whi) 3 (a : Int) n = decide (wlo ≤ a ∧ a + n ≤ whi + 1) := by
  unfold mayB
  rw [Bool.eq_iff_iff]
  simp only [List.all_eq_true, List.mem_range, decide_eq_true_eq]
  constructor
  · intro h
    have h0 := h 0 (by omega)
    have h1 := h (n - 1) (by omega)
    simp [lets, Rule.over, threeR, otherR, rdR, wrR] at h0 h1
    omega
  · intro h k hk
    simp [lets, Rule.over, threeR, otherR, rdR, wrR]
    omega
theorem may_other (md : Bool) (a : Int) (n : Nat) (hn : 1 ≤ n) : mayB md [otherR] 3 a n = false := by
  unfold mayB
  rw [Bool.eq_false_iff]
  intro h
  rw [List.all_eq_true] at h
  have h0 := h 0 (List.mem_range.2 (by omega))
  simp [lets, Rule.over, otherR] at h0
theorem ruled_ok (lo hi wlo whi : Nat) (h1 : lo ≤ hi) (h2 : hi ≤ 65535) (h3 : wlo ≤ whi) (h4 : whi ≤ 65535) : okRules (ruledLL lo hi wlo whi) = true := by
  simp [okRules, ruledLL, threeR, otherR, rdR, wrR, Rule.bad]
  omega
theorem exc_may (N : Nat) (rs : List Rule) (q : Req) (hr : q.ra + q.rc ≤ N) (hw : q.wa + q.wc ≤ N) (b : Bool) (hb : (mayB false rs (q.t : Int) q.ra q.rc && mayB true rs (q.t : Int) q.wa q.wc) = b) : excL N rs q = if b = true then 0 else 4 := by
  have h1 : hasB N (q.ra : Int) (q.rc : Int) = true := by
    simp only [hasB, Bool.and_eq_true, decide_eq_true_eq]
    omega
  have h2 : hasB N (q.wa : Int) (q.wc : Int) = true := by
    simp only [hasB, Bool.and_eq_true, decide_eq_true_eq]
    omega
  unfold excL
  rw [h1, h2, hb]
  rfl
/-- Where things lie. -/
structure RI where
  B : Nat
  rb : Nat
  sb : Nat
  tb : Nat
  kb : Nat
  lo : Nat
  hi : Nat
  wlo : Nat
  whi : Nat
  b17 : Nat
  b18 : Nat
  us : List Value
/-- In the midst of Ruled. -/
structure LS (w W : World) (x : RI) (L : List Int) : Prop where
  bel : Below w.heap.size w W
  err : ErrVar W
  lw : w.heap.size ≤ x.B
  pos : 0 < x.B
  r17 : W.heap[x.b17]? = some (.cells (rdR x.lo x.hi).cells 52 (0, 0))
  r18 : W.heap[x.b18]? = some (.cells (wrR x.wlo x.whi).cells 52 (0, 0))
  l17 : x.b17 < x.B
  l18 : x.b18 < x.B
  len : L.length = 50
  bd : ∀ y ∈ L, 0 ≤ y ∧ y ≤ 65535
  bk : ∃ t, BankAt W x.B x.rb x.sb x.tb x.kb t (ruledLL x.lo x.hi x.wlo x.whi) x.us ∧ (t.at 3).L = L ∧ ∀ i, i < 3 → ∀ y ∈ (t.at i).L, 0 ≤ y ∧ y ≤ topOf i
theorem LS.below {w W W' : World} {x : RI} {L : List Int} (h : LS w W x L) (hb : Below W.heap.size W W') : LS w W' x L := by
  obtain ⟨t, h1, h2, h3⟩ := h.bk
  exact ⟨bl_trans h.bel hb, h.err.below hb, h.lw, h.pos, (hb.block _ (Array.getElem?_eq_some_iff.1 h.r17).1).trans h.r17, (hb.block _ (Array.getElem?_eq_some_iff.1 h.r18).1).trans h.r18, h.l17, h.l18, h.len, h.bd, t, h1.below hb, h2, h3⟩
theorem turned_lo {W : World} {B rb sb tb kb : Nat} {t : T4} {LL : List (List Rule)} {us : List Value} (h : BankAt W B rb sb tb kb t LL us) {k : Nat} (e : turned t sb k) : B ≤ k := by
  have h2 := h.st.lo
  rcases e with e | ⟨i, _, e⟩
  · omega
  · have h1 := h.glo i
    omega
theorem LeB.turned {w w' : World} {B rb sb tb kb : Nat} {t : T4} {LL : List (List Rule)} {us : List Value} (hB : BankAt w B rb sb tb kb t LL us) (c : Chg w w' (turned t sb)) : LeB w w' := fun k cs T fr hT h =>
  (c.block k (Array.getElem?_eq_some_iff.1 h).1 (fun e => by
    rcases e with e | ⟨i, hi, e⟩
    · exact rows_ne h hB.st.row (by rcases hT with rfl | rfl <;> decide) e
    · exact rows_ne h (hB.tab i hi).2.1.ent (by rcases hT with rfl | rfl <;> decide) e)).trans h
theorem LS.turn {w W W' : World} {x : RI} {L L' : List Int} (h : LS w W x L) {t t' : T4} (hB : BankAt W x.B x.rb x.sb x.tb x.kb t (ruledLL x.lo x.hi x.wlo x.whi) x.us) (c : Chg W W' (turned t x.sb)) (hB' : BankAt W' x.B x.rb x.sb x.tb x.kb t' (ruledLL x.lo x.hi x.wlo x.whi) x.us) (h3 : (t'.at 3).L = L') (hl : L'.length = 50) (hd : ∀ y ∈ L', 0 ≤ y ∧ y ≤ 65535) (ho : ∀ i, i < 3 → ∀ y ∈ (t'.at i).L, 0 ≤ y ∧ y ≤ topOf i) : LS w W' x L' := by
  have hp := h.pos
  have hlw := h.lw
  have l17 := h.l17
  have l18 := h.l18
  refine ⟨below_chg h.bel c (fun k e => by have := turned_lo hB e; omega), (World.cell?_of_block (c.block 0 (World.block_lt_of_cell? W _ h.err) (fun e => by have := turned_lo hB e; omega))).trans h.err, h.lw, h.pos, (c.block _ (Array.getElem?_eq_some_iff.1 h.r17).1 (fun e => by have := turned_lo hB e; omega)).trans h.r17, (c.block _ (Array.getElem?_eq_some_iff.1 h.r18).1 (fun e => by have := turned_lo hB e; omega)).trans h.r18, l17, l18, hl, hd, t', hB', h3, ho⟩
theorem put_other (t : T4) (L : List Int) (i : Nat) (hi : i < 3) : ((t.put 3 L).at i).L = (t.at i).L := by
  have hk : i = 0 ∨ i = 1 ∨ i = 2 := by omega
  rcases hk with rfl | rfl | rfl <;> rfl
/-- What is answered. -/
def repR (L : List Int) (q : Req) (f : Int) (b : Bool) : List Int := if b then toldL q (wordsL (spanL (carryL L q) q.ra q.rc)) else excB f 4
def nxtR (L : List Int) (q : Req) (b : Bool) : List Int := if b then carryL L q else L
theorem LS.answer {w W : World} {x : RI} {L : List Int} (h : LS w W x L) (cl : Nat) (rs : List Rule) (hrs : (ruledLL x.lo x.hi x.wlo x.whi)[cl]? = some rs) (f : Int) (bs : List Int) (q : Req) (Bv : Nat) (v : Value) (hv : Owns W Bv v (f :: bs)) (hlen : bs.length ≤ 252) (hbs : Bys bs) (hp : parseL f bs = .inr q) (ht : q.t = 3) (hr : q.ra + q.rc ≤ 50) (hw : q.wa + q.wc ≤ 50)
    (b : Bool) (hb : (mayB false rs 3 q.ra q.rc && mayB true rs 3 q.wa q.wc) = b) :
    Calls Tryz.prog 28 #[.pointer (some ⟨x.rb, 0, none⟩), .int .i64 (cl : Int), v] W fun r w' => ∃ a n c, r = .returned (.tuple #[.slice a n c, .int .i64 0]) ∧ Owns w' W.heap.size (.slice a n c) (repR L q f b) ∧ LS w w' x (nxtR L q b) ∧ LeB W w' := by
  obtain ⟨t, hB, hL, ho⟩ := h.bk
  have hcl : cl < (ruledLL x.lo x.hi x.wlo x.whi).length := (List.getElem?_eq_some_iff.1 hrs).1
  have hcl2 : cl < 2 := hcl
  have h8 : rs.length ≤ 8 := by
    have hk : cl = 0 ∨ cl = 1 := by omega
    rcases hk with rfl | rfl
    · cases hrs; simp
    · cases hrs; simp [threeR]
  have hus : ∃ u, x.us[cl]? = some u := by
    have hl := hB.st.cl.len
    have : cl < x.us.length := by rw [hl]; exact hcl
    exact ⟨x.us[cl], List.getElem?_eq_getElem this⟩
  obtain ⟨u, hu⟩ := hus
  have hq := parseL_ok f bs hbs hlen q hp
  have hlen3 : (t.at q.t).L.length = 50 := by rw [ht, hL]; exact h.len
  have hex : excL (t.at q.t).L.length rs q = if b = true then 0 else 4 := exc_may _ rs q (by omega) (by omega) b (by rw [ht]; exact hb)
  have hj : judge t rs f bs = if b = true then .inr q else .inl 4 := by
    unfold judge
    rw [hp]
    simp only
    rw [hex]
    cases b <;> rfl
  have hLL : ∀ i, i < 4 → ∀ y ∈ (t.at i).L, 0 ≤ y ∧ y ≤ topOf i := fun i hi y hy => by
    by_cases e : i < 3
    · exact ho i e y hy
    · obtain rfl : i = 3 := by omega
      rw [hL] at hy
      exact h.bd y hy
  refine (answer_any x.B x.rb x.sb x.tb x.kb t _ x.us cl rs u f v bs W hB (by omega) hrs hu h8 hv.lies (fun b e => own_cells hv e) hlen hbs h.err h.pos hLL).mono ?_
  rintro r w' ⟨a, n, c, rfl, ho', hB', hc⟩
  refine ⟨a, n, c, rfl, ?_, ?_, LeB.turned hB hc⟩
  · have e : replyL t rs f bs = repR L q f b := by
      unfold replyL repR
      rw [hj]
      cases b with
      | true =>
        show toldL q (packT q.t (spanL (carryL (t.at q.t).L q) q.ra q.rc)) = _
        rw [ht, hL]
        rfl
      | false => rfl
    rw [e] at ho'
    exact ho'
  · have e : nextT t rs f bs = t.put 3 (nxtR L q b) := by
      unfold nextT nxtR
      rw [hj]
      cases b with
      | true =>
        show t.put q.t (carryL (t.at q.t).L q) = _
        rw [ht, hL]
        rfl
      | false =>
        show t = t.put 3 L
        rw [← hL, put_same t 3 (by omega)]
    rw [e] at hB'
    have hwl : q.wa + q.wc ≤ L.length := by rw [h.len]; exact hw
    refine h.turn hB hc hB' (put_at t 3 (by omega) _).1 ?_ ?_ (fun i hi y hy => ?_)
    · unfold nxtR
      cases b with
      | true => exact (carryL_len L q hwl).trans h.len
      | false => exact h.len
    · unfold nxtR
      cases b with
      | true =>
        intro y hy
        have := carryL_in L q hq (by rw [ht]; exact h.bd) hwl y hy
        rw [ht] at this
        exact this
      | false => exact h.bd
    · rw [put_other t _ i hi] at hy
      exact ho i hi y hy
/-- Asked and told as it must be. -/
theorem LS.done {w W : World} {x : RI} {L : List Int} (h : LS w W x L) (cl : Nat) (rs : List Rule) (hrs : (ruledLL x.lo x.hi x.wlo x.whi)[cl]? = some rs) (f : Int) (bs : List Int) (q : Req) (Bv Bx : Nat) (v y : Value) (hv : Owns W Bv v (f :: bs)) (hlen : bs.length ≤ 252) (hbs : Bys bs) (hp : parseL f bs = .inr q) (ht : q.t = 3) (hr : q.ra + q.rc ≤ 50) (hw : q.wa + q.wc ≤ 50)
    (b : Bool) (hb : (mayB false rs 3 q.ra q.rc && mayB true rs 3 q.wa q.wc) = b) (ws : List Int) (hy : Owns W Bx y ws) (he : ws = repR L q f b) (hws : Bys ws) :
    Calls Tryz.prog 23 #[.pointer (some ⟨x.rb, 0, none⟩), .int .i64 (cl : Int), v, y] W fun r w' => r = .returned (.bool true) ∧ LS w w' x (nxtR L q b) ∧ LeB W w' := by
  subst he
  refine (done_okc x.rb cl v y _ W hy.lies hws _ hws (fun _ w' => LS w w' x (nxtR L q b) ∧ LeB W w') ((h.answer cl rs hrs f bs q Bv v hv hlen hbs hp ht hr hw b hb).mono ?_) ?_).mono ?_
  · rintro r w' ⟨a, n, c, rfl, ho, hl, hle⟩
    exact ⟨⟨hl, hle⟩, a, n, c, rfl, ho.lies, (hy.leB hle).lies⟩
  · obtain ⟨a, c, e⟩ := hv.lies.slice
    exact ⟨_, _, _, e⟩
  · rintro r w' ⟨rfl, r0, q1, q2⟩
    exact ⟨by simp, q1, q2⟩

set_option maxRecDepth 10000 in
set_option maxHeartbeats 1000000 in
theorem told_any (b : Bool) (f : Int) (B : Nat) (v : Value) (ws : List Int) (w : World) (hB : B ≤ w.heap.size) (hv : (∃ a n c, v = .slice a n c) ∧ Owns w B v ws) :
    Calls Tryz.prog 30 #[.bool b, .int .u8 f, v] w fun r w' => ∃ y, r = .returned y ∧ ((∃ a n c, y = .slice a n c) ∧ Owns w' B y (if b then ws else excB f 4)) ∧ Below w.heap.size w w' := by
  obtain ⟨⟨a, n, c, rfl⟩, ho⟩ := hv
  have HO := hide ho
  clear ho
  cases b with
  | true =>
    go_enter Tryz.func30, Tryz.ntmps30
    go_wp2
    go_ret
    exact ⟨_, rfl, ⟨⟨_, _, _, rfl⟩, unhide HO⟩, Below.refl _ _⟩
  | false =>
    go_enter Tryz.func30, Tryz.ntmps30
    go_wp2
    go_ret
    exact ⟨_, rfl, ⟨⟨_, _, _, rfl⟩, owns_fresh w (excB f 4) B hB (by simp [excB])⟩, rule_new _ _⟩
end Go.Proofs.YtfekelmldebplaaGreatDoor

namespace Go.Proofs.YtfekelmldebplaaGreatDoor
open Go.RowKit Go.MuLone

theorem step_none {P : Program} {o : Oper} {A : Act} {w w' : World} {Q : Exit → Act → World → Prop} {R : Value → World → Prop} {Le : World → World → Prop} {S : World → Prop} (hd : o.dst = none) (hr : (execOp A.eval o).run P w = .ok .skip w') (hR : R undef w') (hL : Le w w') (hS : S w') :
    Does P o A w R Le S Q := ⟨by
  unfold Oper.wp
  rw [hr]
  exact ⟨undef, by rw [hd], by rw [hd]; exact hR, hL, hS⟩⟩
theorem callf_pick (args : Array Value) (w : World) : (callFunc 15 args).run Tryz.prog w = .ok (.enter 15 args) w := by
  simp [go_sem]
theorem callf_told (args : Array Value) (w : World) : (callFunc 30 args).run Tryz.prog w = .ok (.enter 30 args) w := by
  simp [go_sem]
section
variable {ev : Operand → Value} {w : World} {dst : Option Tmp} {T : TypeId} {p : String} {af : Array Edge} {g : Option (Nat × Bool)}
theorem run_call2c (f : FuncId) (x : Operand) (n : Int) (ts : Array TypeId) (hf : ev (.func f) = .func (.func f) #[] #[]) (hn : ev (.const (.int .i64 n)) = .int .i64 n) (hc : ∀ args w, (callFunc f args).run Tryz.prog w = .ok (.enter f args) w) : (execOp ev { dst := dst, op := .call { callee := .value (.func f), args := #[x, .const (.int .i64 n)], argTypes := ts }, type := T, pos := p, after := af, guard := g }).run Tryz.prog w = .ok (.enter f #[ev x, .int .i64 n]) w := by
  simp [go_sem, hf, hc, hn]
theorem run_call3 (f : FuncId) (x y z : Operand) (ts : Array TypeId) (hf : ev (.func f) = .func (.func f) #[] #[]) (hc : ∀ args w, (callFunc f args).run Tryz.prog w = .ok (.enter f args) w) : (execOp ev { dst := dst, op := .call { callee := .value (.func f), args := #[x, y, z], argTypes := ts }, type := T, pos := p, after := af, guard := g }).run Tryz.prog w = .ok (.enter f #[ev x, ev y, ev z]) w := by
  simp [go_sem, hf, hc]
theorem run_field (x : Operand) (b k : Nat) (hk : k = 1 ∨ k = 2) (hx : ev x = .pointer (some ⟨b, 0, none⟩)) : (execOp ev { dst := dst, op := .fieldAddr 52 x k, type := T, pos := p, after := af, guard := g }).run Tryz.prog w = .ok (.value (.pointer (some ⟨b, k, none⟩))) w := by
  rcases hk with rfl | rfl <;> simp [go_sem, hx]
theorem run_storeI (x y : Operand) (b k : Nat) (n m : Int) (hx : ev x = .pointer (some ⟨b, k, none⟩)) (hy : ev y = .int .i64 n) (hc : w.cell? ⟨b, k, none⟩ = some (.int .i64 m)) (hf : w.frozen? ⟨b, k, none⟩ = false) : (execOp ev { dst := dst, op := .store 3 x y, type := T, pos := p, after := af, guard := g }).run Tryz.prog w = .ok .skip (w.setCell ⟨b, k, none⟩ (.int .i64 n)) := by
  simp [go_sem, hx, hy, hc, hf]
theorem run_row7 (x1 x2 x3 x4 x5 x6 x7 : Operand) (a1 a2 a3 a4 a5 a6 a7 : Option Addr) (n1 c1 n2 c2 n3 c3 n4 c4 n5 c5 n6 c6 n7 c7 : Nat) (h1 : ev x1 = .slice a1 n1 c1) (h2 : ev x2 = .slice a2 n2 c2) (h3 : ev x3 = .slice a3 n3 c3) (h4 : ev x4 = .slice a4 n4 c4) (h5 : ev x5 = .slice a5 n5 c5) (h6 : ev x6 = .slice a6 n6 c6) (h7 : ev x7 = .slice a7 n7 c7) : (execOp ev { dst := dst, op := .buildSlice 45 7 #[(0, x1), (1, x2), (2, x3), (3, x4), (4, x5), (5, x6), (6, x7)], type := T, pos := p, after := af, guard := g }).run Tryz.prog w = .ok (.value (.slice (some ⟨w.heap.size, 0, none⟩) 7 7)) (w.alloc (.cells #[.slice a1 n1 c1, .slice a2 n2 c2, .slice a3 n3 c3, .slice a4 n4 c4, .slice a5 n5 c5, .slice a6 n6 c6, .slice a7 n7 c7] 37)) := by
  simp [go_sem, h1, h2, h3, h4, h5, h6, h7]
end
/-! ### Regions 2 and 4: a rule's end -/
def opsR2 : List Oper := [
  { dst := some 49, op := Op.fieldAddr 52 (Operand.tmp 17) 1, type := 0, pos := "turns.go:60", after := #[], guard := none },
  { dst := some 50, op := Op.load 3 (Operand.tmp 49), type := 3, pos := "turns.go:60", after := #[{ on := 0, ground := Ground.data }], guard := none },
  { dst := some 51, op := Op.move (Operand.tmp 1), type := 3, pos := "turns.go:60", after := #[], guard := none },
  { dst := some 52, op := Op.call { callee := Callee.value (Operand.func 15), args := #[Operand.tmp 51, Operand.const (Value.int IntKind.i64 12)], argTypes := #[3, 3] }, type := 3, pos := "turns.go:60", after := #[{ on := 2, ground := Ground.data }], guard := none },
  { dst := some 53, op := Op.binOp BinOp.add 3 (Operand.tmp 50) (Operand.tmp 52) 3, type := 3, pos := "turns.go:60", after := #[{ on := 1, ground := Ground.data }, { on := 3, ground := Ground.data }], guard := none },
  { dst := some 54, op := Op.fieldAddr 52 (Operand.tmp 17) 2, type := 0, pos := "turns.go:60", after := #[{ on := 0, ground := Ground.phase }, { on := 1, ground := Ground.phase }, { on := 2, ground := Ground.phase }, { on := 3, ground := Ground.phase }, { on := 4, ground := Ground.phase }], guard := none },
  { dst := none, op := Op.store 3 (Operand.tmp 54) (Operand.tmp 53), type := 0, pos := "turns.go:60", after := #[{ on := 5, ground := Ground.data }, { on := 4, ground := Ground.data }, { on := 3, ground := Ground.chain }, { on := 0, ground := Ground.phase }, { on := 1, ground := Ground.phase }, { on := 2, ground := Ground.phase }, { on := 3, ground := Ground.phase }, { on := 4, ground := Ground.phase }], guard := none }]
def dsR2 : List (Option Nat) := [some 49, some 50, some 51, some 52, some 53, some 54, none]
def fR2 (b17 lo m : Nat) (x : Int) : List Value := [.pointer (some ⟨b17, 1, none⟩), .int .i64 (lo : Int), .int .i64 x, .int .i64 (m : Int), .int .i64 ((lo : Int) + (m : Int)), .pointer (some ⟨b17, 2, none⟩), undef]
set_option maxRecDepth 10000 in
set_option maxHeartbeats 1000000 in
theorem ruled_r2 (a : Act) (Q : Exit → Act → World → Prop) (w : World) (id : Nat) (T : World → Prop) (b17 lo m : Nat) (x : Int) (hsz : 55 ≤ a.tmps.size) (hlo : lo ≤ 100) (hm : m ≤ 100) (hp : ∀ W, Calls Tryz.prog 15 #[.int .i64 x, .int .i64 12] W fun r w' => r = .returned (.int .i64 (m : Int)) ∧ w' = W)
    (h17 : a.eval (.tmp 17) = .pointer (some ⟨b17, 0, none⟩)) (h1 : a.eval (.tmp 1) = .int .i64 x) (hT0 : T w.drew) (hrow : w.heap[b17]? = some (.cells #[.int .i64 3, .int .i64 (lo : Int), .int .i64 0, .bool true, .bool false] 52 (0, 0))) (hT : ∀ W v, T W → T (W.setCell ⟨b17, 2, none⟩ v))
    (hend : ∀ u W, T W → W.heap[b17]? = some (.cells #[.int .i64 3, .int .i64 (lo : Int), .int .i64 ((lo : Int) + (m : Int)), .bool true, .bool false] 52 (0, 0)) → Q .normal (over a dsR2 u) W) : (Code.region id opsR2.toArray true).wp Tryz.prog Q a w := by
  have ein : ∀ u k, some k ∈ dsR2 → k < 55 → (over a dsR2 u).eval (.tmp k) = u k := fun u k h1 h2 => eval_in a dsR2 u k h1 (by omega)
  have eout : ∀ u k, some k ∉ dsR2 → k < 55 → (over a dsR2 u).eval (.tmp k) = a.eval (.tmp k) := fun u k h1 h2 => eval_out a dsR2 u k h1 (by omega)
  refine wp_region_facts2 dsR2 6 (fun b W => T W ∧ W.heap[b17]? = some (.cells #[.int .i64 3, .int .i64 (lo : Int), .int .i64 (if b then (lo : Int) + (m : Int) else 0), .bool true, .bool false] 52 (0, 0))) (fun _ _ => True) (fun i v _ => v = (fR2 b17 lo m x).getD i undef) (by kernel_rfl) (by decide) rfl (by decide) (fun _ _ _ _ h _ => h) (by decide) ⟨hT0, hrow⟩ ?_ (fun u W hS _ => hend u W hS.1 hS.2)
  unfold opsR2
  refine StepAll2.cons rfl rfl (fun b u W hb hS hd => ?_) (StepAll2.cons rfl rfl (fun b u W hb hS hd => ?_) (StepAll2.cons rfl rfl (fun b u W hb hS hd => ?_) (StepAll2.cons rfl rfl (fun b u W hb hS hd => ?_) (StepAll2.cons rfl rfl (fun b u W hb hS hd => ?_) (StepAll2.cons rfl rfl (fun b u W hb hS hd => ?_) (StepAll2.cons rfl rfl (fun b u W hb hS hd => ?_) trivial))))))
  · exact step_value _ rfl (run_field _ b17 1 (.inl rfl) ((eout u 17 (by decide) (by omega)).trans h17)) rfl trivial hS
  · have e0 : u 49 = .pointer (some ⟨b17, 1, none⟩) := hd.1
    have c1 := cell_of_row _ _ 1 _ _ _ hS.2
    exact step_value _ rfl (run_loadI _ b17 1 (lo : Int) ((ein u 49 (by decide) (by omega)).trans e0) (c1.trans rfl)) rfl trivial hS
  · exact step_value _ rfl (run_move _) ((eout u 1 (by decide) (by omega)).trans h1) trivial hS
  · have e2 : u 51 = .int .i64 x := hd.1
    have hj := hp W
    rw [← e2, ← ein u 51 (by decide) (by omega)] at hj
    refine step_enter _ rfl (run_call2c _ _ _ _ (by simp [Act.eval]) (by simp [Act.eval]) callf_pick) _ hj ?_
    rintro e w' ⟨rfl, rfl⟩
    exact ⟨_, rfl, rfl, trivial, hS⟩
  · have e1 : u 50 = .int .i64 (lo : Int) := hd.1
    have e3 : u 52 = .int .i64 (m : Int) := hd.2.1
    exact step_value _ rfl (run_add _ _ _ _ ((ein u 50 (by decide) (by omega)).trans e1) ((ein u 52 (by decide) (by omega)).trans e3) (by omega) (by omega) (by omega) (by omega)) rfl trivial hS
  · exact step_value _ rfl (run_field _ b17 2 (.inr rfl) ((eout u 17 (by decide) (by omega)).trans h17)) rfl trivial hS
  · obtain rfl : b = false := hb rfl
    have e5 : u 54 = .pointer (some ⟨b17, 2, none⟩) := hd.1
    have e4 : u 53 = .int .i64 ((lo : Int) + (m : Int)) := hd.2.1
    have c2 := cell_of_row _ _ 2 _ _ _ hS.2
    refine step_none rfl (run_storeI _ _ b17 2 ((lo : Int) + (m : Int)) 0 ((ein u 54 (by decide) (by omega)).trans e5) ((ein u 53 (by decide) (by omega)).trans e4) (c2.trans rfl) (frozen_of_row _ _ 2 _ _ hS.2)) rfl trivial ⟨hT _ _ hS.1, ?_⟩
    exact heap_setCell_same _ _ _ _ _ _ hS.2

def opsR4 : List Oper := [
  { dst := some 58, op := Op.fieldAddr 52 (Operand.tmp 18) 1, type := 0, pos := "turns.go:62", after := #[], guard := none },
  { dst := some 59, op := Op.load 3 (Operand.tmp 58), type := 3, pos := "turns.go:62", after := #[{ on := 0, ground := Ground.data }], guard := none },
  { dst := some 60, op := Op.move (Operand.tmp 3), type := 3, pos := "turns.go:62", after := #[], guard := none },
  { dst := some 61, op := Op.call { callee := Callee.value (Operand.func 15), args := #[Operand.tmp 60, Operand.const (Value.int IntKind.i64 12)], argTypes := #[3, 3] }, type := 3, pos := "turns.go:62", after := #[{ on := 2, ground := Ground.data }], guard := none },
  { dst := some 62, op := Op.binOp BinOp.add 3 (Operand.tmp 59) (Operand.tmp 61) 3, type := 3, pos := "turns.go:62", after := #[{ on := 1, ground := Ground.data }, { on := 3, ground := Ground.data }], guard := none },
  { dst := some 63, op := Op.fieldAddr 52 (Operand.tmp 18) 2, type := 0, pos := "turns.go:62", after := #[{ on := 0, ground := Ground.phase }, { on := 1, ground := Ground.phase }, { on := 2, ground := Ground.phase }, { on := 3, ground := Ground.phase }, { on := 4, ground := Ground.phase }], guard := none },
  { dst := none, op := Op.store 3 (Operand.tmp 63) (Operand.tmp 62), type := 0, pos := "turns.go:62", after := #[{ on := 5, ground := Ground.data }, { on := 4, ground := Ground.data }, { on := 3, ground := Ground.chain }, { on := 0, ground := Ground.phase }, { on := 1, ground := Ground.phase }, { on := 2, ground := Ground.phase }, { on := 3, ground := Ground.phase }, { on := 4, ground := Ground.phase }], guard := none }]
def dsR4 : List (Option Nat) := [some 58, some 59, some 60, some 61, some 62, some 63, none]
def fR4 (b17 lo m : Nat) (x : Int) : List Value := [.pointer (some ⟨b17, 1, none⟩), .int .i64 (lo : Int), .int .i64 x, .int .i64 (m : Int), .int .i64 ((lo : Int) + (m : Int)), .pointer (some ⟨b17, 2, none⟩), undef]
set_option maxRecDepth 10000 in
set_option maxHeartbeats 1000000 in
theorem ruled_r4 (a : Act) (Q : Exit → Act → World → Prop) (w : World) (id : Nat) (T : World → Prop) (b17 lo m : Nat) (x : Int) (hsz : 64 ≤ a.tmps.size) (hlo : lo ≤ 100) (hm : m ≤ 100) (hp : ∀ W, Calls Tryz.prog 15 #[.int .i64 x, .int .i64 12] W fun r w' => r = .returned (.int .i64 (m : Int)) ∧ w' = W)
    (h17 : a.eval (.tmp 18) = .pointer (some ⟨b17, 0, none⟩)) (h1 : a.eval (.tmp 3) = .int .i64 x) (hT0 : T w.drew) (hrow : w.heap[b17]? = some (.cells #[.int .i64 3, .int .i64 (lo : Int), .int .i64 0, .bool false, .bool true] 52 (0, 0))) (hT : ∀ W v, T W → T (W.setCell ⟨b17, 2, none⟩ v))
    (hend : ∀ u W, T W → W.heap[b17]? = some (.cells #[.int .i64 3, .int .i64 (lo : Int), .int .i64 ((lo : Int) + (m : Int)), .bool false, .bool true] 52 (0, 0)) → Q .normal (over a dsR4 u) W) : (Code.region id opsR4.toArray true).wp Tryz.prog Q a w := by
  have ein : ∀ u k, some k ∈ dsR4 → k < 64 → (over a dsR4 u).eval (.tmp k) = u k := fun u k h1 h2 => eval_in a dsR4 u k h1 (by omega)
  have eout : ∀ u k, some k ∉ dsR4 → k < 64 → (over a dsR4 u).eval (.tmp k) = a.eval (.tmp k) := fun u k h1 h2 => eval_out a dsR4 u k h1 (by omega)
  refine wp_region_facts2 dsR4 6 (fun b W => T W ∧ W.heap[b17]? = some (.cells #[.int .i64 3, .int .i64 (lo : Int), .int .i64 (if b then (lo : Int) + (m : Int) else 0), .bool false, .bool true] 52 (0, 0))) (fun _ _ => True) (fun i v _ => v = (fR4 b17 lo m x).getD i undef) (by kernel_rfl) (by decide) rfl (by decide) (fun _ _ _ _ h _ => h) (by decide) ⟨hT0, hrow⟩ ?_ (fun u W hS _ => hend u W hS.1 hS.2)
  unfold opsR4
  refine StepAll2.cons rfl rfl (fun b u W hb hS hd => ?_) (StepAll2.cons rfl rfl (fun b u W hb hS hd => ?_) (StepAll2.cons rfl rfl (fun b u W hb hS hd => ?_) (StepAll2.cons rfl rfl (fun b u W hb hS hd => ?_) (StepAll2.cons rfl rfl (fun b u W hb hS hd => ?_) (StepAll2.cons rfl rfl (fun b u W hb hS hd => ?_) (StepAll2.cons rfl rfl (fun b u W hb hS hd => ?_) trivial))))))
  · exact step_value _ rfl (run_field _ b17 1 (.inl rfl) ((eout u 18 (by decide) (by omega)).trans h17)) rfl trivial hS
  · have e0 : u 58 = .pointer (some ⟨b17, 1, none⟩) := hd.1
    have c1 := cell_of_row _ _ 1 _ _ _ hS.2
    exact step_value _ rfl (run_loadI _ b17 1 (lo : Int) ((ein u 58 (by decide) (by omega)).trans e0) (c1.trans rfl)) rfl trivial hS
  · exact step_value _ rfl (run_move _) ((eout u 3 (by decide) (by omega)).trans h1) trivial hS
  · have e2 : u 60 = .int .i64 x := hd.1
    have hj := hp W
    rw [← e2, ← ein u 60 (by decide) (by omega)] at hj
    refine step_enter _ rfl (run_call2c _ _ _ _ (by simp [Act.eval]) (by simp [Act.eval]) callf_pick) _ hj ?_
    rintro e w' ⟨rfl, rfl⟩
    exact ⟨_, rfl, rfl, trivial, hS⟩
  · have e1 : u 59 = .int .i64 (lo : Int) := hd.1
    have e3 : u 61 = .int .i64 (m : Int) := hd.2.1
    exact step_value _ rfl (run_add _ _ _ _ ((ein u 59 (by decide) (by omega)).trans e1) ((ein u 61 (by decide) (by omega)).trans e3) (by omega) (by omega) (by omega) (by omega)) rfl trivial hS
  · exact step_value _ rfl (run_field _ b17 2 (.inr rfl) ((eout u 18 (by decide) (by omega)).trans h17)) rfl trivial hS
  · obtain rfl : b = false := hb rfl
    have e5 : u 63 = .pointer (some ⟨b17, 2, none⟩) := hd.1
    have e4 : u 62 = .int .i64 ((lo : Int) + (m : Int)) := hd.2.1
    have c2 := cell_of_row _ _ 2 _ _ _ hS.2
    refine step_none rfl (run_storeI _ _ b17 2 ((lo : Int) + (m : Int)) 0 ((ein u 63 (by decide) (by omega)).trans e5) ((ein u 62 (by decide) (by omega)).trans e4) (c2.trans rfl) (frozen_of_row _ _ 2 _ _ hS.2)) rfl trivial ⟨hT _ _ hS.1, ?_⟩
    exact heap_setCell_same _ _ _ _ _ _ hS.2
end Go.Proofs.YtfekelmldebplaaGreatDoor

namespace Go.Proofs.YtfekelmldebplaaGreatDoor
open Go.RowKit Go.MuLone

theorem words_rep (m : Nat) : wordsL (List.replicate m 0) = List.replicate (2 * m) 0 := by
  induction m with
  | zero => rfl
  | succ m ih =>
    rw [List.replicate_succ, show 2 * (m + 1) = 2 * m + 1 + 1 by omega, List.replicate_succ, List.replicate_succ, ← ih]
    rfl

def opsR15 : List Oper := [
  { dst := some 120, op := Op.move (Operand.tmp 20), type := 28, pos := "turns.go:74", after := #[], guard := none },
  { dst := some 121, op := Op.buildSlice 37 1 #[(0, Operand.const (Value.int IntKind.u8 3))], type := 37, pos := "turns.go:74", after := #[], guard := none },
  { dst := some 122, op := Op.move (Operand.tmp 22), type := 3, pos := "turns.go:74", after := #[], guard := none },
  { dst := some 123, op := Op.call { callee := Callee.value (Operand.func 25), args := #[Operand.tmp 122], argTypes := #[3] }, type := 37, pos := "turns.go:74", after := #[{ on := 2, ground := Ground.data }], guard := none },
  { dst := some 124, op := Op.move (Operand.tmp 23), type := 3, pos := "turns.go:74", after := #[], guard := none },
  { dst := some 125, op := Op.call { callee := Callee.value (Operand.func 25), args := #[Operand.tmp 124], argTypes := #[3] }, type := 37, pos := "turns.go:74", after := #[{ on := 4, ground := Ground.data }, { on := 3, ground := Ground.chain }], guard := none },
  { dst := some 126, op := Op.buildSlice 45 3 #[(0, Operand.tmp 121), (1, Operand.tmp 123), (2, Operand.tmp 125)], type := 45, pos := "turns.go:74", after := #[{ on := 1, ground := Ground.data }, { on := 3, ground := Ground.data }, { on := 5, ground := Ground.data }], guard := none },
  { dst := some 127, op := Op.call { callee := Callee.value (Operand.func 24), args := #[Operand.tmp 126], argTypes := #[45] }, type := 37, pos := "turns.go:74", after := #[{ on := 6, ground := Ground.data }, { on := 5, ground := Ground.chain }], guard := none },
  { dst := some 128, op := Op.move (Operand.tmp 26), type := 4, pos := "turns.go:74", after := #[], guard := none },
  { dst := some 129, op := Op.move (Operand.tmp 23), type := 3, pos := "turns.go:74", after := #[], guard := none },
  { dst := some 130, op := Op.binOp BinOp.mul 3 (Operand.const (Value.int IntKind.i64 2)) (Operand.tmp 129) 3, type := 3, pos := "turns.go:74", after := #[{ on := 9, ground := Ground.data }], guard := none },
  { dst := some 131, op := Op.convert 3 5 (Operand.tmp 130), type := 5, pos := "turns.go:74", after := #[{ on := 10, ground := Ground.data }], guard := none },
  { dst := some 132, op := Op.buildSlice 37 2 #[(0, Operand.const (Value.int IntKind.u8 3)), (1, Operand.tmp 131)], type := 37, pos := "turns.go:74", after := #[{ on := 11, ground := Ground.data }], guard := none },
  { dst := some 133, op := Op.move (Operand.tmp 23), type := 3, pos := "turns.go:74", after := #[], guard := none },
  { dst := some 134, op := Op.binOp BinOp.mul 3 (Operand.const (Value.int IntKind.i64 2)) (Operand.tmp 133) 3, type := 3, pos := "turns.go:74", after := #[{ on := 13, ground := Ground.data }], guard := none },
  { dst := some 135, op := Op.makeSlice 37 (Operand.tmp 134) (Operand.tmp 134), type := 37, pos := "turns.go:74", after := #[{ on := 14, ground := Ground.data }, { on := 14, ground := Ground.data }], guard := none },
  { dst := some 136, op := Op.buildSlice 45 2 #[(0, Operand.tmp 132), (1, Operand.tmp 135)], type := 45, pos := "turns.go:74", after := #[{ on := 12, ground := Ground.data }, { on := 15, ground := Ground.data }], guard := none },
  { dst := some 137, op := Op.call { callee := Callee.value (Operand.func 24), args := #[Operand.tmp 136], argTypes := #[45] }, type := 37, pos := "turns.go:74", after := #[{ on := 16, ground := Ground.data }, { on := 7, ground := Ground.chain }], guard := none },
  { dst := some 138, op := Op.call { callee := Callee.value (Operand.func 30), args := #[Operand.tmp 128, Operand.const (Value.int IntKind.u8 3), Operand.tmp 137], argTypes := #[4, 5, 37] }, type := 37, pos := "turns.go:74", after := #[{ on := 8, ground := Ground.data }, { on := 17, ground := Ground.data }, { on := 17, ground := Ground.chain }], guard := none },
  { dst := some 139, op := Op.call { callee := Callee.value (Operand.func 23), args := #[Operand.tmp 120, Operand.const (Value.int IntKind.i64 1), Operand.tmp 127, Operand.tmp 138], argTypes := #[28, 3, 37, 37] }, type := 4, pos := "turns.go:74", after := #[{ on := 0, ground := Ground.data }, { on := 7, ground := Ground.data }, { on := 18, ground := Ground.data }, { on := 18, ground := Ground.chain }], guard := none },
  { dst := some 28, op := Op.assign (Operand.tmp 139), type := 4, pos := "turns.go:74", after := #[{ on := 19, ground := Ground.data }, { on := 19, ground := Ground.chain }, { on := 0, ground := Ground.phase }, { on := 1, ground := Ground.phase }, { on := 2, ground := Ground.phase }, { on := 3, ground := Ground.phase }, { on := 4, ground := Ground.phase }, { on := 5, ground := Ground.phase }, { on := 6, ground := Ground.phase }, { on := 7, ground := Ground.phase }, { on := 8, ground := Ground.phase }, { on := 9, ground := Ground.phase }, { on := 10, ground := Ground.phase }, { on := 11, ground := Ground.phase }, { on := 12, ground := Ground.phase }, { on := 13, ground := Ground.phase }, { on := 14, ground := Ground.phase }, { on := 15, ground := Ground.phase }, { on := 16, ground := Ground.phase }, { on := 17, ground := Ground.phase }, { on := 18, ground := Ground.phase }, { on := 19, ground := Ground.phase }], guard := none }]
def dsR15 : List (Option Nat) := [some 120, some 121, some 122, some 123, some 124, some 125, some 126, some 127, some 128, some 129, some 130, some 131, some 132, some 133, some 134, some 135, some 136, some 137, some 138, some 139, some 28]
def fR15 (rb p n : Nat) (b : Bool) : List Fact := [.val (.pointer (some ⟨rb, 0, none⟩)),
  .bytes [3],
  .val (.int .i64 (p : Int)),
  .bytes (wd (p : Int)),
  .val (.int .i64 (n : Int)),
  .bytes (wd (n : Int)),
  .row [[3], wd (p : Int), wd (n : Int)],
  .bytes (3 :: readB p n),
  .val (.bool b),
  .val (.int .i64 (n : Int)),
  .val (.int .i64 (2 * (n : Int))),
  .val (.int .u8 (2 * (n : Int))),
  .bytes [3, 2 * (n : Int)],
  .val (.int .i64 (n : Int)),
  .val (.int .i64 (2 * (n : Int))),
  .bytes (List.replicate (2 * n) 0),
  .row [[3, 2 * (n : Int)], List.replicate (2 * n) 0],
  .bytes (3 :: 2 * (n : Int) :: List.replicate (2 * n) 0),
  .bytes (if b then 3 :: 2 * (n : Int) :: List.replicate (2 * n) 0 else excB 3 4),
  .val (.bool true),
  .val (.bool true)]

set_option maxRecDepth 10000 in
set_option maxHeartbeats 1000000 in
theorem ruled_r15 (a : Act) (Q : Exit → Act → World → Prop) (w : World) (B id : Nat) (S : World → Prop) (rb p n : Nat) (b : Bool) (hsz : 140 ≤ a.tmps.size)
    (hp : p ≤ 100) (hn1 : 1 ≤ n) (hn : n ≤ 100) (h20 : a.eval (.tmp 20) = .pointer (some ⟨rb, 0, none⟩)) (h22 : a.eval (.tmp 22) = .int .i64 (p : Int)) (h23 : a.eval (.tmp 23) = .int .i64 (n : Int)) (h26 : a.eval (.tmp 26) = .bool b)
    (hS0 : S w.drew) (hSb : ∀ W W', S W → Below W.heap.size W W' → S W') (hSz : ∀ W, S W → B ≤ W.heap.size)
    (hdone : ∀ W v x, S W → Owns W B v (3 :: readB p n) → Owns W B x (if b then 3 :: 2 * (n : Int) :: List.replicate (2 * n) 0 else excB 3 4) → Calls Tryz.prog 23 #[.pointer (some ⟨rb, 0, none⟩), .int .i64 1, v, x] W fun r w' => r = .returned (.bool true) ∧ S w' ∧ LeB W w')
    (hend : ∀ u W, S W → u 28 = .bool true → Q .normal (over a dsR15 u) W) : (Code.region id opsR15.toArray true).wp Tryz.prog Q a w := by
  have ein : ∀ u k, some k ∈ dsR15 → k < 140 → (over a dsR15 u).eval (.tmp k) = u k := fun u k h1 h2 => eval_in a dsR15 u k h1 (by omega)
  have eout : ∀ u k, some k ∉ dsR15 → k < 140 → (over a dsR15 u).eval (.tmp k) = a.eval (.tmp k) := fun u k h1 h2 => eval_out a dsR15 u k h1 (by omega)
  have ef : ∀ u f, (over a dsR15 u).eval (.func f) = .func (.func f) #[] #[] := fun u f => by simp [Act.eval]
  have hrn : List.replicate (2 * n) (0 : Int) ≠ [] := by
    intro e
    have := congrArg List.length e
    simp at this
    omega
  have hf1 : [[3], wd (p : Int), wd (n : Int)].flatten = 3 :: readB p n := by simp [readB]
  have hf2 : [[3, 2 * (n : Int)], List.replicate (2 * n) 0].flatten = 3 :: 2 * (n : Int) :: List.replicate (2 * n) 0 := by simp
  refine wp_region_facts dsR15 S LeB (RF B (fR15 rb p n b)) (by kernel_rfl) (by decide) rfl (by decide) RF.keep hS0 ?_ (fun u W hS hR => hend u W hS (hR 20 (by decide)))
  unfold opsR15
  refine StepAll.cons rfl rfl (fun u W hS hd => ?_) (StepAll.cons rfl rfl (fun u W hS hd => ?_) (StepAll.cons rfl rfl (fun u W hS hd => ?_) (StepAll.cons rfl rfl (fun u W hS hd => ?_) (StepAll.cons rfl rfl (fun u W hS hd => ?_) (StepAll.cons rfl rfl (fun u W hS hd => ?_) (StepAll.cons rfl rfl (fun u W hS hd => ?_) (StepAll.cons rfl rfl (fun u W hS hd => ?_) (StepAll.cons rfl rfl (fun u W hS hd => ?_) (StepAll.cons rfl rfl (fun u W hS hd => ?_) (StepAll.cons rfl rfl (fun u W hS hd => ?_) (StepAll.cons rfl rfl (fun u W hS hd => ?_) (StepAll.cons rfl rfl (fun u W hS hd => ?_) (StepAll.cons rfl rfl (fun u W hS hd => ?_) (StepAll.cons rfl rfl (fun u W hS hd => ?_) (StepAll.cons rfl rfl (fun u W hS hd => ?_) (StepAll.cons rfl rfl (fun u W hS hd => ?_) (StepAll.cons rfl rfl (fun u W hS hd => ?_) (StepAll.cons rfl rfl (fun u W hS hd => ?_) (StepAll.cons rfl rfl (fun u W hS hd => ?_) (StepAll.cons rfl rfl (fun u W hS hd => ?_) (trivial)))))))))))))))))))))
  · exact step_value _ rfl (run_move _) ((eout u 20 (by decide) (by omega)).trans h20) (LeB.refl _) hS
  · exact step_value _ rfl (run_bytes1 _ 3 rfl) (Fact.fresh W [3] B (hSz W hS) (by simp)) (LeB.new _ _) (hSb _ _ hS (rule_new _ _))
  · exact step_value _ rfl (run_move _) ((eout u 22 (by decide) (by omega)).trans h22) (LeB.refl _) hS
  · have e2 : u 122 = (.int .i64 (p : Int)) := hd.1
    exact step_word _ _ _ hS (hSz W hS) hSb ((ein u 122 (by decide) (by omega)).trans e2) (by omega) (by omega) (fun _ _ h => h)
  · exact step_value _ rfl (run_move _) ((eout u 23 (by decide) (by omega)).trans h23) (LeB.refl _) hS
  · have e4 : u 124 = (.int .i64 (n : Int)) := hd.1
    exact step_word _ _ _ hS (hSz W hS) hSb ((ein u 124 (by decide) (by omega)).trans e4) (by omega) (by omega) (fun _ _ h => h)
  · have e1 : Fact.ok B (.bytes [3]) (u 121) W := hd.1
    obtain ⟨⟨a0, n0, c0, q0⟩, o0⟩ := e1
    rw [q0] at o0
    have e3 : Fact.ok B (.bytes (wd (p : Int))) (u 123) W := hd.2.1
    obtain ⟨⟨a1, n1, c1, q1⟩, o1⟩ := e3
    rw [q1] at o1
    have e5 : Fact.ok B (.bytes (wd (n : Int))) (u 125) W := hd.2.2.1
    obtain ⟨⟨a2, n2, c2, q2⟩, o2⟩ := e5
    rw [q2] at o2
    exact step_value _ rfl (run_row3 _ _ _ a0 a1 a2 n0 c0 n1 c1 n2 c2 ((ein u 121 (by decide) (by omega)).trans q0) ((ein u 123 (by decide) (by omega)).trans q1) ((ein u 125 (by decide) (by omega)).trans q2)) (Fact.newRow W [.slice a0 n0 c0, .slice a1 n1 c1, .slice a2 n2 c2] [[3], wd (p : Int), wd (n : Int)] B rfl (fun i hi => by
      match i, hi with
      | 0, _ => exact o0
      | 1, _ => exact o1
      | 2, _ => exact o2)) (LeB.new _ _) (hSb _ _ hS (rule_new _ _))
  · have e6 : Fact.ok B (.row [[3], wd (p : Int), wd (n : Int)]) (u 126) W := hd.1
    exact step_join _ _ [[3], wd (p : Int), wd (n : Int)] _ hS (hSz W hS) hSb (by rw [ein u 126 (by decide) (by omega)]; exact e6) (fun i hi => by
      match i, hi with
      | 0, _ => exact (by simp)
      | 1, _ => exact (by simp [wd])
      | 2, _ => exact (by simp [wd])) (by simp) (by simp [wd]) hf1 (fun _ _ h => h)
  · exact step_value _ rfl (run_move _) ((eout u 26 (by decide) (by omega)).trans h26) (LeB.refl _) hS
  · exact step_value _ rfl (run_move _) ((eout u 23 (by decide) (by omega)).trans h23) (LeB.refl _) hS
  · have e9 : u 129 = (.int .i64 (n : Int)) := hd.1
    exact step_value _ rfl (run_mul2 _ _ (fun _ => by simp [Act.eval]) ((ein u 129 (by decide) (by omega)).trans e9) (by omega) (by omega)) rfl (LeB.refl _) hS
  · have e10 : u 130 = (.int .i64 (2 * (n : Int))) := hd.1
    exact step_value _ rfl (run_byte _ _ ((ein u 130 (by decide) (by omega)).trans e10) (by omega) (by omega)) rfl (LeB.refl _) hS
  · have e11 : u 131 = (.int .u8 (2 * (n : Int))) := hd.1
    exact step_value _ rfl (run_bytes2 _ _ 3 _ rfl ((ein u 131 (by decide) (by omega)).trans e11)) (Fact.fresh W [3, 2 * (n : Int)] B (hSz W hS) (by simp)) (LeB.new _ _) (hSb _ _ hS (rule_new _ _))
  · exact step_value _ rfl (run_move _) ((eout u 23 (by decide) (by omega)).trans h23) (LeB.refl _) hS
  · have e13 : u 133 = (.int .i64 (n : Int)) := hd.1
    exact step_value _ rfl (run_mul2 _ _ (fun _ => by simp [Act.eval]) ((ein u 133 (by decide) (by omega)).trans e13) (by omega) (by omega)) rfl (LeB.refl _) hS
  · have e14 : u 134 = (.int .i64 (2 * (n : Int))) := hd.1
    have ho := owns_fresh W (List.replicate (2 * n) 0) B (hSz W hS) (by simp; omega)
    rw [List.length_replicate] at ho
    exact step_value _ rfl (run_make _ (2 * n) (((ein u 134 (by decide) (by omega)).trans e14).trans (congrArg (Value.int .i64) (by omega))) (by omega)) ⟨⟨_, _, _, rfl⟩, ho⟩ (LeB.new _ _) (hSb _ _ hS (rule_new _ _))
  · have e12 : Fact.ok B (.bytes [3, 2 * (n : Int)]) (u 132) W := hd.1
    obtain ⟨⟨a0, n0, c0, q0⟩, o0⟩ := e12
    rw [q0] at o0
    have e15 : Fact.ok B (.bytes (List.replicate (2 * n) 0)) (u 135) W := hd.2.1
    obtain ⟨⟨a1, n1, c1, q1⟩, o1⟩ := e15
    rw [q1] at o1
    exact step_value _ rfl (run_row2 _ _ a0 a1 n0 c0 n1 c1 ((ein u 132 (by decide) (by omega)).trans q0) ((ein u 135 (by decide) (by omega)).trans q1)) (Fact.newRow W [.slice a0 n0 c0, .slice a1 n1 c1] [[3, 2 * (n : Int)], List.replicate (2 * n) 0] B rfl (fun i hi => by
      match i, hi with
      | 0, _ => exact o0
      | 1, _ => exact o1)) (LeB.new _ _) (hSb _ _ hS (rule_new _ _))
  · have e16 : Fact.ok B (.row [[3, 2 * (n : Int)], List.replicate (2 * n) 0]) (u 136) W := hd.1
    exact step_join _ _ [[3, 2 * (n : Int)], List.replicate (2 * n) 0] _ hS (hSz W hS) hSb (by rw [ein u 136 (by decide) (by omega)]; exact e16) (fun i hi => by
      match i, hi with
      | 0, _ => exact (by simp)
      | 1, _ => exact hrn) (by simp) (by simp; omega) hf2 (fun _ _ h => h)
  · have e8 : u 128 = (.bool b) := hd.1
    have e17 : Fact.ok B (.bytes (3 :: 2 * (n : Int) :: List.replicate (2 * n) 0)) (u 137) W := hd.2.1
    have hj := told_any b 3 B (u 137) (3 :: 2 * (n : Int) :: List.replicate (2 * n) 0) W (hSz W hS) e17
    rw [← e8, ← ein u 128 (by decide) (by omega), ← ein u 137 (by decide) (by omega)] at hj
    refine step_enter _ rfl (run_call3 _ _ _ _ _ (ef u _) callf_told) _ hj ?_
    rintro e w' ⟨y, rfl, hy, hb⟩
    exact ⟨_, rfl, hy, LeB.of_below hb, hSb _ _ hS hb⟩
  · have e0 : u 120 = (.pointer (some ⟨rb, 0, none⟩)) := hd.1
    have e7 : Fact.ok B (.bytes (3 :: readB p n)) (u 127) W := hd.2.1
    have e18 : Fact.ok B (.bytes (if b then 3 :: 2 * (n : Int) :: List.replicate (2 * n) 0 else excB 3 4)) (u 138) W := hd.2.2.1
    have hj := hdone W (u 127) (u 138) hS e7.2 e18.2
    have e0' : u 120 = .pointer (some ⟨rb, 0, none⟩) := e0
    rw [← e0', ← ein u 120 (by decide) (by omega), ← ein u 127 (by decide) (by omega), ← ein u 138 (by decide) (by omega)] at hj
    refine step_enter _ rfl (run_call4 _ _ _ _ _ _ (ef u _) callf_done) _ hj ?_
    rintro e w' ⟨rfl, hS', hL⟩
    exact ⟨_, rfl, rfl, hL, hS'⟩
  · have e19 : u 139 = (.bool true) := hd.1
    exact step_value _ rfl (run_assign _) (show Fact.ok B (.val (.bool true)) _ W by rw [ein u 139 (by decide) (by omega)]; exact e19) (LeB.refl _) hS

def opsR34 : List Oper := [
  { dst := some 248, op := Op.buildSlice 37 1 #[(0, Operand.const (Value.int IntKind.u8 23))], type := 37, pos := "turns.go:94", after := #[], guard := none },
  { dst := some 249, op := Op.move (Operand.tmp 22), type := 3, pos := "turns.go:94", after := #[], guard := none },
  { dst := some 250, op := Op.call { callee := Callee.value (Operand.func 25), args := #[Operand.tmp 249], argTypes := #[3] }, type := 37, pos := "turns.go:94", after := #[{ on := 1, ground := Ground.data }], guard := none },
  { dst := some 251, op := Op.move (Operand.tmp 23), type := 3, pos := "turns.go:94", after := #[], guard := none },
  { dst := some 252, op := Op.call { callee := Callee.value (Operand.func 25), args := #[Operand.tmp 251], argTypes := #[3] }, type := 37, pos := "turns.go:94", after := #[{ on := 3, ground := Ground.data }, { on := 2, ground := Ground.chain }], guard := none },
  { dst := some 253, op := Op.move (Operand.tmp 24), type := 3, pos := "turns.go:94", after := #[], guard := none },
  { dst := some 254, op := Op.call { callee := Callee.value (Operand.func 25), args := #[Operand.tmp 253], argTypes := #[3] }, type := 37, pos := "turns.go:94", after := #[{ on := 5, ground := Ground.data }, { on := 4, ground := Ground.chain }], guard := none },
  { dst := some 255, op := Op.move (Operand.tmp 25), type := 3, pos := "turns.go:94", after := #[], guard := none },
  { dst := some 256, op := Op.call { callee := Callee.value (Operand.func 25), args := #[Operand.tmp 255], argTypes := #[3] }, type := 37, pos := "turns.go:94", after := #[{ on := 7, ground := Ground.data }, { on := 6, ground := Ground.chain }], guard := none },
  { dst := some 257, op := Op.move (Operand.tmp 25), type := 3, pos := "turns.go:94", after := #[], guard := none },
  { dst := some 258, op := Op.binOp BinOp.mul 3 (Operand.const (Value.int IntKind.i64 2)) (Operand.tmp 257) 3, type := 3, pos := "turns.go:94", after := #[{ on := 9, ground := Ground.data }], guard := none },
  { dst := some 259, op := Op.convert 3 5 (Operand.tmp 258), type := 5, pos := "turns.go:94", after := #[{ on := 10, ground := Ground.data }], guard := none },
  { dst := some 260, op := Op.buildSlice 37 1 #[(0, Operand.tmp 259)], type := 37, pos := "turns.go:94", after := #[{ on := 11, ground := Ground.data }], guard := none },
  { dst := some 261, op := Op.move (Operand.tmp 25), type := 3, pos := "turns.go:94", after := #[], guard := none },
  { dst := some 262, op := Op.binOp BinOp.mul 3 (Operand.const (Value.int IntKind.i64 2)) (Operand.tmp 261) 3, type := 3, pos := "turns.go:94", after := #[{ on := 13, ground := Ground.data }], guard := none },
  { dst := some 263, op := Op.makeSlice 37 (Operand.tmp 262) (Operand.tmp 262), type := 37, pos := "turns.go:94", after := #[{ on := 14, ground := Ground.data }, { on := 14, ground := Ground.data }], guard := none },
  { dst := some 264, op := Op.buildSlice 45 7 #[(0, Operand.tmp 248), (1, Operand.tmp 250), (2, Operand.tmp 252), (3, Operand.tmp 254), (4, Operand.tmp 256), (5, Operand.tmp 260), (6, Operand.tmp 263)], type := 45, pos := "turns.go:94", after := #[{ on := 0, ground := Ground.data }, { on := 2, ground := Ground.data }, { on := 4, ground := Ground.data }, { on := 6, ground := Ground.data }, { on := 8, ground := Ground.data }, { on := 12, ground := Ground.data }, { on := 15, ground := Ground.data }], guard := none },
  { dst := some 265, op := Op.call { callee := Callee.value (Operand.func 24), args := #[Operand.tmp 264], argTypes := #[45] }, type := 37, pos := "turns.go:94", after := #[{ on := 16, ground := Ground.data }, { on := 8, ground := Ground.chain }], guard := none },
  { dst := some 39, op := Op.assign (Operand.tmp 265), type := 37, pos := "turns.go:94", after := #[{ on := 17, ground := Ground.data }, { on := 17, ground := Ground.chain }, { on := 0, ground := Ground.phase }, { on := 1, ground := Ground.phase }, { on := 2, ground := Ground.phase }, { on := 3, ground := Ground.phase }, { on := 4, ground := Ground.phase }, { on := 5, ground := Ground.phase }, { on := 6, ground := Ground.phase }, { on := 7, ground := Ground.phase }, { on := 8, ground := Ground.phase }, { on := 9, ground := Ground.phase }, { on := 10, ground := Ground.phase }, { on := 11, ground := Ground.phase }, { on := 12, ground := Ground.phase }, { on := 13, ground := Ground.phase }, { on := 14, ground := Ground.phase }, { on := 15, ground := Ground.phase }, { on := 16, ground := Ground.phase }, { on := 17, ground := Ground.phase }], guard := none }]
def dsR34 : List (Option Nat) := [some 248, some 249, some 250, some 251, some 252, some 253, some 254, some 255, some 256, some 257, some 258, some 259, some 260, some 261, some 262, some 263, some 264, some 265, some 39]
def fR34 (p n c m : Nat) : List Fact := [.bytes [23],
  .val (.int .i64 (p : Int)),
  .bytes (wd (p : Int)),
  .val (.int .i64 (n : Int)),
  .bytes (wd (n : Int)),
  .val (.int .i64 (c : Int)),
  .bytes (wd (c : Int)),
  .val (.int .i64 (m : Int)),
  .bytes (wd (m : Int)),
  .val (.int .i64 (m : Int)),
  .val (.int .i64 (2 * (m : Int))),
  .val (.int .u8 (2 * (m : Int))),
  .bytes [2 * (m : Int)],
  .val (.int .i64 (m : Int)),
  .val (.int .i64 (2 * (m : Int))),
  .bytes (List.replicate (2 * m) 0),
  .row [[23], wd (p : Int), wd (n : Int), wd (c : Int), wd (m : Int), [2 * (m : Int)], List.replicate (2 * m) 0],
  .bytes (23 :: b23 p n c (List.replicate m 0)),
  .bytes (23 :: b23 p n c (List.replicate m 0))]

set_option maxRecDepth 10000 in
set_option maxHeartbeats 1000000 in
theorem ruled_r34 (a : Act) (Q : Exit → Act → World → Prop) (w : World) (B id : Nat) (S : World → Prop) (p n c m : Nat) (hsz : 266 ≤ a.tmps.size)
    (hp : p ≤ 100) (hn1 : 1 ≤ n) (hn : n ≤ 100) (hc : c ≤ 100) (hm1 : 1 ≤ m) (hm : m ≤ 100) (h22 : a.eval (.tmp 22) = .int .i64 (p : Int)) (h23 : a.eval (.tmp 23) = .int .i64 (n : Int)) (h24 : a.eval (.tmp 24) = .int .i64 (c : Int)) (h25 : a.eval (.tmp 25) = .int .i64 (m : Int))
    (hS0 : S w.drew) (hSb : ∀ W W', S W → Below W.heap.size W W' → S W') (hSz : ∀ W, S W → B ≤ W.heap.size)
    
    (hend : ∀ u W, S W → Fact.ok B (.bytes (23 :: b23 p n c (List.replicate m 0))) (u 39) W → Q .normal (over a dsR34 u) W) : (Code.region id opsR34.toArray true).wp Tryz.prog Q a w := by
  have ein : ∀ u k, some k ∈ dsR34 → k < 266 → (over a dsR34 u).eval (.tmp k) = u k := fun u k h1 h2 => eval_in a dsR34 u k h1 (by omega)
  have eout : ∀ u k, some k ∉ dsR34 → k < 266 → (over a dsR34 u).eval (.tmp k) = a.eval (.tmp k) := fun u k h1 h2 => eval_out a dsR34 u k h1 (by omega)
  have ef : ∀ u f, (over a dsR34 u).eval (.func f) = .func (.func f) #[] #[] := fun u f => by simp [Act.eval]
  have hrn : List.replicate (2 * m) (0 : Int) ≠ [] := by
    intro e
    have := congrArg List.length e
    simp at this
    omega
  have hf1 : [[23], wd (p : Int), wd (n : Int), wd (c : Int), wd (m : Int), [2 * (m : Int)], List.replicate (2 * m) 0].flatten = 23 :: b23 p n c (List.replicate m 0) := by
    unfold b23
    rw [words_rep, List.length_replicate, show ((2 * m : Nat) : Int) = 2 * (m : Int) by omega]
    simp
  refine wp_region_facts dsR34 S LeB (RF B (fR34 p n c m)) (by kernel_rfl) (by decide) rfl (by decide) RF.keep hS0 ?_ (fun u W hS hR => hend u W hS (hR 18 (by decide)))
  unfold opsR34
  refine StepAll.cons rfl rfl (fun u W hS hd => ?_) (StepAll.cons rfl rfl (fun u W hS hd => ?_) (StepAll.cons rfl rfl (fun u W hS hd => ?_) (StepAll.cons rfl rfl (fun u W hS hd => ?_) (StepAll.cons rfl rfl (fun u W hS hd => ?_) (StepAll.cons rfl rfl (fun u W hS hd => ?_) (StepAll.cons rfl rfl (fun u W hS hd => ?_) (StepAll.cons rfl rfl (fun u W hS hd => ?_) (StepAll.cons rfl rfl (fun u W hS hd => ?_) (StepAll.cons rfl rfl (fun u W hS hd => ?_) (StepAll.cons rfl rfl (fun u W hS hd => ?_) (StepAll.cons rfl rfl (fun u W hS hd => ?_) (StepAll.cons rfl rfl (fun u W hS hd => ?_) (StepAll.cons rfl rfl (fun u W hS hd => ?_) (StepAll.cons rfl rfl (fun u W hS hd => ?_) (StepAll.cons rfl rfl (fun u W hS hd => ?_) (StepAll.cons rfl rfl (fun u W hS hd => ?_) (StepAll.cons rfl rfl (fun u W hS hd => ?_) (StepAll.cons rfl rfl (fun u W hS hd => ?_) (trivial)))))))))))))))))))
  · exact step_value _ rfl (run_bytes1 _ 23 rfl) (Fact.fresh W [23] B (hSz W hS) (by simp)) (LeB.new _ _) (hSb _ _ hS (rule_new _ _))
  · exact step_value _ rfl (run_move _) ((eout u 22 (by decide) (by omega)).trans h22) (LeB.refl _) hS
  · have e1 : u 249 = (.int .i64 (p : Int)) := hd.1
    exact step_word _ _ _ hS (hSz W hS) hSb ((ein u 249 (by decide) (by omega)).trans e1) (by omega) (by omega) (fun _ _ h => h)
  · exact step_value _ rfl (run_move _) ((eout u 23 (by decide) (by omega)).trans h23) (LeB.refl _) hS
  · have e3 : u 251 = (.int .i64 (n : Int)) := hd.1
    exact step_word _ _ _ hS (hSz W hS) hSb ((ein u 251 (by decide) (by omega)).trans e3) (by omega) (by omega) (fun _ _ h => h)
  · exact step_value _ rfl (run_move _) ((eout u 24 (by decide) (by omega)).trans h24) (LeB.refl _) hS
  · have e5 : u 253 = (.int .i64 (c : Int)) := hd.1
    exact step_word _ _ _ hS (hSz W hS) hSb ((ein u 253 (by decide) (by omega)).trans e5) (by omega) (by omega) (fun _ _ h => h)
  · exact step_value _ rfl (run_move _) ((eout u 25 (by decide) (by omega)).trans h25) (LeB.refl _) hS
  · have e7 : u 255 = (.int .i64 (m : Int)) := hd.1
    exact step_word _ _ _ hS (hSz W hS) hSb ((ein u 255 (by decide) (by omega)).trans e7) (by omega) (by omega) (fun _ _ h => h)
  · exact step_value _ rfl (run_move _) ((eout u 25 (by decide) (by omega)).trans h25) (LeB.refl _) hS
  · have e9 : u 257 = (.int .i64 (m : Int)) := hd.1
    exact step_value _ rfl (run_mul2 _ _ (fun _ => by simp [Act.eval]) ((ein u 257 (by decide) (by omega)).trans e9) (by omega) (by omega)) rfl (LeB.refl _) hS
  · have e10 : u 258 = (.int .i64 (2 * (m : Int))) := hd.1
    exact step_value _ rfl (run_byte _ _ ((ein u 258 (by decide) (by omega)).trans e10) (by omega) (by omega)) rfl (LeB.refl _) hS
  · have e11 : u 259 = (.int .u8 (2 * (m : Int))) := hd.1
    exact step_value _ rfl (run_bytes1 _ _ ((ein u 259 (by decide) (by omega)).trans e11)) (Fact.fresh W [2 * (m : Int)] B (hSz W hS) (by simp)) (LeB.new _ _) (hSb _ _ hS (rule_new _ _))
  · exact step_value _ rfl (run_move _) ((eout u 25 (by decide) (by omega)).trans h25) (LeB.refl _) hS
  · have e13 : u 261 = (.int .i64 (m : Int)) := hd.1
    exact step_value _ rfl (run_mul2 _ _ (fun _ => by simp [Act.eval]) ((ein u 261 (by decide) (by omega)).trans e13) (by omega) (by omega)) rfl (LeB.refl _) hS
  · have e14 : u 262 = (.int .i64 (2 * (m : Int))) := hd.1
    have ho := owns_fresh W (List.replicate (2 * m) 0) B (hSz W hS) (by simp; omega)
    rw [List.length_replicate] at ho
    exact step_value _ rfl (run_make _ (2 * m) (((ein u 262 (by decide) (by omega)).trans e14).trans (congrArg (Value.int .i64) (by omega))) (by omega)) ⟨⟨_, _, _, rfl⟩, ho⟩ (LeB.new _ _) (hSb _ _ hS (rule_new _ _))
  · have e0 : Fact.ok B (.bytes [23]) (u 248) W := hd.1
    obtain ⟨⟨a0, n0, c0, q0⟩, o0⟩ := e0
    rw [q0] at o0
    have e2 : Fact.ok B (.bytes (wd (p : Int))) (u 250) W := hd.2.1
    obtain ⟨⟨a1, n1, c1, q1⟩, o1⟩ := e2
    rw [q1] at o1
    have e4 : Fact.ok B (.bytes (wd (n : Int))) (u 252) W := hd.2.2.1
    obtain ⟨⟨a2, n2, c2, q2⟩, o2⟩ := e4
    rw [q2] at o2
    have e6 : Fact.ok B (.bytes (wd (c : Int))) (u 254) W := hd.2.2.2.1
    obtain ⟨⟨a3, n3, c3, q3⟩, o3⟩ := e6
    rw [q3] at o3
    have e8 : Fact.ok B (.bytes (wd (m : Int))) (u 256) W := hd.2.2.2.2.1
    obtain ⟨⟨a4, n4, c4, q4⟩, o4⟩ := e8
    rw [q4] at o4
    have e12 : Fact.ok B (.bytes [2 * (m : Int)]) (u 260) W := hd.2.2.2.2.2.1
    obtain ⟨⟨a5, n5, c5, q5⟩, o5⟩ := e12
    rw [q5] at o5
    have e15 : Fact.ok B (.bytes (List.replicate (2 * m) 0)) (u 263) W := hd.2.2.2.2.2.2.1
    obtain ⟨⟨a6, n6, c6, q6⟩, o6⟩ := e15
    rw [q6] at o6
    exact step_value _ rfl (run_row7 _ _ _ _ _ _ _ a0 a1 a2 a3 a4 a5 a6 n0 c0 n1 c1 n2 c2 n3 c3 n4 c4 n5 c5 n6 c6 ((ein u 248 (by decide) (by omega)).trans q0) ((ein u 250 (by decide) (by omega)).trans q1) ((ein u 252 (by decide) (by omega)).trans q2) ((ein u 254 (by decide) (by omega)).trans q3) ((ein u 256 (by decide) (by omega)).trans q4) ((ein u 260 (by decide) (by omega)).trans q5) ((ein u 263 (by decide) (by omega)).trans q6)) (Fact.newRow W [.slice a0 n0 c0, .slice a1 n1 c1, .slice a2 n2 c2, .slice a3 n3 c3, .slice a4 n4 c4, .slice a5 n5 c5, .slice a6 n6 c6] [[23], wd (p : Int), wd (n : Int), wd (c : Int), wd (m : Int), [2 * (m : Int)], List.replicate (2 * m) 0] B rfl (fun i hi => by
      match i, hi with
      | 0, _ => exact o0
      | 1, _ => exact o1
      | 2, _ => exact o2
      | 3, _ => exact o3
      | 4, _ => exact o4
      | 5, _ => exact o5
      | 6, _ => exact o6)) (LeB.new _ _) (hSb _ _ hS (rule_new _ _))
  · have e16 : Fact.ok B (.row [[23], wd (p : Int), wd (n : Int), wd (c : Int), wd (m : Int), [2 * (m : Int)], List.replicate (2 * m) 0]) (u 264) W := hd.1
    exact step_join _ _ [[23], wd (p : Int), wd (n : Int), wd (c : Int), wd (m : Int), [2 * (m : Int)], List.replicate (2 * m) 0] _ hS (hSz W hS) hSb (by rw [ein u 264 (by decide) (by omega)]; exact e16) (fun i hi => by
      match i, hi with
      | 0, _ => exact (by simp)
      | 1, _ => exact (by simp [wd])
      | 2, _ => exact (by simp [wd])
      | 3, _ => exact (by simp [wd])
      | 4, _ => exact (by simp [wd])
      | 5, _ => exact (by simp)
      | 6, _ => exact hrn) (by simp) (by simp [wd]; omega) hf1 (fun _ _ h => h)
  · have e17 : Fact.ok B (.bytes (23 :: b23 p n c (List.replicate m 0))) (u 265) W := hd.1
    exact step_value _ rfl (run_assign _) (show Fact.ok B (.bytes (23 :: b23 p n c (List.replicate m 0))) _ W by rw [ein u 265 (by decide) (by omega)]; exact e17) (LeB.refl _) hS
end Go.Proofs.YtfekelmldebplaaGreatDoor

namespace Go.Proofs.YtfekelmldebplaaGreatDoor
open Go.RowKit Go.MuLone

theorem LS.get {w W : World} {x : RI} {L : List Int} (h : LS w W x L) (c m : Nat) (h1 : 1 ≤ m) (hm : c + m ≤ 50) :
    Calls Tryz.prog 19 #[.pointer (some ⟨x.rb, 0, none⟩), .int .i64 3, .int .i64 (c : Int), .int .i64 (m : Int)] W fun r w' => ∃ b o cp, r = .returned (.tuple #[.slice (some ⟨b, o, none⟩) m cp, .int .i64 0]) ∧ (∀ i, i < m → w'.cell? ⟨b, o + i, none⟩ = some (.int .i64 (L.getD (c + i) 0))) ∧ LS w w' x L := by
  obtain ⟨t, hB, hL, ho⟩ := h.bk
  refine (relayGet_any x.B x.rb x.sb x.tb x.kb t _ x.us 3 (by omega) (c : Int) (m : Int) W hB (by omega)).mono ?_
  rintro r w' ⟨v, rfl, hg, hB', hc⟩
  have hlen := h.len
  have hge : getErr (t.at 3).L.length (c : Int) (m : Int) = 0 := getErr_ok (t.at 3).L.length c m (by rw [hL]; omega)
  rw [hge] at hg ⊢
  obtain ⟨hl, _⟩ := hg.1 rfl
  rw [hL, show ((c : Nat) : Int).toNat = c by omega, show ((m : Nat) : Int).toNat = m by omega] at hl
  have hll : ((L.drop c).take m).length = m := by simp; omega
  obtain ⟨a, cp, e, hh⟩ := hl
  rw [hll] at e hh
  subst e
  rcases hh with hh | ⟨b, o, rfl, _, hcell⟩
  · have := congrArg List.length hh
    rw [hll] at this
    simp at this
    omega
  · refine ⟨b, o, cp, rfl, fun i hi => ?_, h.turn hB (hc.mono (fun _ _ e => .inl e)) hB' hL h.len h.bd ho⟩
    rw [hcell i hi]
    congr 2
    simp only [List.getD_eq_getElem?_getD, List.getElem?_take, List.getElem?_drop]
    rw [if_pos hi]

theorem eval_put (a : Act) (k j : Nat) (v : Value) (hk : k < a.tmps.size) : (a.put (some k) v).eval (.tmp j) = if j = k then v else a.eval (.tmp j) := by
  by_cases e : j = k
  · subst e
    simp [Act.eval, Act.put, hk]
  · have e' : k ≠ j := fun h => e h.symm
    simp [Act.eval, Act.put, e, Array.getElem?_setIfInBounds_ne e']
theorem put_size (a : Act) (k : Nat) (v : Value) : (a.put (some k) v).tmps.size = a.tmps.size := by simp [Act.put]
theorem wpList_value {P : Program} {ops : Array Oper} {Q : Exit → Act → World → Prop} {rest : List Oper} {o : Oper} {a : Act} {w w' : World} {v : Value} (hg : o.guard = none) (hr : (execOp a.eval o).run P w = .ok (.value v) w') (h : wpList P ops Q rest (a.put o.dst v) w') : wpList P ops Q (o :: rest) a w :=
  wpList_plain hg fun _ hK => wp_value hr (hK _ _ h)

set_option maxRecDepth 10000 in
theorem ruled_r32 (a : Act) (Q : Exit → Act → World → Prop) (w : World) (id : Nat) (p : String) (af1 af2 af3 af4 : Array Edge) (B : Nat) (v : Value) (k : Nat) (hsz : 225 ≤ a.tmps.size) (h37 : a.eval (.tmp 37) = v) (hO : Owns w B v (List.replicate k 1)) (hB : B ≤ w.heap.size) (hk : k ≤ 1000)
    (hend : ∀ v' w', Owns w' B v' (List.replicate (k + 1) 1) → (∀ w0 : World, B = w0.heap.size → Below w0.heap.size w0 w → Below w0.heap.size w0 w') → Q .normal ((((a.put (some 222) v).put (some 223) (.slice (some ⟨w.heap.size, 0, none⟩) 1 1)).put (some 224) v').put (some 37) v') w') :
    (Code.region id ([{ dst := some 222, op := .move (.tmp 37), type := 37, pos := p, after := af1, guard := none }, { dst := some 223, op := .buildSlice 37 1 #[(0, .const (.int .u8 1))], type := 37, pos := p, after := af2, guard := none }, { dst := some 224, op := .call { callee := .builtin .append, args := #[.tmp 222, .tmp 223], argTypes := #[37, 37] }, type := 37, pos := p, after := af3, guard := none }, { dst := some 37, op := .assign (.tmp 224), type := 37, pos := p, after := af4, guard := none }] : List Oper).toArray false).wp Tryz.prog Q a w := by
  obtain ⟨i0, hi, hz0, hz1, hz2⟩ := info_parts info5
  refine wp_region_lit (wpList_value rfl (run_move _) (wpList_value rfl (run_bytes1 _ 1 (by simp [Act.eval])) ?_))
  rw [h37]
  have s1 : (a.put (some 222) v).tmps.size = a.tmps.size := put_size _ _ _
  have e1 : ((a.put (some 222) v).put (some 223) (.slice (some ⟨w.heap.size, 0, none⟩) 1 1)).eval (.tmp 222) = v := by
    rw [eval_put _ _ _ _ (by omega), if_neg (by decide), eval_put _ _ _ _ (by omega), if_pos rfl]
  have e2 : ((a.put (some 222) v).put (some 223) (.slice (some ⟨w.heap.size, 0, none⟩) 1 1)).eval (.tmp 223) = .slice (some ⟨w.heap.size, 0, none⟩) 1 1 := by
    rw [eval_put _ _ _ _ (by omega), if_pos rfl]
  have hO2 : w.ownsRow B 5 1 v k ((List.replicate k 1).map (Value.int .u8)) := by
    have := hO
    unfold Owns at this
    rw [List.length_replicate] at this
    exact this
  refine append_keep _ rfl (.tmp 222) (.tmp 223) 37 rfl B 5 i0 (.int .u8 0) 1 1 Tryz.underlying37 hi hz0 hz1 hz2 rfl (by decide) v k _ e1 (World.ownsRow.alloc hO2 _) ⟨w.heap.size, 0, none⟩ 1 1 [.int .u8 1] e2 rfl (cellsL _ #[.int .u8 1] 5) (by simp [Value.oneCell']) (by decide) (by unfold maxLen; omega) (by omega) (by simp; omega) ?_
  intro v' w' r k2
  refine wpList_value rfl (run_assign _) (wpList_nil ?_)
  have e3 : (((a.put (some 222) v).put (some 223) (.slice (some ⟨w.heap.size, 0, none⟩) 1 1)).put (some 224) v').eval (.tmp 224) = v' := by
    rw [eval_put _ _ _ _ (by rw [put_size]; omega), if_pos rfl]
  show Q .normal (Act.put _ (some 37) (Act.eval (((a.put (some 222) v).put (some 223) (.slice (some ⟨w.heap.size, 0, none⟩) 1 1)).put (some 224) v') (.tmp 224))) w'
  rw [e3]
  refine hend v' w' ?_ ?_
  · unfold Owns
    rw [List.length_replicate]
    have e : (List.replicate (k + 1) (1 : Int)).map (Value.int .u8) = (List.replicate k (1 : Int)).map (Value.int .u8) ++ [.int .u8 1] := by
      rw [List.replicate_succ', List.map_append]
      rfl
    rw [e]
    exact r
  · intro w0 hw0 hb0
    subst hw0
    exact below_kept (bl_trans hb0 (rule_new _ _)) (fun j e => (World.ownsRow.lt hO2 j e).1) k2

/-! ### What each request is told -/
theorem zeros_bd : ∀ y ∈ List.replicate 50 (0 : Int), 0 ≤ y ∧ y ≤ 65535 := fun y hy => by have := List.eq_of_mem_replicate hy; omega
theorem span_zeros (a n : Nat) (h : a + n ≤ 50) : spanL (List.replicate 50 (0 : Int)) a n = List.replicate n 0 := by
  unfold spanL
  rw [List.drop_replicate, List.take_replicate]
  congr 1
  omega
theorem rep_read (a n : Nat) (b : Bool) (h : a + n ≤ 50) : repR (List.replicate 50 0) (readQ 3 a n) 3 b = (if b then 3 :: 2 * (n : Int) :: List.replicate (2 * n) 0 else excB 3 4) ∧ nxtR (List.replicate 50 0) (readQ 3 a n) b = List.replicate 50 0 := by
  unfold repR nxtR
  rw [carry_read, told_read, show (readQ 3 a n).ra = a from rfl, show (readQ 3 a n).rc = n from rfl, span_zeros a n h, words_rep, List.length_replicate, show ((2 * n : Nat) : Int) = 2 * (n : Int) by omega]
  refine ⟨rfl, ?_⟩
  cases b <;> rfl
theorem rep_echo (L : List Int) (q : Req) (f : Int) (b : Bool) (he : q.echo ≠ []) (hf : q.f = f) : repR L q f b = if b then f :: q.echo else excB f 4 := by
  unfold repR
  rw [echo_told _ _ he, hf]
theorem exc_bys (f : Int) (hf : 0 ≤ f ∧ f < 256) : Bys (excB f 4) := excB_bys f 4 hf (by omega)
theorem bys_if (b : Bool) (xs ys : List Int) (h1 : Bys xs) (h2 : Bys ys) : Bys (if b then xs else ys) := by
  cases b
  · exact h2
  · exact h1
theorem rep_bys (n : Nat) (y : Int) (hy : 0 ≤ y ∧ y < 256) : Bys (List.replicate n y) := fun x hx => by
  rw [List.eq_of_mem_replicate hx]
  exact hy
theorem words_257 (m : Nat) : wordsL (List.replicate m 257) = List.replicate (2 * m) 1 := by
  induction m with
  | zero => rfl
  | succ m ih =>
    rw [List.replicate_succ, show 2 * (m + 1) = 2 * m + 1 + 1 by omega, List.replicate_succ, List.replicate_succ, ← ih]
    rfl
theorem set_at (L xs : List Int) (c i : Nat) (h : c + xs.length ≤ L.length) (hi : i < xs.length) : (setL L c xs).getD (c + i) 0 = xs.getD i 0 := by
  rw [setL_get _ _ _ h, if_pos (by omega), show c + i - c = i by omega]
end Go.Proofs.YtfekelmldebplaaGreatDoor

namespace Go.Proofs.YtfekelmldebplaaGreatDoor
open Go.RowKit Go.MuLone

theorem wanted_g {l : List Oper} {o oj : Oper} {a : Act} {ds : List (Option Nat)} {u : Nat → Value} {want : Bool} (j d : Nat) (b : Bool) (hg : o.guard = some (j, want)) (hj : l[j]? = some oj) (hjd : oj.dst = some d) (hm : some d ∈ ds) (hs : d < a.tmps.size) (hu : u d = .bool b) : Region.wanted o (yielded l.toArray (over a ds u).tmps) = (b == want) := by
  unfold Region.wanted yielded
  rw [hg]
  have hj' : l.toArray[j]? = some oj := by simpa using hj
  simp only [hj', Option.bind_some, hjd, over_get u d ds a hs, hm, if_true, hu]
  cases b <;> cases want <;> rfl
theorem wanted_tt {l : List Oper} {o oj : Oper} (a : Act) (ds : List (Option Nat)) (u : Nat → Value) (j d : Nat) (hg : o.guard = some (j, true)) (hj : l[j]? = some oj) (hjd : oj.dst = some d) (hm : some d ∈ ds) (hs : d < a.tmps.size) (hu : u d = .bool true) : Region.wanted o (yielded l.toArray (over a ds u).tmps) = true := wanted_g j d true hg hj hjd hm hs hu
theorem wanted_tf {l : List Oper} {o oj : Oper} (a : Act) (ds : List (Option Nat)) (u : Nat → Value) (j d : Nat) (hg : o.guard = some (j, true)) (hj : l[j]? = some oj) (hjd : oj.dst = some d) (hm : some d ∈ ds) (hs : d < a.tmps.size) (hu : u d = .bool false) : Region.wanted o (yielded l.toArray (over a ds u).tmps) = false := wanted_g j d false hg hj hjd hm hs hu
theorem wanted_ff {l : List Oper} {o oj : Oper} (a : Act) (ds : List (Option Nat)) (u : Nat → Value) (j d : Nat) (hg : o.guard = some (j, false)) (hj : l[j]? = some oj) (hjd : oj.dst = some d) (hm : some d ∈ ds) (hs : d < a.tmps.size) (hu : u d = .bool false) : Region.wanted o (yielded l.toArray (over a ds u).tmps) = true := wanted_g j d false hg hj hjd hm hs hu
theorem wanted_ft {l : List Oper} {o oj : Oper} (a : Act) (ds : List (Option Nat)) (u : Nat → Value) (j d : Nat) (hg : o.guard = some (j, false)) (hj : l[j]? = some oj) (hjd : oj.dst = some d) (hm : some d ∈ ds) (hs : d < a.tmps.size) (hu : u d = .bool true) : Region.wanted o (yielded l.toArray (over a ds u).tmps) = false := wanted_g j d true hg hj hjd hm hs hu
section
variable {ev : Operand → Value} {w : World} {dst : Option Tmp} {T : TypeId} {p : String} {af : Array Edge} {g : Option (Nat × Bool)}
theorem run_leq (x y : Operand) (n m : Int) (b : Bool) (hx : ev x = .int .i64 n) (hy : ev y = .int .i64 m) (hb : decide (n ≤ m) = b) : (execOp ev { dst := dst, op := .binOp .leq 3 x y 3, type := T, pos := p, after := af, guard := g }).run Tryz.prog w = .ok (.value (.bool b)) w := by
  simp [go_sem, hx, hy, ← hb]
theorem run_sub1 (x : Operand) (n : Int) (hc : ∀ v, ev (.const v) = v) (hx : ev x = .int .i64 n) (h0 : 0 ≤ n) (h1 : n ≤ 1000000) : (execOp ev { dst := dst, op := .binOp .sub 3 x (.const (.int .i64 1)) 3, type := T, pos := p, after := af, guard := g }).run Tryz.prog w = .ok (.value (.int .i64 (n - 1))) w := by
  have hw : IntKind.i64.wrap (n - 1) = n - 1 := by
    rw [IntKind.wrap_i64]
    omega
  simp [go_sem, hc, hx, hw]
theorem run_pickf (x y : Operand) (b : Bool) (c2 : Bool) (hx : ev x = .bool b) (hy : b = true → ev y = .bool c2) (hc : ev (.const (.bool false)) = .bool false) : (execOp ev { dst := dst, op := .pick x y (.const (.bool false)), type := T, pos := p, after := af, guard := g }).run Tryz.prog w = .ok (.value (.bool (b && c2))) w := by
  cases b
  · simp [go_sem, hx, hc]
  · simp [go_sem, hx, hy rfl]
theorem run_not (x : Operand) (b c : Bool) (hx : ev x = .bool b) (hb : (!b) = c) : (execOp ev { dst := dst, op := .unOp .not 4 x, type := T, pos := p, after := af, guard := g }).run Tryz.prog w = .ok (.value (.bool c)) w := by
  subst hb
  simp [go_sem, hx]
theorem run_lss (x y : Operand) (n m : Int) (b : Bool) (hx : ev x = .int .i64 n) (hy : ev y = .int .i64 m) (hb : decide (n < m) = b) : (execOp ev { dst := dst, op := .binOp .lss 3 x y 3, type := T, pos := p, after := af, guard := g }).run Tryz.prog w = .ok (.value (.bool b)) w := by
  simp [go_sem, hx, hy, ← hb]
theorem run_eqI (x y : Operand) (n m : Int) (b : Bool) (hx : ev x = .int .i64 n) (hy : ev y = .int .i64 m) (hb : (n == m) = b) : (execOp ev { dst := dst, op := .binOp .eql 3 x y 3, type := T, pos := p, after := af, guard := g }).run Tryz.prog w = .ok (.value (.bool b)) w := by
  simp [go_sem, hx, hy, hb]
theorem run_neI (x y : Operand) (n m : Int) (b : Bool) (hx : ev x = .int .i64 n) (hy : ev y = .int .i64 m) (hb : (n != m) = b) : (execOp ev { dst := dst, op := .binOp .neq 3 x y 3, type := T, pos := p, after := af, guard := g }).run Tryz.prog w = .ok (.value (.bool b)) w := by
  simp [go_sem, hx, hy, hb]
theorem run_eq8 (x y : Operand) (n m : Int) (b : Bool) (hx : ev x = .int .u8 n) (hy : ev y = .int .u8 m) (hb : (n == m) = b) : (execOp ev { dst := dst, op := .binOp .eql 5 x y 5, type := T, pos := p, after := af, guard := g }).run Tryz.prog w = .ok (.value (.bool b)) w := by
  simp [go_sem, hx, hy, hb]
theorem run_neE (x y : Operand) (n m : Int) (b : Bool) (hx : ev x = .int .i64 n) (hy : ev y = .int .i64 m) (hb : (n != m) = b) : (execOp ev { dst := dst, op := .binOp .neq 32 x y 32, type := T, pos := p, after := af, guard := g }).run Tryz.prog w = .ok (.value (.bool b)) w := by
  simp [go_sem, hx, hy, hb]
theorem run_pickt (x y : Operand) (b : Bool) (c2 c3 : Bool) (hx : ev x = .bool b) (hy : b = false → ev y = .bool c2) (hc : ev (.const (.bool true)) = .bool true) (h3 : (b || c2) = c3) : (execOp ev { dst := dst, op := .pick x (.const (.bool true)) y, type := T, pos := p, after := af, guard := g }).run Tryz.prog w = .ok (.value (.bool c3)) w := by
  subst h3
  cases b
  · simp [go_sem, hx, hy rfl]
  · simp [go_sem, hx, hc]
theorem run_pickg (x y : Operand) (b : Bool) (c2 c3 : Bool) (hx : ev x = .bool b) (hy : b = true → ev y = .bool c2) (hc : ev (.const (.bool false)) = .bool false) (h3 : (b && c2) = c3) : (execOp ev { dst := dst, op := .pick x y (.const (.bool false)), type := T, pos := p, after := af, guard := g }).run Tryz.prog w = .ok (.value (.bool c3)) w := by
  subst h3
  exact run_pickf x y b c2 hx hy hc
theorem run_idxB (x y : Operand) (b o n c k : Nat) (hx : ev x = .slice (some ⟨b, o, none⟩) n c) (hy : ev y = .int .i64 (k : Int)) (hk : k < n) : (execOp ev { dst := dst, op := .indexAddr 37 x y, type := T, pos := p, after := af, guard := g }).run Tryz.prog w = .ok (.value (.pointer (some ⟨b, o + k, none⟩))) w := by
  have h1 : (k : Int) < (n : Int) := by omega
  simp [go_sem, hx, hy, h1]
theorem run_idxI (x y : Operand) (b o n c k : Nat) (hx : ev x = .slice (some ⟨b, o, none⟩) n c) (hy : ev y = .int .i64 (k : Int)) (hk : k < n) : (execOp ev { dst := dst, op := .indexAddr 24 x y, type := T, pos := p, after := af, guard := g }).run Tryz.prog w = .ok (.value (.pointer (some ⟨b, o + k, none⟩))) w := by
  have h1 : (k : Int) < (n : Int) := by omega
  simp [go_sem, hx, hy, h1]
theorem run_loadB (x : Operand) (b k : Nat) (n : Int) (hx : ev x = .pointer (some ⟨b, k, none⟩)) (hc : w.cell? ⟨b, k, none⟩ = some (.int .u8 n)) : (execOp ev { dst := dst, op := .load 5 x, type := T, pos := p, after := af, guard := g }).run Tryz.prog w = .ok (.value (.int .u8 n)) w := by
  simp [go_sem, hx, hc]
theorem run_ext (x : Operand) (u v : Value) (k : Nat) (hx : ev x = .tuple #[u, v]) (hk : k < 2) : (execOp ev { dst := dst, op := .extract x k, type := T, pos := p, after := af, guard := g }).run Tryz.prog w = .ok (.value (if k = 0 then u else v)) w := by
  have h : k = 0 ∨ k = 1 := by omega
  rcases h with rfl | rfl <;> simp [go_sem, hx]
theorem run_bytes4 (x1 x2 x3 x4 : Operand) (f1 f2 f3 f4 : Int) (h1 : ev x1 = .int .u8 f1) (h2 : ev x2 = .int .u8 f2) (h3 : ev x3 = .int .u8 f3) (h4 : ev x4 = .int .u8 f4) : (execOp ev { dst := dst, op := .buildSlice 37 4 #[(0, x1), (1, x2), (2, x3), (3, x4)], type := T, pos := p, after := af, guard := g }).run Tryz.prog w = .ok (.value (.slice (some ⟨w.heap.size, 0, none⟩) 4 4)) (w.alloc (.cells #[.int .u8 f1, .int .u8 f2, .int .u8 f3, .int .u8 f4] 5)) := by
  simp [go_sem, h1, h2, h3, h4]
theorem run_row5 (x1 x2 x3 x4 x5 : Operand) (a1 a2 a3 a4 a5 : Option Addr) (n1 c1 n2 c2 n3 c3 n4 c4 n5 c5 : Nat) (h1 : ev x1 = .slice a1 n1 c1) (h2 : ev x2 = .slice a2 n2 c2) (h3 : ev x3 = .slice a3 n3 c3) (h4 : ev x4 = .slice a4 n4 c4) (h5 : ev x5 = .slice a5 n5 c5) : (execOp ev { dst := dst, op := .buildSlice 45 5 #[(0, x1), (1, x2), (2, x3), (3, x4), (4, x5)], type := T, pos := p, after := af, guard := g }).run Tryz.prog w = .ok (.value (.slice (some ⟨w.heap.size, 0, none⟩) 5 5)) (w.alloc (.cells #[.slice a1 n1 c1, .slice a2 n2 c2, .slice a3 n3 c3, .slice a4 n4 c4, .slice a5 n5 c5] 37)) := by
  simp [go_sem, h1, h2, h3, h4, h5]
end


/-- What the slots held ahead of an operation they hold behind it. -/
def KeepTo (ds : List (Option Nat)) (R : Nat → Value → World → Prop) (u : Nat → Value) (i : Nat) (w w' : World) : Prop := ∀ j, j < i → R j (valOf u (ds.getD j none)) w → R j (valOf u (ds.getD j none)) w'
theorem KeepTo.refl {ds : List (Option Nat)} {R : Nat → Value → World → Prop} {u : Nat → Value} {i : Nat} {w : World} : KeepTo ds R u i w w := fun _ _ h => h
theorem KeepTo.le {ds : List (Option Nat)} {B : Nat} {fs : List Fact} {u : Nat → Value} {i : Nat} {w w' : World} (h : LeB w w') : KeepTo ds (RF B fs) u i w w' := fun j _ q => RF.keep j _ _ _ q h
/-- An operation that may be guarded does its part, or is passed by. -/
structure DoesG (P : Program) (ops : Array Oper) (o : Oper) (A : Act) (w : World) (run : Bool) (R : Value → World → Prop) (Le : World → World → Prop) (S : World → Prop) (Q : Exit → Act → World → Prop) : Prop where
  want : Region.wanted o (yielded ops A.tmps) = run
  does : run = true → Does P o A w R Le S Q
  skip : run = false → R undef w ∧ S w
def StepAllG (P : Program) (Q : Exit → Act → World → Prop) (a : Act) (ds : List (Option Nat)) (S : Nat → World → Prop) (R : Nat → Value → World → Prop) (ops : List Oper) (runs : List Bool) : Nat → List Oper → Prop
  | _, [] => True
  | i, o :: l => (o.dst = ds.getD i none ∧ (∀ u w, S i w → (∀ j, j < i → R j (valOf u (ds.getD j none)) w) → DoesG P ops.toArray o (over a ds u) w (runs.getD i true) (R i) (KeepTo ds R u i) (S (i + 1)) Q)) ∧ StepAllG P Q a ds S R ops runs (i + 1) l
theorem StepAllG.cons {P : Program} {Q : Exit → Act → World → Prop} {a : Act} {ds : List (Option Nat)} {S : Nat → World → Prop} {R : Nat → Value → World → Prop} {ops : List Oper} {runs : List Bool} {i : Nat} {o : Oper} {l : List Oper} (h2 : o.dst = ds.getD i none)
    (h3 : ∀ u w, S i w → (∀ j, j < i → R j (valOf u (ds.getD j none)) w) → DoesG P ops.toArray o (over a ds u) w (runs.getD i true) (R i) (KeepTo ds R u i) (S (i + 1)) Q) (h : StepAllG P Q a ds S R ops runs (i + 1) l) : StepAllG P Q a ds S R ops runs i (o :: l) := ⟨⟨h2, h3⟩, h⟩
theorem DoesG.plain {P : Program} {ops : Array Oper} {o : Oper} {A : Act} {w : World} {R : Value → World → Prop} {Le : World → World → Prop} {S : World → Prop} {Q : Exit → Act → World → Prop} (hg : o.guard = none) (d : Does P o A w R Le S Q) : DoesG P ops o A w true R Le S Q :=
  ⟨by unfold Region.wanted; rw [hg], fun _ => d, fun h => by cases h⟩
theorem DoesG.run {P : Program} {ops : Array Oper} {o : Oper} {A : Act} {w : World} {R : Value → World → Prop} {Le : World → World → Prop} {S : World → Prop} {Q : Exit → Act → World → Prop} (hw : Region.wanted o (yielded ops A.tmps) = true) (d : Does P o A w R Le S Q) : DoesG P ops o A w true R Le S Q :=
  ⟨hw, fun _ => d, fun h => by cases h⟩
theorem DoesG.pass {P : Program} {ops : Array Oper} {o : Oper} {A : Act} {w : World} {R : Value → World → Prop} {Le : World → World → Prop} {S : World → Prop} {Q : Exit → Act → World → Prop} (hw : Region.wanted o (yielded ops A.tmps) = false) (hR : R undef w) (hS : S w) : DoesG P ops o A w false R Le S Q :=
  ⟨hw, fun h => (by cases h), fun _ => ⟨hR, hS⟩⟩
theorem StepAllG.at {P : Program} {Q : Exit → Act → World → Prop} {a : Act} {ds : List (Option Nat)} {S : Nat → World → Prop} {R : Nat → Value → World → Prop} {ops : List Oper} {runs : List Bool} : ∀ (l : List Oper) (k i : Nat) (o : Oper), StepAllG P Q a ds S R ops runs k l → l[i]? = some o → (o.dst = ds.getD (k + i) none ∧ (∀ u w, S (k + i) w → (∀ j, j < k + i → R j (valOf u (ds.getD j none)) w) → DoesG P ops.toArray o (over a ds u) w (runs.getD (k + i) true) (R (k + i)) (KeepTo ds R u (k + i)) (S (k + i + 1)) Q))
  | [], _, _, _, _, e => by simp at e
  | x :: l, k, 0, o, h, e => by
    simp at e
    subst e
    exact h.1
  | x :: l, k, i + 1, o, h, e => by
    have := StepAllG.at l (k + 1) i o h.2 (by simpa using e)
    rw [show k + 1 + i = k + (i + 1) by omega] at this
    exact this

/-! ### The law of facts, for a region in its text's order -/
theorem wpList_factsG {P : Program} {Q : Exit → Act → World → Prop} {a : Act} {ds : List (Option Nat)} {S : Nat → World → Prop} {R : Nat → Value → World → Prop} {ops : List Oper}
    (nd : ∀ (i j k : Nat), ds[i]? = some (some k) → ds[j]? = some (some k) → i = j) (hlen : ds.length = ops.length)
    (runs : List Bool) (hstep : StepAllG P Q a ds S R ops runs 0 ops)
    (hend : ∀ u w, S ops.length w → (∀ i, i < ops.length → R i (valOf u (ds.getD i none)) w) → Q .normal (over a ds u) w) :
    ∀ (l : List Oper) (i : Nat) (u : Nat → Value) (w : World), ops.drop i = l → i ≤ ops.length → S i w → (∀ j, j < i → R j (valOf u (ds.getD j none)) w) → wpList P ops.toArray Q l (over a ds u) w := by
  intro l
  induction l with
  | nil =>
    intro i u w hd hil hS hf
    have hi : i = ops.length := by
      have := congrArg List.length hd
      simp at this
      omega
    subst hi
    exact wpList_nil (hend u w hS hf)
  | cons o l ih =>
    intro i u w hd hil hS hf
    have hi : i < ops.length := by
      have := congrArg List.length hd
      simp at this
      omega
    have hol : ops[i]? = some o := by
      have := congrArg (·[0]?) hd
      simpa using this
    have hdl : ops.drop (i + 1) = l := by
      have := congrArg List.tail hd
      simpa using this
    obtain ⟨s2, s3⟩ := StepAllG.at ops 0 i o hstep hol
    rw [Nat.zero_add] at s2 s3
    have hdi : ds[i]? = some (ds.getD i none) := by
      have : i < ds.length := by omega
      simp [List.getD, List.getElem?_eq_getElem this]
    have hdm : o.dst = none ∨ o.dst ∈ ds := by
      rw [s2]
      exact .inr (List.mem_of_getElem? hdi)
    have hnext : ∀ v w', R i (wrote o.dst v) w' → KeepTo ds R u i w w' → ∀ j, j < i + 1 → R j (valOf (upd u o.dst v) (ds.getD j none)) w' := by
      intro v w' hR hLe j hj
      by_cases e : j = i
      · subst e
        rw [← s2]
        have hv : valOf (upd u o.dst v) o.dst = wrote o.dst v := by
          cases o.dst with
          | none => rfl
          | some k => simp [valOf, upd, wrote]
        rw [hv]
        exact hR
      · have h1 := hLe j (by omega) (hf j (by omega))
        have hv : valOf (upd u o.dst v) (ds.getD j none) = valOf u (ds.getD j none) := by
          cases hdj : ds.getD j none with
          | none => rfl
          | some k =>
            cases hdi2 : o.dst with
            | none => rfl
            | some k2 =>
              have hne : k ≠ k2 := by
                intro hk
                subst hk
                refine e (nd j i k ?_ ?_)
                · have hjl : j < ds.length := by omega
                  simp [List.getD, List.getElem?_eq_getElem hjl] at hdj
                  rw [List.getElem?_eq_getElem hjl, hdj]
                · rw [hdi, ← s2, hdi2]
              simp [valOf, upd, hne]
        rw [hv]
        exact h1
    refine wpList_step fun K hK => ?_
    have hdo := s3 u w hS hf
    cases hrun : runs.getD i true with
    | true =>
      rw [hrun] at hdo
      rw [if_pos hdo.want]
      refine Oper.wp_mono ?_ (hdo.does rfl).go
      rintro a' w' ⟨v, rfl, hR, hLe, hS'⟩
      rw [over_put a ds u _ v hdm]
      exact hK _ _ (ih (i + 1) _ _ hdl (by omega) hS' (hnext v w' hR hLe))
    | false =>
      rw [hrun] at hdo
      rw [if_neg (by rw [hdo.want]; decide)]
      rw [over_put a ds u _ undef hdm]
      refine hK _ _ (ih (i + 1) _ _ hdl (by omega) (hdo.skip rfl).2 (hnext undef w ?_ KeepTo.refl))
      have e : wrote o.dst undef = undef := by cases o.dst <;> rfl
      rw [e]
      exact (hdo.skip rfl).1
theorem wp_region_factsG {P : Program} {Q : Exit → Act → World → Prop} {a : Act} {w : World} {id : Nat} {ops : List Oper} (ds : List (Option Nat)) (S : Nat → World → Prop) (R : Nat → Value → World → Prop)
    (nd : ndB ds = true) (hlen : ds.length = ops.length) (hS : S 0 w) (runs : List Bool) (hstep : StepAllG P Q a ds S R ops runs 0 ops)
    (hend : ∀ u w, S ops.length w → (∀ i, i < ops.length → R i (valOf u (ds.getD i none)) w) → Q .normal (over a ds u) w) : (Code.region id ops.toArray false).wp P Q a w := by
  have := wpList_factsG (ndB.spec ds nd) hlen runs hstep hend ops 0 (fun k => a.tmps.getD k undef) w rfl (by omega) hS (fun j hj => by omega)
  rw [over_self] at this
  exact wp_region_lit this
/-- One thing up to an operation, another behind it. -/
def S2 (k : Nat) (S0 S1 : World → Prop) (i : Nat) : World → Prop := match Nat.ble i k with | true => S0 | false => S1
/-- Facts, freely chosen. -/
def RL (ps : List (Value → World → Prop)) (i : Nat) (v : Value) (w : World) : Prop := (ps.getD i (fun _ _ => True)) v w
/-- A piece of code behind the first ones. -/
def sndC : Code → Code
  | .seq _ b => b
  | c => c
def fstC : Code → Code
  | .seq a _ => a
  | c => c
def tailC : Nat → Code → Code
  | 0, c => c
  | n + 1, c => tailC n (sndC c)
/-- An 'if' that turns one variable. -/
theorem cond_turn {Q : Exit → Act → World → Prop} {a : Act} {w : World} (c k id : Nat) (T : TypeId) (p : String) (af : Array Edge) (v0 v1 : Value) (b : Bool) (hc : a.eval (.tmp c) = .bool b) (h0 : a.tmps[k]? = some v0)
    (h : ∀ v, v = (if b then v1 else v0) → Q .normal (a.put (some k) v) w) : (Code.cond (.tmp c) (Code.region id ([{ dst := some k, op := .assign (.const v1), type := T, pos := p, after := af, guard := none }] : List Oper).toArray false) Code.skip).wp Tryz.prog Q a w := by
  cases b with
  | true =>
    refine wp_cond_true hc (wp_region_lit (wpList_value rfl (run_assign _) (wpList_nil ?_)))
    have e : a.eval (.const v1) = v1 := by simp [Act.eval]
    rw [e]
    exact h v1 rfl
  | false =>
    refine wp_cond_false hc (wp_skip ?_)
    have := h v0 rfl
    have e : a.put (some k) v0 = a := by
      refine act_ext ?_ rfl
      obtain ⟨hk, he⟩ := Array.getElem?_eq_some_iff.1 h0
      show a.tmps.setIfInBounds k v0 = a.tmps
      apply Array.ext_getElem?
      intro j
      by_cases e : k = j
      · subst e
        rw [Array.getElem?_setIfInBounds_self, if_pos hk, h0]
      · rw [Array.getElem?_setIfInBounds_ne e]
    rw [e] at this
    exact this
end Go.Proofs.YtfekelmldebplaaGreatDoor

namespace Go.Proofs.YtfekelmldebplaaGreatDoor
open Go.RowKit Go.MuLone

def opsR13 : List Oper := [
  { dst := some 94, op := Op.fieldAddr 52 (Operand.tmp 17) 1, type := 0, pos := "turns.go:72", after := #[], guard := none },
  { dst := some 95, op := Op.load 3 (Operand.tmp 94), type := 3, pos := "turns.go:72", after := #[{ on := 0, ground := Ground.data }], guard := none },
  { dst := some 96, op := Op.move (Operand.tmp 22), type := 3, pos := "turns.go:72", after := #[], guard := none },
  { dst := some 97, op := Op.binOp BinOp.leq 3 (Operand.tmp 95) (Operand.tmp 96) 3, type := 4, pos := "turns.go:72", after := #[{ on := 1, ground := Ground.data }, { on := 2, ground := Ground.data }], guard := none },
  { dst := some 98, op := Op.move (Operand.tmp 97), type := 4, pos := "turns.go:72", after := #[{ on := 3, ground := Ground.data }], guard := none },
  { dst := some 99, op := Op.move (Operand.tmp 22), type := 3, pos := "turns.go:72", after := #[{ on := 4, ground := Ground.guard }], guard := some (4, true) },
  { dst := some 100, op := Op.move (Operand.tmp 23), type := 3, pos := "turns.go:72", after := #[{ on := 4, ground := Ground.guard }], guard := some (4, true) },
  { dst := some 101, op := Op.binOp BinOp.add 3 (Operand.tmp 99) (Operand.tmp 100) 3, type := 3, pos := "turns.go:72", after := #[{ on := 5, ground := Ground.data }, { on := 6, ground := Ground.data }, { on := 4, ground := Ground.guard }], guard := some (4, true) },
  { dst := some 102, op := Op.binOp BinOp.sub 3 (Operand.tmp 101) (Operand.const (Value.int IntKind.i64 1)) 3, type := 3, pos := "turns.go:72", after := #[{ on := 7, ground := Ground.data }, { on := 4, ground := Ground.guard }], guard := some (4, true) },
  { dst := some 103, op := Op.fieldAddr 52 (Operand.tmp 17) 2, type := 0, pos := "turns.go:72", after := #[{ on := 4, ground := Ground.guard }], guard := some (4, true) },
  { dst := some 104, op := Op.load 3 (Operand.tmp 103), type := 3, pos := "turns.go:72", after := #[{ on := 9, ground := Ground.data }, { on := 4, ground := Ground.guard }], guard := some (4, true) },
  { dst := some 105, op := Op.binOp BinOp.leq 3 (Operand.tmp 102) (Operand.tmp 104) 3, type := 4, pos := "turns.go:72", after := #[{ on := 8, ground := Ground.data }, { on := 10, ground := Ground.data }, { on := 4, ground := Ground.guard }], guard := some (4, true) },
  { dst := some 106, op := Op.pick (Operand.tmp 98) (Operand.tmp 105) (Operand.const (Value.bool false)), type := 4, pos := "turns.go:72", after := #[{ on := 4, ground := Ground.data }, { on := 11, ground := Ground.data }], guard := none },
  { dst := some 26, op := Op.assign (Operand.tmp 106), type := 4, pos := "turns.go:72", after := #[{ on := 12, ground := Ground.data }, { on := 4, ground := Ground.chain }, { on := 0, ground := Ground.phase }, { on := 1, ground := Ground.phase }, { on := 2, ground := Ground.phase }, { on := 3, ground := Ground.phase }, { on := 4, ground := Ground.phase }, { on := 5, ground := Ground.phase }, { on := 6, ground := Ground.phase }, { on := 7, ground := Ground.phase }, { on := 8, ground := Ground.phase }, { on := 9, ground := Ground.phase }, { on := 10, ground := Ground.phase }, { on := 11, ground := Ground.phase }, { on := 12, ground := Ground.phase }], guard := none }]
def dsR13 : List (Option Nat) := [some 94, some 95, some 96, some 97, some 98, some 99, some 100, some 101, some 102, some 103, some 104, some 105, some 106, some 26]
set_option maxRecDepth 10000 in
set_option maxHeartbeats 1000000 in
theorem ruled_r13 (a : Act) (Q : Exit → Act → World → Prop) (w : World) (id : Nat) (b17 lo hi p n : Nat) (d1 d2 : Bool) (hsz : 360 ≤ a.tmps.size)
    (hp : p ≤ 100) (hn1 : 1 ≤ n) (hn : n ≤ 100) (h17 : a.eval (.tmp 17) = .pointer (some ⟨b17, 0, none⟩)) (h22 : a.eval (.tmp 22) = .int .i64 (p : Int)) (h23 : a.eval (.tmp 23) = .int .i64 (n : Int)) (c1 : w.cell? ⟨b17, 1, none⟩ = some (.int .i64 (lo : Int))) (c2 : w.cell? ⟨b17, 2, none⟩ = some (.int .i64 (hi : Int))) (q1 : decide ((lo : Int) ≤ (p : Int)) = d1) (q2 : decide ((p : Int) + (n : Int) - 1 ≤ (hi : Int)) = d2)
    
    (hend : ∀ u, u 26 = .bool (d1 && d2) → Q .normal (over a dsR13 u) w) : (Code.region id opsR13.toArray false).wp Tryz.prog Q a w := by
  have ein : ∀ u k, some k ∈ dsR13 → k < 360 → (over a dsR13 u).eval (.tmp k) = u k := fun u k h1 h2 => eval_in a dsR13 u k h1 (by omega)
  have eout : ∀ u k, some k ∉ dsR13 → k < 360 → (over a dsR13 u).eval (.tmp k) = a.eval (.tmp k) := fun u k h1 h2 => eval_out a dsR13 u k h1 (by omega)
  have hB0 : ∃ B : Nat, B = 0 := ⟨0, rfl⟩
  obtain ⟨B, hB0⟩ := hB0
  cases d1 with
  | true =>
    refine wp_region_factsG dsR13 (fun _ W => W = w) (RF B [.val (.pointer (some ⟨b17, 1, none⟩)), .val (.int .i64 (lo : Int)), .val (.int .i64 (p : Int)), .val (.bool true), .val (.bool true), .val (.int .i64 (p : Int)), .val (.int .i64 (n : Int)), .val (.int .i64 ((p : Int) + (n : Int))), .val (.int .i64 ((p : Int) + (n : Int) - 1)), .val (.pointer (some ⟨b17, 2, none⟩)), .val (.int .i64 (hi : Int)), .val (.bool d2), .val (.bool d2), .val (.bool d2)]) (by decide) rfl rfl [true, true, true, true, true, true, true, true, true, true, true, true, true, true] ?_ (fun u W hS hR => by subst hS; exact hend u (hR 13 (by decide)))
    unfold opsR13
    refine StepAllG.cons rfl (fun u W hS hd => ?_) (StepAllG.cons rfl (fun u W hS hd => ?_) (StepAllG.cons rfl (fun u W hS hd => ?_) (StepAllG.cons rfl (fun u W hS hd => ?_) (StepAllG.cons rfl (fun u W hS hd => ?_) (StepAllG.cons rfl (fun u W hS hd => ?_) (StepAllG.cons rfl (fun u W hS hd => ?_) (StepAllG.cons rfl (fun u W hS hd => ?_) (StepAllG.cons rfl (fun u W hS hd => ?_) (StepAllG.cons rfl (fun u W hS hd => ?_) (StepAllG.cons rfl (fun u W hS hd => ?_) (StepAllG.cons rfl (fun u W hS hd => ?_) (StepAllG.cons rfl (fun u W hS hd => ?_) (StepAllG.cons rfl (fun u W hS hd => ?_) (trivial))))))))))))))
    · refine DoesG.plain rfl ?_
      exact step_value _ rfl (run_field _ b17 1 (.inl rfl) ((eout u 17 (by decide) (by omega)).trans h17)) rfl KeepTo.refl hS
    · refine DoesG.plain rfl ?_
      have e0 : u 94 = (.pointer (some ⟨b17, 1, none⟩)) := hd 0 (by decide)
      exact step_value _ rfl (run_loadI _ b17 1 (lo : Int) ((ein u 94 (by decide) (by omega)).trans e0) (by rw [hS]; exact c1)) rfl KeepTo.refl hS
    · refine DoesG.plain rfl ?_
      exact step_value _ rfl (run_move _) ((eout u 22 (by decide) (by omega)).trans h22) KeepTo.refl hS
    · refine DoesG.plain rfl ?_
      have e1 : u 95 = (.int .i64 (lo : Int)) := hd 1 (by decide)
      have e2 : u 96 = (.int .i64 (p : Int)) := hd 2 (by decide)
      exact step_value _ rfl (run_leq _ _ (lo : Int) (p : Int) true ((ein u 95 (by decide) (by omega)).trans e1) ((ein u 96 (by decide) (by omega)).trans e2) q1) rfl KeepTo.refl hS
    · refine DoesG.plain rfl ?_
      have e3 : u 97 = (.bool true) := hd 3 (by decide)
      exact step_value _ rfl (run_move _) ((ein u 97 (by decide) (by omega)).trans e3) KeepTo.refl hS
    · have e4 : u 98 = (.bool true) := hd 4 (by decide)
      refine DoesG.run (wanted_tt a dsR13 u 4 98 rfl rfl rfl (by decide) (by omega) e4) ?_
      exact step_value _ rfl (run_move _) ((eout u 22 (by decide) (by omega)).trans h22) KeepTo.refl hS
    · have e4 : u 98 = (.bool true) := hd 4 (by decide)
      refine DoesG.run (wanted_tt a dsR13 u 4 98 rfl rfl rfl (by decide) (by omega) e4) ?_
      exact step_value _ rfl (run_move _) ((eout u 23 (by decide) (by omega)).trans h23) KeepTo.refl hS
    · have e4 : u 98 = (.bool true) := hd 4 (by decide)
      refine DoesG.run (wanted_tt a dsR13 u 4 98 rfl rfl rfl (by decide) (by omega) e4) ?_
      have e5 : u 99 = (.int .i64 (p : Int)) := hd 5 (by decide)
      have e6 : u 100 = (.int .i64 (n : Int)) := hd 6 (by decide)
      exact step_value _ rfl (run_add _ _ (p : Int) (n : Int) ((ein u 99 (by decide) (by omega)).trans e5) ((ein u 100 (by decide) (by omega)).trans e6) (by omega) (by omega) (by omega) (by omega)) rfl KeepTo.refl hS
    · have e4 : u 98 = (.bool true) := hd 4 (by decide)
      refine DoesG.run (wanted_tt a dsR13 u 4 98 rfl rfl rfl (by decide) (by omega) e4) ?_
      have e7 : u 101 = (.int .i64 ((p : Int) + (n : Int))) := hd 7 (by decide)
      exact step_value _ rfl (run_sub1 _ ((p : Int) + (n : Int)) (fun _ => by simp [Act.eval]) ((ein u 101 (by decide) (by omega)).trans e7) (by omega) (by omega)) rfl KeepTo.refl hS
    · have e4 : u 98 = (.bool true) := hd 4 (by decide)
      refine DoesG.run (wanted_tt a dsR13 u 4 98 rfl rfl rfl (by decide) (by omega) e4) ?_
      exact step_value _ rfl (run_field _ b17 2 (.inr rfl) ((eout u 17 (by decide) (by omega)).trans h17)) rfl KeepTo.refl hS
    · have e4 : u 98 = (.bool true) := hd 4 (by decide)
      refine DoesG.run (wanted_tt a dsR13 u 4 98 rfl rfl rfl (by decide) (by omega) e4) ?_
      have e9 : u 103 = (.pointer (some ⟨b17, 2, none⟩)) := hd 9 (by decide)
      exact step_value _ rfl (run_loadI _ b17 2 (hi : Int) ((ein u 103 (by decide) (by omega)).trans e9) (by rw [hS]; exact c2)) rfl KeepTo.refl hS
    · have e4 : u 98 = (.bool true) := hd 4 (by decide)
      refine DoesG.run (wanted_tt a dsR13 u 4 98 rfl rfl rfl (by decide) (by omega) e4) ?_
      have e8 : u 102 = (.int .i64 ((p : Int) + (n : Int) - 1)) := hd 8 (by decide)
      have e10 : u 104 = (.int .i64 (hi : Int)) := hd 10 (by decide)
      exact step_value _ rfl (run_leq _ _ ((p : Int) + (n : Int) - 1) (hi : Int) d2 ((ein u 102 (by decide) (by omega)).trans e8) ((ein u 104 (by decide) (by omega)).trans e10) q2) rfl KeepTo.refl hS
    · refine DoesG.plain rfl ?_
      have e4 : u 98 = (.bool true) := hd 4 (by decide)
      have e11 : u 105 = (.bool d2) := hd 11 (by decide)
      exact step_value _ rfl (run_pickg _ _ true (d2) (d2) ((ein u 98 (by decide) (by omega)).trans e4) (fun _ => ((ein u 105 (by decide) (by omega)).trans e11)) rfl (Bool.true_and _)) rfl KeepTo.refl hS
    · refine DoesG.plain rfl ?_
      have e12 : u 106 = (.bool d2) := hd 12 (by decide)
      exact step_value _ rfl (run_assign _) ((ein u 106 (by decide) (by omega)).trans e12) KeepTo.refl hS
  | false =>
    refine wp_region_factsG dsR13 (fun _ W => W = w) (RF B [.val (.pointer (some ⟨b17, 1, none⟩)), .val (.int .i64 (lo : Int)), .val (.int .i64 (p : Int)), .val (.bool false), .val (.bool false), .any, .any, .any, .any, .any, .any, .any, .val (.bool false), .val (.bool false)]) (by decide) rfl rfl [true, true, true, true, true, false, false, false, false, false, false, false, true, true] ?_ (fun u W hS hR => by subst hS; exact hend u (hR 13 (by decide)))
    unfold opsR13
    refine StepAllG.cons rfl (fun u W hS hd => ?_) (StepAllG.cons rfl (fun u W hS hd => ?_) (StepAllG.cons rfl (fun u W hS hd => ?_) (StepAllG.cons rfl (fun u W hS hd => ?_) (StepAllG.cons rfl (fun u W hS hd => ?_) (StepAllG.cons rfl (fun u W hS hd => ?_) (StepAllG.cons rfl (fun u W hS hd => ?_) (StepAllG.cons rfl (fun u W hS hd => ?_) (StepAllG.cons rfl (fun u W hS hd => ?_) (StepAllG.cons rfl (fun u W hS hd => ?_) (StepAllG.cons rfl (fun u W hS hd => ?_) (StepAllG.cons rfl (fun u W hS hd => ?_) (StepAllG.cons rfl (fun u W hS hd => ?_) (StepAllG.cons rfl (fun u W hS hd => ?_) (trivial))))))))))))))
    · refine DoesG.plain rfl ?_
      exact step_value _ rfl (run_field _ b17 1 (.inl rfl) ((eout u 17 (by decide) (by omega)).trans h17)) rfl KeepTo.refl hS
    · refine DoesG.plain rfl ?_
      have e0 : u 94 = (.pointer (some ⟨b17, 1, none⟩)) := hd 0 (by decide)
      exact step_value _ rfl (run_loadI _ b17 1 (lo : Int) ((ein u 94 (by decide) (by omega)).trans e0) (by rw [hS]; exact c1)) rfl KeepTo.refl hS
    · refine DoesG.plain rfl ?_
      exact step_value _ rfl (run_move _) ((eout u 22 (by decide) (by omega)).trans h22) KeepTo.refl hS
    · refine DoesG.plain rfl ?_
      have e1 : u 95 = (.int .i64 (lo : Int)) := hd 1 (by decide)
      have e2 : u 96 = (.int .i64 (p : Int)) := hd 2 (by decide)
      exact step_value _ rfl (run_leq _ _ (lo : Int) (p : Int) false ((ein u 95 (by decide) (by omega)).trans e1) ((ein u 96 (by decide) (by omega)).trans e2) q1) rfl KeepTo.refl hS
    · refine DoesG.plain rfl ?_
      have e3 : u 97 = (.bool false) := hd 3 (by decide)
      exact step_value _ rfl (run_move _) ((ein u 97 (by decide) (by omega)).trans e3) KeepTo.refl hS
    · have e4 : u 98 = (.bool false) := hd 4 (by decide)
      exact DoesG.pass (wanted_tf a dsR13 u 4 98 rfl rfl rfl (by decide) (by omega) e4) trivial hS
    · have e4 : u 98 = (.bool false) := hd 4 (by decide)
      exact DoesG.pass (wanted_tf a dsR13 u 4 98 rfl rfl rfl (by decide) (by omega) e4) trivial hS
    · have e4 : u 98 = (.bool false) := hd 4 (by decide)
      exact DoesG.pass (wanted_tf a dsR13 u 4 98 rfl rfl rfl (by decide) (by omega) e4) trivial hS
    · have e4 : u 98 = (.bool false) := hd 4 (by decide)
      exact DoesG.pass (wanted_tf a dsR13 u 4 98 rfl rfl rfl (by decide) (by omega) e4) trivial hS
    · have e4 : u 98 = (.bool false) := hd 4 (by decide)
      exact DoesG.pass (wanted_tf a dsR13 u 4 98 rfl rfl rfl (by decide) (by omega) e4) trivial hS
    · have e4 : u 98 = (.bool false) := hd 4 (by decide)
      exact DoesG.pass (wanted_tf a dsR13 u 4 98 rfl rfl rfl (by decide) (by omega) e4) trivial hS
    · have e4 : u 98 = (.bool false) := hd 4 (by decide)
      exact DoesG.pass (wanted_tf a dsR13 u 4 98 rfl rfl rfl (by decide) (by omega) e4) trivial hS
    · refine DoesG.plain rfl ?_
      have e4 : u 98 = (.bool false) := hd 4 (by decide)
      exact step_value _ rfl (run_pickg _ _ false false false ((ein u 98 (by decide) (by omega)).trans e4) (fun h => by cases h) rfl rfl) rfl KeepTo.refl hS
    · refine DoesG.plain rfl ?_
      have e12 : u 106 = (.bool false) := hd 12 (by decide)
      exact step_value _ rfl (run_assign _) ((ein u 106 (by decide) (by omega)).trans e12) KeepTo.refl hS

def opsR14 : List Oper := [
  { dst := some 107, op := Op.fieldAddr 52 (Operand.tmp 18) 1, type := 0, pos := "turns.go:73", after := #[], guard := none },
  { dst := some 108, op := Op.load 3 (Operand.tmp 107), type := 3, pos := "turns.go:73", after := #[{ on := 0, ground := Ground.data }], guard := none },
  { dst := some 109, op := Op.move (Operand.tmp 24), type := 3, pos := "turns.go:73", after := #[], guard := none },
  { dst := some 110, op := Op.binOp BinOp.leq 3 (Operand.tmp 108) (Operand.tmp 109) 3, type := 4, pos := "turns.go:73", after := #[{ on := 1, ground := Ground.data }, { on := 2, ground := Ground.data }], guard := none },
  { dst := some 111, op := Op.move (Operand.tmp 110), type := 4, pos := "turns.go:73", after := #[{ on := 3, ground := Ground.data }], guard := none },
  { dst := some 112, op := Op.move (Operand.tmp 24), type := 3, pos := "turns.go:73", after := #[{ on := 4, ground := Ground.guard }], guard := some (4, true) },
  { dst := some 113, op := Op.move (Operand.tmp 25), type := 3, pos := "turns.go:73", after := #[{ on := 4, ground := Ground.guard }], guard := some (4, true) },
  { dst := some 114, op := Op.binOp BinOp.add 3 (Operand.tmp 112) (Operand.tmp 113) 3, type := 3, pos := "turns.go:73", after := #[{ on := 5, ground := Ground.data }, { on := 6, ground := Ground.data }, { on := 4, ground := Ground.guard }], guard := some (4, true) },
  { dst := some 115, op := Op.binOp BinOp.sub 3 (Operand.tmp 114) (Operand.const (Value.int IntKind.i64 1)) 3, type := 3, pos := "turns.go:73", after := #[{ on := 7, ground := Ground.data }, { on := 4, ground := Ground.guard }], guard := some (4, true) },
  { dst := some 116, op := Op.fieldAddr 52 (Operand.tmp 18) 2, type := 0, pos := "turns.go:73", after := #[{ on := 4, ground := Ground.guard }], guard := some (4, true) },
  { dst := some 117, op := Op.load 3 (Operand.tmp 116), type := 3, pos := "turns.go:73", after := #[{ on := 9, ground := Ground.data }, { on := 4, ground := Ground.guard }], guard := some (4, true) },
  { dst := some 118, op := Op.binOp BinOp.leq 3 (Operand.tmp 115) (Operand.tmp 117) 3, type := 4, pos := "turns.go:73", after := #[{ on := 8, ground := Ground.data }, { on := 10, ground := Ground.data }, { on := 4, ground := Ground.guard }], guard := some (4, true) },
  { dst := some 119, op := Op.pick (Operand.tmp 111) (Operand.tmp 118) (Operand.const (Value.bool false)), type := 4, pos := "turns.go:73", after := #[{ on := 4, ground := Ground.data }, { on := 11, ground := Ground.data }], guard := none },
  { dst := some 27, op := Op.assign (Operand.tmp 119), type := 4, pos := "turns.go:73", after := #[{ on := 12, ground := Ground.data }, { on := 4, ground := Ground.chain }, { on := 0, ground := Ground.phase }, { on := 1, ground := Ground.phase }, { on := 2, ground := Ground.phase }, { on := 3, ground := Ground.phase }, { on := 4, ground := Ground.phase }, { on := 5, ground := Ground.phase }, { on := 6, ground := Ground.phase }, { on := 7, ground := Ground.phase }, { on := 8, ground := Ground.phase }, { on := 9, ground := Ground.phase }, { on := 10, ground := Ground.phase }, { on := 11, ground := Ground.phase }, { on := 12, ground := Ground.phase }], guard := none }]
def dsR14 : List (Option Nat) := [some 107, some 108, some 109, some 110, some 111, some 112, some 113, some 114, some 115, some 116, some 117, some 118, some 119, some 27]
set_option maxRecDepth 10000 in
set_option maxHeartbeats 1000000 in
theorem ruled_r14 (a : Act) (Q : Exit → Act → World → Prop) (w : World) (id : Nat) (b17 lo hi p n : Nat) (d1 d2 : Bool) (hsz : 360 ≤ a.tmps.size)
    (hp : p ≤ 100) (hn1 : 1 ≤ n) (hn : n ≤ 100) (h17 : a.eval (.tmp 18) = .pointer (some ⟨b17, 0, none⟩)) (h22 : a.eval (.tmp 24) = .int .i64 (p : Int)) (h23 : a.eval (.tmp 25) = .int .i64 (n : Int)) (c1 : w.cell? ⟨b17, 1, none⟩ = some (.int .i64 (lo : Int))) (c2 : w.cell? ⟨b17, 2, none⟩ = some (.int .i64 (hi : Int))) (q1 : decide ((lo : Int) ≤ (p : Int)) = d1) (q2 : decide ((p : Int) + (n : Int) - 1 ≤ (hi : Int)) = d2)
    
    (hend : ∀ u, u 27 = .bool (d1 && d2) → Q .normal (over a dsR14 u) w) : (Code.region id opsR14.toArray false).wp Tryz.prog Q a w := by
  have ein : ∀ u k, some k ∈ dsR14 → k < 360 → (over a dsR14 u).eval (.tmp k) = u k := fun u k h1 h2 => eval_in a dsR14 u k h1 (by omega)
  have eout : ∀ u k, some k ∉ dsR14 → k < 360 → (over a dsR14 u).eval (.tmp k) = a.eval (.tmp k) := fun u k h1 h2 => eval_out a dsR14 u k h1 (by omega)
  have hB0 : ∃ B : Nat, B = 0 := ⟨0, rfl⟩
  obtain ⟨B, hB0⟩ := hB0
  cases d1 with
  | true =>
    refine wp_region_factsG dsR14 (fun _ W => W = w) (RF B [.val (.pointer (some ⟨b17, 1, none⟩)), .val (.int .i64 (lo : Int)), .val (.int .i64 (p : Int)), .val (.bool true), .val (.bool true), .val (.int .i64 (p : Int)), .val (.int .i64 (n : Int)), .val (.int .i64 ((p : Int) + (n : Int))), .val (.int .i64 ((p : Int) + (n : Int) - 1)), .val (.pointer (some ⟨b17, 2, none⟩)), .val (.int .i64 (hi : Int)), .val (.bool d2), .val (.bool d2), .val (.bool d2)]) (by decide) rfl rfl [true, true, true, true, true, true, true, true, true, true, true, true, true, true] ?_ (fun u W hS hR => by subst hS; exact hend u (hR 13 (by decide)))
    unfold opsR14
    refine StepAllG.cons rfl (fun u W hS hd => ?_) (StepAllG.cons rfl (fun u W hS hd => ?_) (StepAllG.cons rfl (fun u W hS hd => ?_) (StepAllG.cons rfl (fun u W hS hd => ?_) (StepAllG.cons rfl (fun u W hS hd => ?_) (StepAllG.cons rfl (fun u W hS hd => ?_) (StepAllG.cons rfl (fun u W hS hd => ?_) (StepAllG.cons rfl (fun u W hS hd => ?_) (StepAllG.cons rfl (fun u W hS hd => ?_) (StepAllG.cons rfl (fun u W hS hd => ?_) (StepAllG.cons rfl (fun u W hS hd => ?_) (StepAllG.cons rfl (fun u W hS hd => ?_) (StepAllG.cons rfl (fun u W hS hd => ?_) (StepAllG.cons rfl (fun u W hS hd => ?_) (trivial))))))))))))))
    · refine DoesG.plain rfl ?_
      exact step_value _ rfl (run_field _ b17 1 (.inl rfl) ((eout u 18 (by decide) (by omega)).trans h17)) rfl KeepTo.refl hS
    · refine DoesG.plain rfl ?_
      have e0 : u 107 = (.pointer (some ⟨b17, 1, none⟩)) := hd 0 (by decide)
      exact step_value _ rfl (run_loadI _ b17 1 (lo : Int) ((ein u 107 (by decide) (by omega)).trans e0) (by rw [hS]; exact c1)) rfl KeepTo.refl hS
    · refine DoesG.plain rfl ?_
      exact step_value _ rfl (run_move _) ((eout u 24 (by decide) (by omega)).trans h22) KeepTo.refl hS
    · refine DoesG.plain rfl ?_
      have e1 : u 108 = (.int .i64 (lo : Int)) := hd 1 (by decide)
      have e2 : u 109 = (.int .i64 (p : Int)) := hd 2 (by decide)
      exact step_value _ rfl (run_leq _ _ (lo : Int) (p : Int) true ((ein u 108 (by decide) (by omega)).trans e1) ((ein u 109 (by decide) (by omega)).trans e2) q1) rfl KeepTo.refl hS
    · refine DoesG.plain rfl ?_
      have e3 : u 110 = (.bool true) := hd 3 (by decide)
      exact step_value _ rfl (run_move _) ((ein u 110 (by decide) (by omega)).trans e3) KeepTo.refl hS
    · have e4 : u 111 = (.bool true) := hd 4 (by decide)
      refine DoesG.run (wanted_tt a dsR14 u 4 111 rfl rfl rfl (by decide) (by omega) e4) ?_
      exact step_value _ rfl (run_move _) ((eout u 24 (by decide) (by omega)).trans h22) KeepTo.refl hS
    · have e4 : u 111 = (.bool true) := hd 4 (by decide)
      refine DoesG.run (wanted_tt a dsR14 u 4 111 rfl rfl rfl (by decide) (by omega) e4) ?_
      exact step_value _ rfl (run_move _) ((eout u 25 (by decide) (by omega)).trans h23) KeepTo.refl hS
    · have e4 : u 111 = (.bool true) := hd 4 (by decide)
      refine DoesG.run (wanted_tt a dsR14 u 4 111 rfl rfl rfl (by decide) (by omega) e4) ?_
      have e5 : u 112 = (.int .i64 (p : Int)) := hd 5 (by decide)
      have e6 : u 113 = (.int .i64 (n : Int)) := hd 6 (by decide)
      exact step_value _ rfl (run_add _ _ (p : Int) (n : Int) ((ein u 112 (by decide) (by omega)).trans e5) ((ein u 113 (by decide) (by omega)).trans e6) (by omega) (by omega) (by omega) (by omega)) rfl KeepTo.refl hS
    · have e4 : u 111 = (.bool true) := hd 4 (by decide)
      refine DoesG.run (wanted_tt a dsR14 u 4 111 rfl rfl rfl (by decide) (by omega) e4) ?_
      have e7 : u 114 = (.int .i64 ((p : Int) + (n : Int))) := hd 7 (by decide)
      exact step_value _ rfl (run_sub1 _ ((p : Int) + (n : Int)) (fun _ => by simp [Act.eval]) ((ein u 114 (by decide) (by omega)).trans e7) (by omega) (by omega)) rfl KeepTo.refl hS
    · have e4 : u 111 = (.bool true) := hd 4 (by decide)
      refine DoesG.run (wanted_tt a dsR14 u 4 111 rfl rfl rfl (by decide) (by omega) e4) ?_
      exact step_value _ rfl (run_field _ b17 2 (.inr rfl) ((eout u 18 (by decide) (by omega)).trans h17)) rfl KeepTo.refl hS
    · have e4 : u 111 = (.bool true) := hd 4 (by decide)
      refine DoesG.run (wanted_tt a dsR14 u 4 111 rfl rfl rfl (by decide) (by omega) e4) ?_
      have e9 : u 116 = (.pointer (some ⟨b17, 2, none⟩)) := hd 9 (by decide)
      exact step_value _ rfl (run_loadI _ b17 2 (hi : Int) ((ein u 116 (by decide) (by omega)).trans e9) (by rw [hS]; exact c2)) rfl KeepTo.refl hS
    · have e4 : u 111 = (.bool true) := hd 4 (by decide)
      refine DoesG.run (wanted_tt a dsR14 u 4 111 rfl rfl rfl (by decide) (by omega) e4) ?_
      have e8 : u 115 = (.int .i64 ((p : Int) + (n : Int) - 1)) := hd 8 (by decide)
      have e10 : u 117 = (.int .i64 (hi : Int)) := hd 10 (by decide)
      exact step_value _ rfl (run_leq _ _ ((p : Int) + (n : Int) - 1) (hi : Int) d2 ((ein u 115 (by decide) (by omega)).trans e8) ((ein u 117 (by decide) (by omega)).trans e10) q2) rfl KeepTo.refl hS
    · refine DoesG.plain rfl ?_
      have e4 : u 111 = (.bool true) := hd 4 (by decide)
      have e11 : u 118 = (.bool d2) := hd 11 (by decide)
      exact step_value _ rfl (run_pickg _ _ true (d2) (d2) ((ein u 111 (by decide) (by omega)).trans e4) (fun _ => ((ein u 118 (by decide) (by omega)).trans e11)) rfl (Bool.true_and _)) rfl KeepTo.refl hS
    · refine DoesG.plain rfl ?_
      have e12 : u 119 = (.bool d2) := hd 12 (by decide)
      exact step_value _ rfl (run_assign _) ((ein u 119 (by decide) (by omega)).trans e12) KeepTo.refl hS
  | false =>
    refine wp_region_factsG dsR14 (fun _ W => W = w) (RF B [.val (.pointer (some ⟨b17, 1, none⟩)), .val (.int .i64 (lo : Int)), .val (.int .i64 (p : Int)), .val (.bool false), .val (.bool false), .any, .any, .any, .any, .any, .any, .any, .val (.bool false), .val (.bool false)]) (by decide) rfl rfl [true, true, true, true, true, false, false, false, false, false, false, false, true, true] ?_ (fun u W hS hR => by subst hS; exact hend u (hR 13 (by decide)))
    unfold opsR14
    refine StepAllG.cons rfl (fun u W hS hd => ?_) (StepAllG.cons rfl (fun u W hS hd => ?_) (StepAllG.cons rfl (fun u W hS hd => ?_) (StepAllG.cons rfl (fun u W hS hd => ?_) (StepAllG.cons rfl (fun u W hS hd => ?_) (StepAllG.cons rfl (fun u W hS hd => ?_) (StepAllG.cons rfl (fun u W hS hd => ?_) (StepAllG.cons rfl (fun u W hS hd => ?_) (StepAllG.cons rfl (fun u W hS hd => ?_) (StepAllG.cons rfl (fun u W hS hd => ?_) (StepAllG.cons rfl (fun u W hS hd => ?_) (StepAllG.cons rfl (fun u W hS hd => ?_) (StepAllG.cons rfl (fun u W hS hd => ?_) (StepAllG.cons rfl (fun u W hS hd => ?_) (trivial))))))))))))))
    · refine DoesG.plain rfl ?_
      exact step_value _ rfl (run_field _ b17 1 (.inl rfl) ((eout u 18 (by decide) (by omega)).trans h17)) rfl KeepTo.refl hS
    · refine DoesG.plain rfl ?_
      have e0 : u 107 = (.pointer (some ⟨b17, 1, none⟩)) := hd 0 (by decide)
      exact step_value _ rfl (run_loadI _ b17 1 (lo : Int) ((ein u 107 (by decide) (by omega)).trans e0) (by rw [hS]; exact c1)) rfl KeepTo.refl hS
    · refine DoesG.plain rfl ?_
      exact step_value _ rfl (run_move _) ((eout u 24 (by decide) (by omega)).trans h22) KeepTo.refl hS
    · refine DoesG.plain rfl ?_
      have e1 : u 108 = (.int .i64 (lo : Int)) := hd 1 (by decide)
      have e2 : u 109 = (.int .i64 (p : Int)) := hd 2 (by decide)
      exact step_value _ rfl (run_leq _ _ (lo : Int) (p : Int) false ((ein u 108 (by decide) (by omega)).trans e1) ((ein u 109 (by decide) (by omega)).trans e2) q1) rfl KeepTo.refl hS
    · refine DoesG.plain rfl ?_
      have e3 : u 110 = (.bool false) := hd 3 (by decide)
      exact step_value _ rfl (run_move _) ((ein u 110 (by decide) (by omega)).trans e3) KeepTo.refl hS
    · have e4 : u 111 = (.bool false) := hd 4 (by decide)
      exact DoesG.pass (wanted_tf a dsR14 u 4 111 rfl rfl rfl (by decide) (by omega) e4) trivial hS
    · have e4 : u 111 = (.bool false) := hd 4 (by decide)
      exact DoesG.pass (wanted_tf a dsR14 u 4 111 rfl rfl rfl (by decide) (by omega) e4) trivial hS
    · have e4 : u 111 = (.bool false) := hd 4 (by decide)
      exact DoesG.pass (wanted_tf a dsR14 u 4 111 rfl rfl rfl (by decide) (by omega) e4) trivial hS
    · have e4 : u 111 = (.bool false) := hd 4 (by decide)
      exact DoesG.pass (wanted_tf a dsR14 u 4 111 rfl rfl rfl (by decide) (by omega) e4) trivial hS
    · have e4 : u 111 = (.bool false) := hd 4 (by decide)
      exact DoesG.pass (wanted_tf a dsR14 u 4 111 rfl rfl rfl (by decide) (by omega) e4) trivial hS
    · have e4 : u 111 = (.bool false) := hd 4 (by decide)
      exact DoesG.pass (wanted_tf a dsR14 u 4 111 rfl rfl rfl (by decide) (by omega) e4) trivial hS
    · have e4 : u 111 = (.bool false) := hd 4 (by decide)
      exact DoesG.pass (wanted_tf a dsR14 u 4 111 rfl rfl rfl (by decide) (by omega) e4) trivial hS
    · refine DoesG.plain rfl ?_
      have e4 : u 111 = (.bool false) := hd 4 (by decide)
      exact step_value _ rfl (run_pickg _ _ false false false ((ein u 111 (by decide) (by omega)).trans e4) (fun h => by cases h) rfl rfl) rfl KeepTo.refl hS
    · refine DoesG.plain rfl ?_
      have e12 : u 119 = (.bool false) := hd 12 (by decide)
      exact step_value _ rfl (run_assign _) ((ein u 119 (by decide) (by omega)).trans e12) KeepTo.refl hS

def opsR16 : List Oper := [
  { dst := some 140, op := Op.fieldAddr 52 (Operand.tmp 18) 1, type := 0, pos := "turns.go:75", after := #[], guard := none },
  { dst := some 141, op := Op.load 3 (Operand.tmp 140), type := 3, pos := "turns.go:75", after := #[{ on := 0, ground := Ground.data }], guard := none },
  { dst := some 142, op := Op.move (Operand.tmp 24), type := 3, pos := "turns.go:75", after := #[], guard := none },
  { dst := some 143, op := Op.binOp BinOp.leq 3 (Operand.tmp 141) (Operand.tmp 142) 3, type := 4, pos := "turns.go:75", after := #[{ on := 1, ground := Ground.data }, { on := 2, ground := Ground.data }], guard := none },
  { dst := some 144, op := Op.move (Operand.tmp 143), type := 4, pos := "turns.go:75", after := #[{ on := 3, ground := Ground.data }], guard := none },
  { dst := some 145, op := Op.move (Operand.tmp 24), type := 3, pos := "turns.go:75", after := #[{ on := 4, ground := Ground.guard }], guard := some (4, true) },
  { dst := some 146, op := Op.fieldAddr 52 (Operand.tmp 18) 2, type := 0, pos := "turns.go:75", after := #[{ on := 4, ground := Ground.guard }], guard := some (4, true) },
  { dst := some 147, op := Op.load 3 (Operand.tmp 146), type := 3, pos := "turns.go:75", after := #[{ on := 6, ground := Ground.data }, { on := 4, ground := Ground.guard }], guard := some (4, true) },
  { dst := some 148, op := Op.binOp BinOp.leq 3 (Operand.tmp 145) (Operand.tmp 147) 3, type := 4, pos := "turns.go:75", after := #[{ on := 5, ground := Ground.data }, { on := 7, ground := Ground.data }, { on := 4, ground := Ground.guard }], guard := some (4, true) },
  { dst := some 149, op := Op.pick (Operand.tmp 144) (Operand.tmp 148) (Operand.const (Value.bool false)), type := 4, pos := "turns.go:75", after := #[{ on := 4, ground := Ground.data }, { on := 8, ground := Ground.data }], guard := none },
  { dst := some 29, op := Op.assign (Operand.tmp 149), type := 4, pos := "turns.go:75", after := #[{ on := 9, ground := Ground.data }, { on := 4, ground := Ground.chain }, { on := 0, ground := Ground.phase }, { on := 1, ground := Ground.phase }, { on := 2, ground := Ground.phase }, { on := 3, ground := Ground.phase }, { on := 4, ground := Ground.phase }, { on := 5, ground := Ground.phase }, { on := 6, ground := Ground.phase }, { on := 7, ground := Ground.phase }, { on := 8, ground := Ground.phase }, { on := 9, ground := Ground.phase }], guard := none }]
def dsR16 : List (Option Nat) := [some 140, some 141, some 142, some 143, some 144, some 145, some 146, some 147, some 148, some 149, some 29]
set_option maxRecDepth 10000 in
set_option maxHeartbeats 1000000 in
theorem ruled_r16 (a : Act) (Q : Exit → Act → World → Prop) (w : World) (id : Nat) (b17 lo hi p : Nat) (d1 d2 : Bool) (hsz : 360 ≤ a.tmps.size)
    (h17 : a.eval (.tmp 18) = .pointer (some ⟨b17, 0, none⟩)) (h22 : a.eval (.tmp 24) = .int .i64 (p : Int)) (c1 : w.cell? ⟨b17, 1, none⟩ = some (.int .i64 (lo : Int))) (c2 : w.cell? ⟨b17, 2, none⟩ = some (.int .i64 (hi : Int))) (q1 : decide ((lo : Int) ≤ (p : Int)) = d1) (q2 : decide ((p : Int) ≤ (hi : Int)) = d2)
    
    (hend : ∀ u, u 29 = .bool (d1 && d2) → Q .normal (over a dsR16 u) w) : (Code.region id opsR16.toArray false).wp Tryz.prog Q a w := by
  have ein : ∀ u k, some k ∈ dsR16 → k < 360 → (over a dsR16 u).eval (.tmp k) = u k := fun u k h1 h2 => eval_in a dsR16 u k h1 (by omega)
  have eout : ∀ u k, some k ∉ dsR16 → k < 360 → (over a dsR16 u).eval (.tmp k) = a.eval (.tmp k) := fun u k h1 h2 => eval_out a dsR16 u k h1 (by omega)
  have hB0 : ∃ B : Nat, B = 0 := ⟨0, rfl⟩
  obtain ⟨B, hB0⟩ := hB0
  cases d1 with
  | true =>
    refine wp_region_factsG dsR16 (fun _ W => W = w) (RF B [.val (.pointer (some ⟨b17, 1, none⟩)), .val (.int .i64 (lo : Int)), .val (.int .i64 (p : Int)), .val (.bool true), .val (.bool true), .val (.int .i64 (p : Int)), .val (.pointer (some ⟨b17, 2, none⟩)), .val (.int .i64 (hi : Int)), .val (.bool d2), .val (.bool d2), .val (.bool d2)]) (by decide) rfl rfl [true, true, true, true, true, true, true, true, true, true, true] ?_ (fun u W hS hR => by subst hS; exact hend u (hR 10 (by decide)))
    unfold opsR16
    refine StepAllG.cons rfl (fun u W hS hd => ?_) (StepAllG.cons rfl (fun u W hS hd => ?_) (StepAllG.cons rfl (fun u W hS hd => ?_) (StepAllG.cons rfl (fun u W hS hd => ?_) (StepAllG.cons rfl (fun u W hS hd => ?_) (StepAllG.cons rfl (fun u W hS hd => ?_) (StepAllG.cons rfl (fun u W hS hd => ?_) (StepAllG.cons rfl (fun u W hS hd => ?_) (StepAllG.cons rfl (fun u W hS hd => ?_) (StepAllG.cons rfl (fun u W hS hd => ?_) (StepAllG.cons rfl (fun u W hS hd => ?_) (trivial)))))))))))
    · refine DoesG.plain rfl ?_
      exact step_value _ rfl (run_field _ b17 1 (.inl rfl) ((eout u 18 (by decide) (by omega)).trans h17)) rfl KeepTo.refl hS
    · refine DoesG.plain rfl ?_
      have e0 : u 140 = (.pointer (some ⟨b17, 1, none⟩)) := hd 0 (by decide)
      exact step_value _ rfl (run_loadI _ b17 1 (lo : Int) ((ein u 140 (by decide) (by omega)).trans e0) (by rw [hS]; exact c1)) rfl KeepTo.refl hS
    · refine DoesG.plain rfl ?_
      exact step_value _ rfl (run_move _) ((eout u 24 (by decide) (by omega)).trans h22) KeepTo.refl hS
    · refine DoesG.plain rfl ?_
      have e1 : u 141 = (.int .i64 (lo : Int)) := hd 1 (by decide)
      have e2 : u 142 = (.int .i64 (p : Int)) := hd 2 (by decide)
      exact step_value _ rfl (run_leq _ _ (lo : Int) (p : Int) true ((ein u 141 (by decide) (by omega)).trans e1) ((ein u 142 (by decide) (by omega)).trans e2) q1) rfl KeepTo.refl hS
    · refine DoesG.plain rfl ?_
      have e3 : u 143 = (.bool true) := hd 3 (by decide)
      exact step_value _ rfl (run_move _) ((ein u 143 (by decide) (by omega)).trans e3) KeepTo.refl hS
    · have e4 : u 144 = (.bool true) := hd 4 (by decide)
      refine DoesG.run (wanted_tt a dsR16 u 4 144 rfl rfl rfl (by decide) (by omega) e4) ?_
      exact step_value _ rfl (run_move _) ((eout u 24 (by decide) (by omega)).trans h22) KeepTo.refl hS
    · have e4 : u 144 = (.bool true) := hd 4 (by decide)
      refine DoesG.run (wanted_tt a dsR16 u 4 144 rfl rfl rfl (by decide) (by omega) e4) ?_
      exact step_value _ rfl (run_field _ b17 2 (.inr rfl) ((eout u 18 (by decide) (by omega)).trans h17)) rfl KeepTo.refl hS
    · have e4 : u 144 = (.bool true) := hd 4 (by decide)
      refine DoesG.run (wanted_tt a dsR16 u 4 144 rfl rfl rfl (by decide) (by omega) e4) ?_
      have e6 : u 146 = (.pointer (some ⟨b17, 2, none⟩)) := hd 6 (by decide)
      exact step_value _ rfl (run_loadI _ b17 2 (hi : Int) ((ein u 146 (by decide) (by omega)).trans e6) (by rw [hS]; exact c2)) rfl KeepTo.refl hS
    · have e4 : u 144 = (.bool true) := hd 4 (by decide)
      refine DoesG.run (wanted_tt a dsR16 u 4 144 rfl rfl rfl (by decide) (by omega) e4) ?_
      have e5 : u 145 = (.int .i64 (p : Int)) := hd 5 (by decide)
      have e7 : u 147 = (.int .i64 (hi : Int)) := hd 7 (by decide)
      exact step_value _ rfl (run_leq _ _ (p : Int) (hi : Int) d2 ((ein u 145 (by decide) (by omega)).trans e5) ((ein u 147 (by decide) (by omega)).trans e7) q2) rfl KeepTo.refl hS
    · refine DoesG.plain rfl ?_
      have e4 : u 144 = (.bool true) := hd 4 (by decide)
      have e8 : u 148 = (.bool d2) := hd 8 (by decide)
      exact step_value _ rfl (run_pickg _ _ true (d2) (d2) ((ein u 144 (by decide) (by omega)).trans e4) (fun _ => ((ein u 148 (by decide) (by omega)).trans e8)) rfl (Bool.true_and _)) rfl KeepTo.refl hS
    · refine DoesG.plain rfl ?_
      have e9 : u 149 = (.bool d2) := hd 9 (by decide)
      exact step_value _ rfl (run_assign _) ((ein u 149 (by decide) (by omega)).trans e9) KeepTo.refl hS
  | false =>
    refine wp_region_factsG dsR16 (fun _ W => W = w) (RF B [.val (.pointer (some ⟨b17, 1, none⟩)), .val (.int .i64 (lo : Int)), .val (.int .i64 (p : Int)), .val (.bool false), .val (.bool false), .any, .any, .any, .any, .val (.bool false), .val (.bool false)]) (by decide) rfl rfl [true, true, true, true, true, false, false, false, false, true, true] ?_ (fun u W hS hR => by subst hS; exact hend u (hR 10 (by decide)))
    unfold opsR16
    refine StepAllG.cons rfl (fun u W hS hd => ?_) (StepAllG.cons rfl (fun u W hS hd => ?_) (StepAllG.cons rfl (fun u W hS hd => ?_) (StepAllG.cons rfl (fun u W hS hd => ?_) (StepAllG.cons rfl (fun u W hS hd => ?_) (StepAllG.cons rfl (fun u W hS hd => ?_) (StepAllG.cons rfl (fun u W hS hd => ?_) (StepAllG.cons rfl (fun u W hS hd => ?_) (StepAllG.cons rfl (fun u W hS hd => ?_) (StepAllG.cons rfl (fun u W hS hd => ?_) (StepAllG.cons rfl (fun u W hS hd => ?_) (trivial)))))))))))
    · refine DoesG.plain rfl ?_
      exact step_value _ rfl (run_field _ b17 1 (.inl rfl) ((eout u 18 (by decide) (by omega)).trans h17)) rfl KeepTo.refl hS
    · refine DoesG.plain rfl ?_
      have e0 : u 140 = (.pointer (some ⟨b17, 1, none⟩)) := hd 0 (by decide)
      exact step_value _ rfl (run_loadI _ b17 1 (lo : Int) ((ein u 140 (by decide) (by omega)).trans e0) (by rw [hS]; exact c1)) rfl KeepTo.refl hS
    · refine DoesG.plain rfl ?_
      exact step_value _ rfl (run_move _) ((eout u 24 (by decide) (by omega)).trans h22) KeepTo.refl hS
    · refine DoesG.plain rfl ?_
      have e1 : u 141 = (.int .i64 (lo : Int)) := hd 1 (by decide)
      have e2 : u 142 = (.int .i64 (p : Int)) := hd 2 (by decide)
      exact step_value _ rfl (run_leq _ _ (lo : Int) (p : Int) false ((ein u 141 (by decide) (by omega)).trans e1) ((ein u 142 (by decide) (by omega)).trans e2) q1) rfl KeepTo.refl hS
    · refine DoesG.plain rfl ?_
      have e3 : u 143 = (.bool false) := hd 3 (by decide)
      exact step_value _ rfl (run_move _) ((ein u 143 (by decide) (by omega)).trans e3) KeepTo.refl hS
    · have e4 : u 144 = (.bool false) := hd 4 (by decide)
      exact DoesG.pass (wanted_tf a dsR16 u 4 144 rfl rfl rfl (by decide) (by omega) e4) trivial hS
    · have e4 : u 144 = (.bool false) := hd 4 (by decide)
      exact DoesG.pass (wanted_tf a dsR16 u 4 144 rfl rfl rfl (by decide) (by omega) e4) trivial hS
    · have e4 : u 144 = (.bool false) := hd 4 (by decide)
      exact DoesG.pass (wanted_tf a dsR16 u 4 144 rfl rfl rfl (by decide) (by omega) e4) trivial hS
    · have e4 : u 144 = (.bool false) := hd 4 (by decide)
      exact DoesG.pass (wanted_tf a dsR16 u 4 144 rfl rfl rfl (by decide) (by omega) e4) trivial hS
    · refine DoesG.plain rfl ?_
      have e4 : u 144 = (.bool false) := hd 4 (by decide)
      exact step_value _ rfl (run_pickg _ _ false false false ((ein u 144 (by decide) (by omega)).trans e4) (fun h => by cases h) rfl rfl) rfl KeepTo.refl hS
    · refine DoesG.plain rfl ?_
      have e9 : u 149 = (.bool false) := hd 9 (by decide)
      exact step_value _ rfl (run_assign _) ((ein u 149 (by decide) (by omega)).trans e9) KeepTo.refl hS

def opsR25 : List Oper := [
  { dst := some 191, op := Op.move (Operand.tmp 29), type := 4, pos := "turns.go:86", after := #[], guard := none },
  { dst := some 192, op := Op.move (Operand.tmp 191), type := 4, pos := "turns.go:86", after := #[{ on := 0, ground := Ground.data }], guard := none },
  { dst := some 193, op := Op.fieldAddr 52 (Operand.tmp 17) 1, type := 0, pos := "turns.go:86", after := #[{ on := 1, ground := Ground.guard }], guard := some (1, true) },
  { dst := some 194, op := Op.load 3 (Operand.tmp 193), type := 3, pos := "turns.go:86", after := #[{ on := 2, ground := Ground.data }, { on := 1, ground := Ground.guard }], guard := some (1, true) },
  { dst := some 195, op := Op.move (Operand.tmp 24), type := 3, pos := "turns.go:86", after := #[{ on := 1, ground := Ground.guard }], guard := some (1, true) },
  { dst := some 196, op := Op.binOp BinOp.leq 3 (Operand.tmp 194) (Operand.tmp 195) 3, type := 4, pos := "turns.go:86", after := #[{ on := 3, ground := Ground.data }, { on := 4, ground := Ground.data }, { on := 1, ground := Ground.guard }], guard := some (1, true) },
  { dst := some 197, op := Op.pick (Operand.tmp 192) (Operand.tmp 196) (Operand.const (Value.bool false)), type := 4, pos := "turns.go:86", after := #[{ on := 1, ground := Ground.data }, { on := 5, ground := Ground.data }], guard := none },
  { dst := some 198, op := Op.move (Operand.tmp 197), type := 4, pos := "turns.go:86", after := #[{ on := 6, ground := Ground.data }, { on := 1, ground := Ground.chain }], guard := none },
  { dst := some 199, op := Op.move (Operand.tmp 24), type := 3, pos := "turns.go:86", after := #[{ on := 7, ground := Ground.guard }], guard := some (7, true) },
  { dst := some 200, op := Op.fieldAddr 52 (Operand.tmp 17) 2, type := 0, pos := "turns.go:86", after := #[{ on := 7, ground := Ground.guard }], guard := some (7, true) },
  { dst := some 201, op := Op.load 3 (Operand.tmp 200), type := 3, pos := "turns.go:86", after := #[{ on := 9, ground := Ground.data }, { on := 7, ground := Ground.guard }], guard := some (7, true) },
  { dst := some 202, op := Op.binOp BinOp.leq 3 (Operand.tmp 199) (Operand.tmp 201) 3, type := 4, pos := "turns.go:86", after := #[{ on := 8, ground := Ground.data }, { on := 10, ground := Ground.data }, { on := 7, ground := Ground.guard }], guard := some (7, true) },
  { dst := some 203, op := Op.pick (Operand.tmp 198) (Operand.tmp 202) (Operand.const (Value.bool false)), type := 4, pos := "turns.go:86", after := #[{ on := 7, ground := Ground.data }, { on := 11, ground := Ground.data }], guard := none },
  { dst := some 35, op := Op.assign (Operand.tmp 203), type := 4, pos := "turns.go:86", after := #[{ on := 12, ground := Ground.data }, { on := 7, ground := Ground.chain }, { on := 0, ground := Ground.phase }, { on := 1, ground := Ground.phase }, { on := 2, ground := Ground.phase }, { on := 3, ground := Ground.phase }, { on := 4, ground := Ground.phase }, { on := 5, ground := Ground.phase }, { on := 6, ground := Ground.phase }, { on := 7, ground := Ground.phase }, { on := 8, ground := Ground.phase }, { on := 9, ground := Ground.phase }, { on := 10, ground := Ground.phase }, { on := 11, ground := Ground.phase }, { on := 12, ground := Ground.phase }], guard := none }]
def dsR25 : List (Option Nat) := [some 191, some 192, some 193, some 194, some 195, some 196, some 197, some 198, some 199, some 200, some 201, some 202, some 203, some 35]
set_option maxRecDepth 10000 in
set_option maxHeartbeats 1000000 in
theorem ruled_r25 (a : Act) (Q : Exit → Act → World → Prop) (w : World) (id : Nat) (b17 lo hi p : Nat) (o d1 d2 : Bool) (hsz : 360 ≤ a.tmps.size)
    (h17 : a.eval (.tmp 17) = .pointer (some ⟨b17, 0, none⟩)) (h24 : a.eval (.tmp 24) = .int .i64 (p : Int)) (h29 : a.eval (.tmp 29) = .bool o) (c1 : w.cell? ⟨b17, 1, none⟩ = some (.int .i64 (lo : Int))) (c2 : w.cell? ⟨b17, 2, none⟩ = some (.int .i64 (hi : Int))) (q1 : decide ((lo : Int) ≤ (p : Int)) = d1) (q2 : decide ((p : Int) ≤ (hi : Int)) = d2)
    
    (hend : ∀ u, u 35 = .bool (o && (d1 && d2)) → Q .normal (over a dsR25 u) w) : (Code.region id opsR25.toArray false).wp Tryz.prog Q a w := by
  have ein : ∀ u k, some k ∈ dsR25 → k < 360 → (over a dsR25 u).eval (.tmp k) = u k := fun u k h1 h2 => eval_in a dsR25 u k h1 (by omega)
  have eout : ∀ u k, some k ∉ dsR25 → k < 360 → (over a dsR25 u).eval (.tmp k) = a.eval (.tmp k) := fun u k h1 h2 => eval_out a dsR25 u k h1 (by omega)
  have hB0 : ∃ B : Nat, B = 0 := ⟨0, rfl⟩
  obtain ⟨B, hB0⟩ := hB0
  cases o with
  | true =>
    cases d1 with
    | true =>
      refine wp_region_factsG dsR25 (fun _ W => W = w) (RF B [.val (.bool true), .val (.bool true), .val (.pointer (some ⟨b17, 1, none⟩)), .val (.int .i64 (lo : Int)), .val (.int .i64 (p : Int)), .val (.bool true), .val (.bool true), .val (.bool true), .val (.int .i64 (p : Int)), .val (.pointer (some ⟨b17, 2, none⟩)), .val (.int .i64 (hi : Int)), .val (.bool d2), .val (.bool d2), .val (.bool d2)]) (by decide) rfl rfl [true, true, true, true, true, true, true, true, true, true, true, true, true, true] ?_ (fun u W hS hR => by subst hS; exact hend u (hR 13 (by decide)))
      unfold opsR25
      refine StepAllG.cons rfl (fun u W hS hd => ?_) (StepAllG.cons rfl (fun u W hS hd => ?_) (StepAllG.cons rfl (fun u W hS hd => ?_) (StepAllG.cons rfl (fun u W hS hd => ?_) (StepAllG.cons rfl (fun u W hS hd => ?_) (StepAllG.cons rfl (fun u W hS hd => ?_) (StepAllG.cons rfl (fun u W hS hd => ?_) (StepAllG.cons rfl (fun u W hS hd => ?_) (StepAllG.cons rfl (fun u W hS hd => ?_) (StepAllG.cons rfl (fun u W hS hd => ?_) (StepAllG.cons rfl (fun u W hS hd => ?_) (StepAllG.cons rfl (fun u W hS hd => ?_) (StepAllG.cons rfl (fun u W hS hd => ?_) (StepAllG.cons rfl (fun u W hS hd => ?_) (trivial))))))))))))))
      · refine DoesG.plain rfl ?_
        exact step_value _ rfl (run_move _) ((eout u 29 (by decide) (by omega)).trans h29) KeepTo.refl hS
      · refine DoesG.plain rfl ?_
        have e0 : u 191 = (.bool true) := hd 0 (by decide)
        exact step_value _ rfl (run_move _) ((ein u 191 (by decide) (by omega)).trans e0) KeepTo.refl hS
      · have e1 : u 192 = (.bool true) := hd 1 (by decide)
        refine DoesG.run (wanted_tt a dsR25 u 1 192 rfl rfl rfl (by decide) (by omega) e1) ?_
        exact step_value _ rfl (run_field _ b17 1 (.inl rfl) ((eout u 17 (by decide) (by omega)).trans h17)) rfl KeepTo.refl hS
      · have e1 : u 192 = (.bool true) := hd 1 (by decide)
        refine DoesG.run (wanted_tt a dsR25 u 1 192 rfl rfl rfl (by decide) (by omega) e1) ?_
        have e2 : u 193 = (.pointer (some ⟨b17, 1, none⟩)) := hd 2 (by decide)
        exact step_value _ rfl (run_loadI _ b17 1 (lo : Int) ((ein u 193 (by decide) (by omega)).trans e2) (by rw [hS]; exact c1)) rfl KeepTo.refl hS
      · have e1 : u 192 = (.bool true) := hd 1 (by decide)
        refine DoesG.run (wanted_tt a dsR25 u 1 192 rfl rfl rfl (by decide) (by omega) e1) ?_
        exact step_value _ rfl (run_move _) ((eout u 24 (by decide) (by omega)).trans h24) KeepTo.refl hS
      · have e1 : u 192 = (.bool true) := hd 1 (by decide)
        refine DoesG.run (wanted_tt a dsR25 u 1 192 rfl rfl rfl (by decide) (by omega) e1) ?_
        have e3 : u 194 = (.int .i64 (lo : Int)) := hd 3 (by decide)
        have e4 : u 195 = (.int .i64 (p : Int)) := hd 4 (by decide)
        exact step_value _ rfl (run_leq _ _ (lo : Int) (p : Int) true ((ein u 194 (by decide) (by omega)).trans e3) ((ein u 195 (by decide) (by omega)).trans e4) q1) rfl KeepTo.refl hS
      · refine DoesG.plain rfl ?_
        have e1 : u 192 = (.bool true) := hd 1 (by decide)
        have e5 : u 196 = (.bool true) := hd 5 (by decide)
        exact step_value _ rfl (run_pickg _ _ true (true) (true) ((ein u 192 (by decide) (by omega)).trans e1) (fun _ => ((ein u 196 (by decide) (by omega)).trans e5)) rfl (Bool.true_and _)) rfl KeepTo.refl hS
      · refine DoesG.plain rfl ?_
        have e6 : u 197 = (.bool true) := hd 6 (by decide)
        exact step_value _ rfl (run_move _) ((ein u 197 (by decide) (by omega)).trans e6) KeepTo.refl hS
      · have e7 : u 198 = (.bool true) := hd 7 (by decide)
        refine DoesG.run (wanted_tt a dsR25 u 7 198 rfl rfl rfl (by decide) (by omega) e7) ?_
        exact step_value _ rfl (run_move _) ((eout u 24 (by decide) (by omega)).trans h24) KeepTo.refl hS
      · have e7 : u 198 = (.bool true) := hd 7 (by decide)
        refine DoesG.run (wanted_tt a dsR25 u 7 198 rfl rfl rfl (by decide) (by omega) e7) ?_
        exact step_value _ rfl (run_field _ b17 2 (.inr rfl) ((eout u 17 (by decide) (by omega)).trans h17)) rfl KeepTo.refl hS
      · have e7 : u 198 = (.bool true) := hd 7 (by decide)
        refine DoesG.run (wanted_tt a dsR25 u 7 198 rfl rfl rfl (by decide) (by omega) e7) ?_
        have e9 : u 200 = (.pointer (some ⟨b17, 2, none⟩)) := hd 9 (by decide)
        exact step_value _ rfl (run_loadI _ b17 2 (hi : Int) ((ein u 200 (by decide) (by omega)).trans e9) (by rw [hS]; exact c2)) rfl KeepTo.refl hS
      · have e7 : u 198 = (.bool true) := hd 7 (by decide)
        refine DoesG.run (wanted_tt a dsR25 u 7 198 rfl rfl rfl (by decide) (by omega) e7) ?_
        have e8 : u 199 = (.int .i64 (p : Int)) := hd 8 (by decide)
        have e10 : u 201 = (.int .i64 (hi : Int)) := hd 10 (by decide)
        exact step_value _ rfl (run_leq _ _ (p : Int) (hi : Int) d2 ((ein u 199 (by decide) (by omega)).trans e8) ((ein u 201 (by decide) (by omega)).trans e10) q2) rfl KeepTo.refl hS
      · refine DoesG.plain rfl ?_
        have e7 : u 198 = (.bool true) := hd 7 (by decide)
        have e11 : u 202 = (.bool d2) := hd 11 (by decide)
        exact step_value _ rfl (run_pickg _ _ true (d2) (d2) ((ein u 198 (by decide) (by omega)).trans e7) (fun _ => ((ein u 202 (by decide) (by omega)).trans e11)) rfl (Bool.true_and _)) rfl KeepTo.refl hS
      · refine DoesG.plain rfl ?_
        have e12 : u 203 = (.bool d2) := hd 12 (by decide)
        exact step_value _ rfl (run_assign _) ((ein u 203 (by decide) (by omega)).trans e12) KeepTo.refl hS
    | false =>
      refine wp_region_factsG dsR25 (fun _ W => W = w) (RF B [.val (.bool true), .val (.bool true), .val (.pointer (some ⟨b17, 1, none⟩)), .val (.int .i64 (lo : Int)), .val (.int .i64 (p : Int)), .val (.bool false), .val (.bool false), .val (.bool false), .any, .any, .any, .any, .val (.bool false), .val (.bool false)]) (by decide) rfl rfl [true, true, true, true, true, true, true, true, false, false, false, false, true, true] ?_ (fun u W hS hR => by subst hS; exact hend u (hR 13 (by decide)))
      unfold opsR25
      refine StepAllG.cons rfl (fun u W hS hd => ?_) (StepAllG.cons rfl (fun u W hS hd => ?_) (StepAllG.cons rfl (fun u W hS hd => ?_) (StepAllG.cons rfl (fun u W hS hd => ?_) (StepAllG.cons rfl (fun u W hS hd => ?_) (StepAllG.cons rfl (fun u W hS hd => ?_) (StepAllG.cons rfl (fun u W hS hd => ?_) (StepAllG.cons rfl (fun u W hS hd => ?_) (StepAllG.cons rfl (fun u W hS hd => ?_) (StepAllG.cons rfl (fun u W hS hd => ?_) (StepAllG.cons rfl (fun u W hS hd => ?_) (StepAllG.cons rfl (fun u W hS hd => ?_) (StepAllG.cons rfl (fun u W hS hd => ?_) (StepAllG.cons rfl (fun u W hS hd => ?_) (trivial))))))))))))))
      · refine DoesG.plain rfl ?_
        exact step_value _ rfl (run_move _) ((eout u 29 (by decide) (by omega)).trans h29) KeepTo.refl hS
      · refine DoesG.plain rfl ?_
        have e0 : u 191 = (.bool true) := hd 0 (by decide)
        exact step_value _ rfl (run_move _) ((ein u 191 (by decide) (by omega)).trans e0) KeepTo.refl hS
      · have e1 : u 192 = (.bool true) := hd 1 (by decide)
        refine DoesG.run (wanted_tt a dsR25 u 1 192 rfl rfl rfl (by decide) (by omega) e1) ?_
        exact step_value _ rfl (run_field _ b17 1 (.inl rfl) ((eout u 17 (by decide) (by omega)).trans h17)) rfl KeepTo.refl hS
      · have e1 : u 192 = (.bool true) := hd 1 (by decide)
        refine DoesG.run (wanted_tt a dsR25 u 1 192 rfl rfl rfl (by decide) (by omega) e1) ?_
        have e2 : u 193 = (.pointer (some ⟨b17, 1, none⟩)) := hd 2 (by decide)
        exact step_value _ rfl (run_loadI _ b17 1 (lo : Int) ((ein u 193 (by decide) (by omega)).trans e2) (by rw [hS]; exact c1)) rfl KeepTo.refl hS
      · have e1 : u 192 = (.bool true) := hd 1 (by decide)
        refine DoesG.run (wanted_tt a dsR25 u 1 192 rfl rfl rfl (by decide) (by omega) e1) ?_
        exact step_value _ rfl (run_move _) ((eout u 24 (by decide) (by omega)).trans h24) KeepTo.refl hS
      · have e1 : u 192 = (.bool true) := hd 1 (by decide)
        refine DoesG.run (wanted_tt a dsR25 u 1 192 rfl rfl rfl (by decide) (by omega) e1) ?_
        have e3 : u 194 = (.int .i64 (lo : Int)) := hd 3 (by decide)
        have e4 : u 195 = (.int .i64 (p : Int)) := hd 4 (by decide)
        exact step_value _ rfl (run_leq _ _ (lo : Int) (p : Int) false ((ein u 194 (by decide) (by omega)).trans e3) ((ein u 195 (by decide) (by omega)).trans e4) q1) rfl KeepTo.refl hS
      · refine DoesG.plain rfl ?_
        have e1 : u 192 = (.bool true) := hd 1 (by decide)
        have e5 : u 196 = (.bool false) := hd 5 (by decide)
        exact step_value _ rfl (run_pickg _ _ true (false) (false) ((ein u 192 (by decide) (by omega)).trans e1) (fun _ => ((ein u 196 (by decide) (by omega)).trans e5)) rfl (Bool.true_and _)) rfl KeepTo.refl hS
      · refine DoesG.plain rfl ?_
        have e6 : u 197 = (.bool false) := hd 6 (by decide)
        exact step_value _ rfl (run_move _) ((ein u 197 (by decide) (by omega)).trans e6) KeepTo.refl hS
      · have e7 : u 198 = (.bool false) := hd 7 (by decide)
        exact DoesG.pass (wanted_tf a dsR25 u 7 198 rfl rfl rfl (by decide) (by omega) e7) trivial hS
      · have e7 : u 198 = (.bool false) := hd 7 (by decide)
        exact DoesG.pass (wanted_tf a dsR25 u 7 198 rfl rfl rfl (by decide) (by omega) e7) trivial hS
      · have e7 : u 198 = (.bool false) := hd 7 (by decide)
        exact DoesG.pass (wanted_tf a dsR25 u 7 198 rfl rfl rfl (by decide) (by omega) e7) trivial hS
      · have e7 : u 198 = (.bool false) := hd 7 (by decide)
        exact DoesG.pass (wanted_tf a dsR25 u 7 198 rfl rfl rfl (by decide) (by omega) e7) trivial hS
      · refine DoesG.plain rfl ?_
        have e7 : u 198 = (.bool false) := hd 7 (by decide)
        exact step_value _ rfl (run_pickg _ _ false false false ((ein u 198 (by decide) (by omega)).trans e7) (fun h => by cases h) rfl rfl) rfl KeepTo.refl hS
      · refine DoesG.plain rfl ?_
        have e12 : u 203 = (.bool false) := hd 12 (by decide)
        exact step_value _ rfl (run_assign _) ((ein u 203 (by decide) (by omega)).trans e12) KeepTo.refl hS
  | false =>
    refine wp_region_factsG dsR25 (fun _ W => W = w) (RF B [.val (.bool false), .val (.bool false), .any, .any, .any, .any, .val (.bool false), .val (.bool false), .any, .any, .any, .any, .val (.bool false), .val (.bool false)]) (by decide) rfl rfl [true, true, false, false, false, false, true, true, false, false, false, false, true, true] ?_ (fun u W hS hR => by subst hS; exact hend u (hR 13 (by decide)))
    unfold opsR25
    refine StepAllG.cons rfl (fun u W hS hd => ?_) (StepAllG.cons rfl (fun u W hS hd => ?_) (StepAllG.cons rfl (fun u W hS hd => ?_) (StepAllG.cons rfl (fun u W hS hd => ?_) (StepAllG.cons rfl (fun u W hS hd => ?_) (StepAllG.cons rfl (fun u W hS hd => ?_) (StepAllG.cons rfl (fun u W hS hd => ?_) (StepAllG.cons rfl (fun u W hS hd => ?_) (StepAllG.cons rfl (fun u W hS hd => ?_) (StepAllG.cons rfl (fun u W hS hd => ?_) (StepAllG.cons rfl (fun u W hS hd => ?_) (StepAllG.cons rfl (fun u W hS hd => ?_) (StepAllG.cons rfl (fun u W hS hd => ?_) (StepAllG.cons rfl (fun u W hS hd => ?_) (trivial))))))))))))))
    · refine DoesG.plain rfl ?_
      exact step_value _ rfl (run_move _) ((eout u 29 (by decide) (by omega)).trans h29) KeepTo.refl hS
    · refine DoesG.plain rfl ?_
      have e0 : u 191 = (.bool false) := hd 0 (by decide)
      exact step_value _ rfl (run_move _) ((ein u 191 (by decide) (by omega)).trans e0) KeepTo.refl hS
    · have e1 : u 192 = (.bool false) := hd 1 (by decide)
      exact DoesG.pass (wanted_tf a dsR25 u 1 192 rfl rfl rfl (by decide) (by omega) e1) trivial hS
    · have e1 : u 192 = (.bool false) := hd 1 (by decide)
      exact DoesG.pass (wanted_tf a dsR25 u 1 192 rfl rfl rfl (by decide) (by omega) e1) trivial hS
    · have e1 : u 192 = (.bool false) := hd 1 (by decide)
      exact DoesG.pass (wanted_tf a dsR25 u 1 192 rfl rfl rfl (by decide) (by omega) e1) trivial hS
    · have e1 : u 192 = (.bool false) := hd 1 (by decide)
      exact DoesG.pass (wanted_tf a dsR25 u 1 192 rfl rfl rfl (by decide) (by omega) e1) trivial hS
    · refine DoesG.plain rfl ?_
      have e1 : u 192 = (.bool false) := hd 1 (by decide)
      exact step_value _ rfl (run_pickg _ _ false false false ((ein u 192 (by decide) (by omega)).trans e1) (fun h => by cases h) rfl rfl) rfl KeepTo.refl hS
    · refine DoesG.plain rfl ?_
      have e6 : u 197 = (.bool false) := hd 6 (by decide)
      exact step_value _ rfl (run_move _) ((ein u 197 (by decide) (by omega)).trans e6) KeepTo.refl hS
    · have e7 : u 198 = (.bool false) := hd 7 (by decide)
      exact DoesG.pass (wanted_tf a dsR25 u 7 198 rfl rfl rfl (by decide) (by omega) e7) trivial hS
    · have e7 : u 198 = (.bool false) := hd 7 (by decide)
      exact DoesG.pass (wanted_tf a dsR25 u 7 198 rfl rfl rfl (by decide) (by omega) e7) trivial hS
    · have e7 : u 198 = (.bool false) := hd 7 (by decide)
      exact DoesG.pass (wanted_tf a dsR25 u 7 198 rfl rfl rfl (by decide) (by omega) e7) trivial hS
    · have e7 : u 198 = (.bool false) := hd 7 (by decide)
      exact DoesG.pass (wanted_tf a dsR25 u 7 198 rfl rfl rfl (by decide) (by omega) e7) trivial hS
    · refine DoesG.plain rfl ?_
      have e7 : u 198 = (.bool false) := hd 7 (by decide)
      exact step_value _ rfl (run_pickg _ _ false false false ((ein u 198 (by decide) (by omega)).trans e7) (fun h => by cases h) rfl rfl) rfl KeepTo.refl hS
    · refine DoesG.plain rfl ?_
      have e12 : u 203 = (.bool false) := hd 12 (by decide)
      exact step_value _ rfl (run_assign _) ((ein u 203 (by decide) (by omega)).trans e12) KeepTo.refl hS

def opsR23 : List Oper := [
  { dst := some 169, op := Op.move (Operand.tmp 28), type := 4, pos := "turns.go:83", after := #[], guard := none },
  { dst := some 170, op := Op.unOp UnOp.not 4 (Operand.tmp 169), type := 4, pos := "turns.go:83", after := #[{ on := 0, ground := Ground.data }], guard := none },
  { dst := some 171, op := Op.move (Operand.tmp 170), type := 4, pos := "turns.go:83", after := #[{ on := 1, ground := Ground.data }], guard := none },
  { dst := some 172, op := Op.move (Operand.tmp 31), type := 4, pos := "turns.go:83", after := #[{ on := 2, ground := Ground.guard }], guard := some (2, false) },
  { dst := some 173, op := Op.unOp UnOp.not 4 (Operand.tmp 172), type := 4, pos := "turns.go:83", after := #[{ on := 3, ground := Ground.data }, { on := 2, ground := Ground.guard }], guard := some (2, false) },
  { dst := some 174, op := Op.pick (Operand.tmp 171) (Operand.const (Value.bool true)) (Operand.tmp 173), type := 4, pos := "turns.go:83", after := #[{ on := 2, ground := Ground.data }, { on := 4, ground := Ground.data }], guard := none },
  { dst := some 175, op := Op.move (Operand.tmp 174), type := 4, pos := "turns.go:83", after := #[{ on := 5, ground := Ground.data }, { on := 2, ground := Ground.chain }], guard := none },
  { dst := some 176, op := Op.move (Operand.tmp 33), type := 32, pos := "turns.go:83", after := #[{ on := 6, ground := Ground.guard }], guard := some (6, false) },
  { dst := some 177, op := Op.binOp BinOp.neq 32 (Operand.tmp 176) (Operand.const (Value.int IntKind.i64 0)) 32, type := 4, pos := "turns.go:83", after := #[{ on := 7, ground := Ground.data }, { on := 6, ground := Ground.guard }], guard := some (6, false) },
  { dst := some 178, op := Op.pick (Operand.tmp 175) (Operand.const (Value.bool true)) (Operand.tmp 177), type := 4, pos := "turns.go:83", after := #[{ on := 6, ground := Ground.data }, { on := 8, ground := Ground.data }], guard := none },
  { dst := some 179, op := Op.move (Operand.tmp 178), type := 4, pos := "turns.go:83", after := #[{ on := 9, ground := Ground.data }, { on := 6, ground := Ground.chain }], guard := none },
  { dst := some 180, op := Op.move (Operand.tmp 32), type := 24, pos := "turns.go:83", after := #[{ on := 10, ground := Ground.guard }], guard := some (10, false) },
  { dst := some 181, op := Op.call { callee := Callee.builtin Builtin.len, args := #[Operand.tmp 180], argTypes := #[24] }, type := 3, pos := "turns.go:83", after := #[{ on := 11, ground := Ground.data }, { on := 10, ground := Ground.guard }], guard := some (10, false) },
  { dst := some 182, op := Op.binOp BinOp.neq 3 (Operand.tmp 181) (Operand.const (Value.int IntKind.i64 1)) 3, type := 4, pos := "turns.go:83", after := #[{ on := 12, ground := Ground.data }, { on := 10, ground := Ground.guard }], guard := some (10, false) },
  { dst := some 183, op := Op.pick (Operand.tmp 179) (Operand.const (Value.bool true)) (Operand.tmp 182), type := 4, pos := "turns.go:83", after := #[{ on := 10, ground := Ground.data }, { on := 13, ground := Ground.data }], guard := none },
  { dst := some 184, op := Op.move (Operand.tmp 183), type := 4, pos := "turns.go:83", after := #[{ on := 14, ground := Ground.data }, { on := 10, ground := Ground.chain }], guard := none },
  { dst := some 185, op := Op.move (Operand.tmp 32), type := 24, pos := "turns.go:83", after := #[{ on := 15, ground := Ground.guard }], guard := some (15, false) },
  { dst := some 186, op := Op.indexAddr 24 (Operand.tmp 185) (Operand.const (Value.int IntKind.i64 0)), type := 0, pos := "turns.go:83", after := #[{ on := 16, ground := Ground.data }, { on := 15, ground := Ground.guard }], guard := some (15, false) },
  { dst := some 187, op := Op.load 3 (Operand.tmp 186), type := 3, pos := "turns.go:83", after := #[{ on := 17, ground := Ground.data }, { on := 15, ground := Ground.guard }], guard := some (15, false) },
  { dst := some 188, op := Op.move (Operand.tmp 34), type := 3, pos := "turns.go:83", after := #[{ on := 15, ground := Ground.guard }], guard := some (15, false) },
  { dst := some 189, op := Op.binOp BinOp.neq 3 (Operand.tmp 187) (Operand.tmp 188) 3, type := 4, pos := "turns.go:83", after := #[{ on := 18, ground := Ground.data }, { on := 19, ground := Ground.data }, { on := 15, ground := Ground.guard }], guard := some (15, false) },
  { dst := some 190, op := Op.pick (Operand.tmp 184) (Operand.const (Value.bool true)) (Operand.tmp 189), type := 4, pos := "turns.go:83", after := #[{ on := 15, ground := Ground.data }, { on := 20, ground := Ground.data }], guard := none }]
def dsR23 : List (Option Nat) := [some 169, some 170, some 171, some 172, some 173, some 174, some 175, some 176, some 177, some 178, some 179, some 180, some 181, some 182, some 183, some 184, some 185, some 186, some 187, some 188, some 189, some 190]
set_option maxRecDepth 10000 in
set_option maxHeartbeats 1000000 in
theorem ruled_r23 (a : Act) (Q : Exit → Act → World → Prop) (w : World) (id : Nat) (b o cp : Nat) (x : Int) (hsz : 360 ≤ a.tmps.size)
    (h28 : a.eval (.tmp 28) = .bool true) (h31 : a.eval (.tmp 31) = .bool true) (h33 : a.eval (.tmp 33) = .int .i64 0) (h32 : a.eval (.tmp 32) = .slice (some ⟨b, o, none⟩) 1 cp) (h34 : a.eval (.tmp 34) = .int .i64 x) (c1 : w.cell? ⟨b, o + 0, none⟩ = some (.int .i64 x))
    
    (hend : ∀ u, u 190 = .bool false → Q .normal (over a dsR23 u) w) : (Code.region id opsR23.toArray false).wp Tryz.prog Q a w := by
  have ein : ∀ u k, some k ∈ dsR23 → k < 360 → (over a dsR23 u).eval (.tmp k) = u k := fun u k h1 h2 => eval_in a dsR23 u k h1 (by omega)
  have eout : ∀ u k, some k ∉ dsR23 → k < 360 → (over a dsR23 u).eval (.tmp k) = a.eval (.tmp k) := fun u k h1 h2 => eval_out a dsR23 u k h1 (by omega)
  have hB0 : ∃ B : Nat, B = 0 := ⟨0, rfl⟩
  obtain ⟨B, hB0⟩ := hB0
  refine wp_region_factsG dsR23 (fun _ W => W = w) (RF B [.val (.bool true), .val (.bool false), .val (.bool false), .val (.bool true), .val (.bool false), .val (.bool false), .val (.bool false), .val (.int .i64 0), .val (.bool false), .val (.bool false), .val (.bool false), .val (.slice (some ⟨b, o, none⟩) 1 cp), .val (.int .i64 ((1 : Nat) : Int)), .val (.bool false), .val (.bool false), .val (.bool false), .val (.slice (some ⟨b, o, none⟩) 1 cp), .val (.pointer (some ⟨b, o + 0, none⟩)), .val (.int .i64 x), .val (.int .i64 x), .val (.bool false), .val (.bool false)]) (by decide) rfl rfl [true, true, true, true, true, true, true, true, true, true, true, true, true, true, true, true, true, true, true, true, true, true] ?_ (fun u W hS hR => by subst hS; exact hend u (hR 21 (by decide)))
  unfold opsR23
  refine StepAllG.cons rfl (fun u W hS hd => ?_) (StepAllG.cons rfl (fun u W hS hd => ?_) (StepAllG.cons rfl (fun u W hS hd => ?_) (StepAllG.cons rfl (fun u W hS hd => ?_) (StepAllG.cons rfl (fun u W hS hd => ?_) (StepAllG.cons rfl (fun u W hS hd => ?_) (StepAllG.cons rfl (fun u W hS hd => ?_) (StepAllG.cons rfl (fun u W hS hd => ?_) (StepAllG.cons rfl (fun u W hS hd => ?_) (StepAllG.cons rfl (fun u W hS hd => ?_) (StepAllG.cons rfl (fun u W hS hd => ?_) (StepAllG.cons rfl (fun u W hS hd => ?_) (StepAllG.cons rfl (fun u W hS hd => ?_) (StepAllG.cons rfl (fun u W hS hd => ?_) (StepAllG.cons rfl (fun u W hS hd => ?_) (StepAllG.cons rfl (fun u W hS hd => ?_) (StepAllG.cons rfl (fun u W hS hd => ?_) (StepAllG.cons rfl (fun u W hS hd => ?_) (StepAllG.cons rfl (fun u W hS hd => ?_) (StepAllG.cons rfl (fun u W hS hd => ?_) (StepAllG.cons rfl (fun u W hS hd => ?_) (StepAllG.cons rfl (fun u W hS hd => ?_) (trivial))))))))))))))))))))))
  · refine DoesG.plain rfl ?_
    exact step_value _ rfl (run_move _) ((eout u 28 (by decide) (by omega)).trans h28) KeepTo.refl hS
  · refine DoesG.plain rfl ?_
    have e0 : u 169 = (.bool true) := hd 0 (by decide)
    exact step_value _ rfl (run_not _ true false ((ein u 169 (by decide) (by omega)).trans e0) rfl) rfl KeepTo.refl hS
  · refine DoesG.plain rfl ?_
    have e1 : u 170 = (.bool false) := hd 1 (by decide)
    exact step_value _ rfl (run_move _) ((ein u 170 (by decide) (by omega)).trans e1) KeepTo.refl hS
  · have e2 : u 171 = (.bool false) := hd 2 (by decide)
    refine DoesG.run (wanted_ff a dsR23 u 2 171 rfl rfl rfl (by decide) (by omega) e2) ?_
    exact step_value _ rfl (run_move _) ((eout u 31 (by decide) (by omega)).trans h31) KeepTo.refl hS
  · have e2 : u 171 = (.bool false) := hd 2 (by decide)
    refine DoesG.run (wanted_ff a dsR23 u 2 171 rfl rfl rfl (by decide) (by omega) e2) ?_
    have e3 : u 172 = (.bool true) := hd 3 (by decide)
    exact step_value _ rfl (run_not _ true false ((ein u 172 (by decide) (by omega)).trans e3) rfl) rfl KeepTo.refl hS
  · refine DoesG.plain rfl ?_
    have e2 : u 171 = (.bool false) := hd 2 (by decide)
    have e4 : u 173 = (.bool false) := hd 4 (by decide)
    exact step_value _ rfl (run_pickt _ _ false (false) (false) ((ein u 171 (by decide) (by omega)).trans e2) (fun _ => ((ein u 173 (by decide) (by omega)).trans e4)) rfl (Bool.false_or _)) rfl KeepTo.refl hS
  · refine DoesG.plain rfl ?_
    have e5 : u 174 = (.bool false) := hd 5 (by decide)
    exact step_value _ rfl (run_move _) ((ein u 174 (by decide) (by omega)).trans e5) KeepTo.refl hS
  · have e6 : u 175 = (.bool false) := hd 6 (by decide)
    refine DoesG.run (wanted_ff a dsR23 u 6 175 rfl rfl rfl (by decide) (by omega) e6) ?_
    exact step_value _ rfl (run_move _) ((eout u 33 (by decide) (by omega)).trans h33) KeepTo.refl hS
  · have e6 : u 175 = (.bool false) := hd 6 (by decide)
    refine DoesG.run (wanted_ff a dsR23 u 6 175 rfl rfl rfl (by decide) (by omega) e6) ?_
    have e7 : u 176 = (.int .i64 0) := hd 7 (by decide)
    exact step_value _ rfl (run_neE _ _ 0 0 false ((ein u 176 (by decide) (by omega)).trans e7) rfl rfl) rfl KeepTo.refl hS
  · refine DoesG.plain rfl ?_
    have e6 : u 175 = (.bool false) := hd 6 (by decide)
    have e8 : u 177 = (.bool false) := hd 8 (by decide)
    exact step_value _ rfl (run_pickt _ _ false (false) (false) ((ein u 175 (by decide) (by omega)).trans e6) (fun _ => ((ein u 177 (by decide) (by omega)).trans e8)) rfl (Bool.false_or _)) rfl KeepTo.refl hS
  · refine DoesG.plain rfl ?_
    have e9 : u 178 = (.bool false) := hd 9 (by decide)
    exact step_value _ rfl (run_move _) ((ein u 178 (by decide) (by omega)).trans e9) KeepTo.refl hS
  · have e10 : u 179 = (.bool false) := hd 10 (by decide)
    refine DoesG.run (wanted_ff a dsR23 u 10 179 rfl rfl rfl (by decide) (by omega) e10) ?_
    exact step_value _ rfl (run_move _) ((eout u 32 (by decide) (by omega)).trans h32) KeepTo.refl hS
  · have e10 : u 179 = (.bool false) := hd 10 (by decide)
    refine DoesG.run (wanted_ff a dsR23 u 10 179 rfl rfl rfl (by decide) (by omega) e10) ?_
    have e11 : u 180 = (.slice (some ⟨b, o, none⟩) 1 cp) := hd 11 (by decide)
    exact step_value _ rfl (run_lenI _ _ 1 cp ((ein u 180 (by decide) (by omega)).trans e11)) rfl KeepTo.refl hS
  · have e10 : u 179 = (.bool false) := hd 10 (by decide)
    refine DoesG.run (wanted_ff a dsR23 u 10 179 rfl rfl rfl (by decide) (by omega) e10) ?_
    have e12 : u 181 = (.int .i64 ((1 : Nat) : Int)) := hd 12 (by decide)
    exact step_value _ rfl (run_neI _ _ 1 1 false ((ein u 181 (by decide) (by omega)).trans e12) rfl rfl) rfl KeepTo.refl hS
  · refine DoesG.plain rfl ?_
    have e10 : u 179 = (.bool false) := hd 10 (by decide)
    have e13 : u 182 = (.bool false) := hd 13 (by decide)
    exact step_value _ rfl (run_pickt _ _ false (false) (false) ((ein u 179 (by decide) (by omega)).trans e10) (fun _ => ((ein u 182 (by decide) (by omega)).trans e13)) rfl (Bool.false_or _)) rfl KeepTo.refl hS
  · refine DoesG.plain rfl ?_
    have e14 : u 183 = (.bool false) := hd 14 (by decide)
    exact step_value _ rfl (run_move _) ((ein u 183 (by decide) (by omega)).trans e14) KeepTo.refl hS
  · have e15 : u 184 = (.bool false) := hd 15 (by decide)
    refine DoesG.run (wanted_ff a dsR23 u 15 184 rfl rfl rfl (by decide) (by omega) e15) ?_
    exact step_value _ rfl (run_move _) ((eout u 32 (by decide) (by omega)).trans h32) KeepTo.refl hS
  · have e15 : u 184 = (.bool false) := hd 15 (by decide)
    refine DoesG.run (wanted_ff a dsR23 u 15 184 rfl rfl rfl (by decide) (by omega) e15) ?_
    have e16 : u 185 = (.slice (some ⟨b, o, none⟩) 1 cp) := hd 16 (by decide)
    exact step_value _ rfl (run_idxI _ _ b o 1 cp 0 ((ein u 185 (by decide) (by omega)).trans e16) rfl (by omega)) rfl KeepTo.refl hS
  · have e15 : u 184 = (.bool false) := hd 15 (by decide)
    refine DoesG.run (wanted_ff a dsR23 u 15 184 rfl rfl rfl (by decide) (by omega) e15) ?_
    have e17 : u 186 = (.pointer (some ⟨b, o + 0, none⟩)) := hd 17 (by decide)
    exact step_value _ rfl (run_loadI _ b (o + 0) x ((ein u 186 (by decide) (by omega)).trans e17) (by rw [hS]; exact c1)) rfl KeepTo.refl hS
  · have e15 : u 184 = (.bool false) := hd 15 (by decide)
    refine DoesG.run (wanted_ff a dsR23 u 15 184 rfl rfl rfl (by decide) (by omega) e15) ?_
    exact step_value _ rfl (run_move _) ((eout u 34 (by decide) (by omega)).trans h34) KeepTo.refl hS
  · have e15 : u 184 = (.bool false) := hd 15 (by decide)
    refine DoesG.run (wanted_ff a dsR23 u 15 184 rfl rfl rfl (by decide) (by omega) e15) ?_
    have e18 : u 187 = (.int .i64 x) := hd 18 (by decide)
    have e19 : u 188 = (.int .i64 x) := hd 19 (by decide)
    exact step_value _ rfl (run_neI _ _ x x false ((ein u 187 (by decide) (by omega)).trans e18) ((ein u 188 (by decide) (by omega)).trans e19) (by simp)) rfl KeepTo.refl hS
  · refine DoesG.plain rfl ?_
    have e15 : u 184 = (.bool false) := hd 15 (by decide)
    have e20 : u 189 = (.bool false) := hd 20 (by decide)
    exact step_value _ rfl (run_pickt _ _ false (false) (false) ((ein u 184 (by decide) (by omega)).trans e15) (fun _ => ((ein u 189 (by decide) (by omega)).trans e20)) rfl (Bool.false_or _)) rfl KeepTo.refl hS

def opsR43 : List Oper := [
  { dst := some 311, op := Op.move (Operand.tmp 28), type := 4, pos := "turns.go:104", after := #[], guard := none },
  { dst := some 312, op := Op.unOp UnOp.not 4 (Operand.tmp 311), type := 4, pos := "turns.go:104", after := #[{ on := 0, ground := Ground.data }], guard := none },
  { dst := some 313, op := Op.move (Operand.tmp 312), type := 4, pos := "turns.go:104", after := #[{ on := 1, ground := Ground.data }], guard := none },
  { dst := some 314, op := Op.move (Operand.tmp 31), type := 4, pos := "turns.go:104", after := #[{ on := 2, ground := Ground.guard }], guard := some (2, false) },
  { dst := some 315, op := Op.unOp UnOp.not 4 (Operand.tmp 314), type := 4, pos := "turns.go:104", after := #[{ on := 3, ground := Ground.data }, { on := 2, ground := Ground.guard }], guard := some (2, false) },
  { dst := some 316, op := Op.pick (Operand.tmp 313) (Operand.const (Value.bool true)) (Operand.tmp 315), type := 4, pos := "turns.go:104", after := #[{ on := 2, ground := Ground.data }, { on := 4, ground := Ground.data }], guard := none },
  { dst := some 317, op := Op.move (Operand.tmp 316), type := 4, pos := "turns.go:104", after := #[{ on := 5, ground := Ground.data }, { on := 2, ground := Ground.chain }], guard := none },
  { dst := some 318, op := Op.move (Operand.tmp 41), type := 32, pos := "turns.go:104", after := #[{ on := 6, ground := Ground.guard }], guard := some (6, false) },
  { dst := some 319, op := Op.binOp BinOp.neq 32 (Operand.tmp 318) (Operand.const (Value.int IntKind.i64 0)) 32, type := 4, pos := "turns.go:104", after := #[{ on := 7, ground := Ground.data }, { on := 6, ground := Ground.guard }], guard := some (6, false) },
  { dst := some 320, op := Op.pick (Operand.tmp 317) (Operand.const (Value.bool true)) (Operand.tmp 319), type := 4, pos := "turns.go:104", after := #[{ on := 6, ground := Ground.data }, { on := 8, ground := Ground.data }], guard := none },
  { dst := some 321, op := Op.move (Operand.tmp 320), type := 4, pos := "turns.go:104", after := #[{ on := 9, ground := Ground.data }, { on := 6, ground := Ground.chain }], guard := none },
  { dst := some 322, op := Op.move (Operand.tmp 33), type := 32, pos := "turns.go:104", after := #[{ on := 10, ground := Ground.guard }], guard := some (10, false) },
  { dst := some 323, op := Op.binOp BinOp.neq 32 (Operand.tmp 322) (Operand.const (Value.int IntKind.i64 0)) 32, type := 4, pos := "turns.go:104", after := #[{ on := 11, ground := Ground.data }, { on := 10, ground := Ground.guard }], guard := some (10, false) },
  { dst := some 324, op := Op.pick (Operand.tmp 321) (Operand.const (Value.bool true)) (Operand.tmp 323), type := 4, pos := "turns.go:104", after := #[{ on := 10, ground := Ground.data }, { on := 12, ground := Ground.data }], guard := none },
  { dst := some 325, op := Op.move (Operand.tmp 324), type := 4, pos := "turns.go:104", after := #[{ on := 13, ground := Ground.data }, { on := 10, ground := Ground.chain }], guard := none },
  { dst := some 326, op := Op.move (Operand.tmp 42), type := 4, pos := "turns.go:104", after := #[{ on := 14, ground := Ground.guard }], guard := some (14, false) },
  { dst := some 327, op := Op.unOp UnOp.not 4 (Operand.tmp 326), type := 4, pos := "turns.go:104", after := #[{ on := 15, ground := Ground.data }, { on := 14, ground := Ground.guard }], guard := some (14, false) },
  { dst := some 328, op := Op.pick (Operand.tmp 325) (Operand.const (Value.bool true)) (Operand.tmp 327), type := 4, pos := "turns.go:104", after := #[{ on := 14, ground := Ground.data }, { on := 16, ground := Ground.data }], guard := none },
  { dst := some 329, op := Op.move (Operand.tmp 328), type := 4, pos := "turns.go:104", after := #[{ on := 17, ground := Ground.data }, { on := 14, ground := Ground.chain }], guard := none },
  { dst := some 330, op := Op.move (Operand.tmp 32), type := 24, pos := "turns.go:104", after := #[{ on := 18, ground := Ground.guard }], guard := some (18, false) },
  { dst := some 331, op := Op.call { callee := Callee.builtin Builtin.len, args := #[Operand.tmp 330], argTypes := #[24] }, type := 3, pos := "turns.go:104", after := #[{ on := 19, ground := Ground.data }, { on := 18, ground := Ground.guard }], guard := some (18, false) },
  { dst := some 332, op := Op.move (Operand.tmp 25), type := 3, pos := "turns.go:104", after := #[{ on := 18, ground := Ground.guard }], guard := some (18, false) },
  { dst := some 333, op := Op.binOp BinOp.neq 3 (Operand.tmp 331) (Operand.tmp 332) 3, type := 4, pos := "turns.go:104", after := #[{ on := 20, ground := Ground.data }, { on := 21, ground := Ground.data }, { on := 18, ground := Ground.guard }], guard := some (18, false) },
  { dst := some 334, op := Op.pick (Operand.tmp 329) (Operand.const (Value.bool true)) (Operand.tmp 333), type := 4, pos := "turns.go:104", after := #[{ on := 18, ground := Ground.data }, { on := 22, ground := Ground.data }], guard := none }]
def dsR43 : List (Option Nat) := [some 311, some 312, some 313, some 314, some 315, some 316, some 317, some 318, some 319, some 320, some 321, some 322, some 323, some 324, some 325, some 326, some 327, some 328, some 329, some 330, some 331, some 332, some 333, some 334]
set_option maxRecDepth 10000 in
set_option maxHeartbeats 1000000 in
theorem ruled_r43 (a : Act) (Q : Exit → Act → World → Prop) (w : World) (id : Nat) (b o cp m : Nat) (hsz : 360 ≤ a.tmps.size)
    (h28 : a.eval (.tmp 28) = .bool true) (h31 : a.eval (.tmp 31) = .bool true) (h41 : a.eval (.tmp 41) = .int .i64 0) (h33 : a.eval (.tmp 33) = .int .i64 0) (h42 : a.eval (.tmp 42) = .bool true) (h32 : a.eval (.tmp 32) = .slice (some ⟨b, o, none⟩) m cp) (h25 : a.eval (.tmp 25) = .int .i64 (m : Int))
    
    (hend : ∀ u, u 334 = .bool false → Q .normal (over a dsR43 u) w) : (Code.region id opsR43.toArray false).wp Tryz.prog Q a w := by
  have ein : ∀ u k, some k ∈ dsR43 → k < 360 → (over a dsR43 u).eval (.tmp k) = u k := fun u k h1 h2 => eval_in a dsR43 u k h1 (by omega)
  have eout : ∀ u k, some k ∉ dsR43 → k < 360 → (over a dsR43 u).eval (.tmp k) = a.eval (.tmp k) := fun u k h1 h2 => eval_out a dsR43 u k h1 (by omega)
  have hB0 : ∃ B : Nat, B = 0 := ⟨0, rfl⟩
  obtain ⟨B, hB0⟩ := hB0
  refine wp_region_factsG dsR43 (fun _ W => W = w) (RF B [.val (.bool true), .val (.bool false), .val (.bool false), .val (.bool true), .val (.bool false), .val (.bool false), .val (.bool false), .val (.int .i64 0), .val (.bool false), .val (.bool false), .val (.bool false), .val (.int .i64 0), .val (.bool false), .val (.bool false), .val (.bool false), .val (.bool true), .val (.bool false), .val (.bool false), .val (.bool false), .val (.slice (some ⟨b, o, none⟩) m cp), .val (.int .i64 (m : Int)), .val (.int .i64 (m : Int)), .val (.bool false), .val (.bool false)]) (by decide) rfl rfl [true, true, true, true, true, true, true, true, true, true, true, true, true, true, true, true, true, true, true, true, true, true, true, true] ?_ (fun u W hS hR => by subst hS; exact hend u (hR 23 (by decide)))
  unfold opsR43
  refine StepAllG.cons rfl (fun u W hS hd => ?_) (StepAllG.cons rfl (fun u W hS hd => ?_) (StepAllG.cons rfl (fun u W hS hd => ?_) (StepAllG.cons rfl (fun u W hS hd => ?_) (StepAllG.cons rfl (fun u W hS hd => ?_) (StepAllG.cons rfl (fun u W hS hd => ?_) (StepAllG.cons rfl (fun u W hS hd => ?_) (StepAllG.cons rfl (fun u W hS hd => ?_) (StepAllG.cons rfl (fun u W hS hd => ?_) (StepAllG.cons rfl (fun u W hS hd => ?_) (StepAllG.cons rfl (fun u W hS hd => ?_) (StepAllG.cons rfl (fun u W hS hd => ?_) (StepAllG.cons rfl (fun u W hS hd => ?_) (StepAllG.cons rfl (fun u W hS hd => ?_) (StepAllG.cons rfl (fun u W hS hd => ?_) (StepAllG.cons rfl (fun u W hS hd => ?_) (StepAllG.cons rfl (fun u W hS hd => ?_) (StepAllG.cons rfl (fun u W hS hd => ?_) (StepAllG.cons rfl (fun u W hS hd => ?_) (StepAllG.cons rfl (fun u W hS hd => ?_) (StepAllG.cons rfl (fun u W hS hd => ?_) (StepAllG.cons rfl (fun u W hS hd => ?_) (StepAllG.cons rfl (fun u W hS hd => ?_) (StepAllG.cons rfl (fun u W hS hd => ?_) (trivial))))))))))))))))))))))))
  · refine DoesG.plain rfl ?_
    exact step_value _ rfl (run_move _) ((eout u 28 (by decide) (by omega)).trans h28) KeepTo.refl hS
  · refine DoesG.plain rfl ?_
    have e0 : u 311 = (.bool true) := hd 0 (by decide)
    exact step_value _ rfl (run_not _ true false ((ein u 311 (by decide) (by omega)).trans e0) rfl) rfl KeepTo.refl hS
  · refine DoesG.plain rfl ?_
    have e1 : u 312 = (.bool false) := hd 1 (by decide)
    exact step_value _ rfl (run_move _) ((ein u 312 (by decide) (by omega)).trans e1) KeepTo.refl hS
  · have e2 : u 313 = (.bool false) := hd 2 (by decide)
    refine DoesG.run (wanted_ff a dsR43 u 2 313 rfl rfl rfl (by decide) (by omega) e2) ?_
    exact step_value _ rfl (run_move _) ((eout u 31 (by decide) (by omega)).trans h31) KeepTo.refl hS
  · have e2 : u 313 = (.bool false) := hd 2 (by decide)
    refine DoesG.run (wanted_ff a dsR43 u 2 313 rfl rfl rfl (by decide) (by omega) e2) ?_
    have e3 : u 314 = (.bool true) := hd 3 (by decide)
    exact step_value _ rfl (run_not _ true false ((ein u 314 (by decide) (by omega)).trans e3) rfl) rfl KeepTo.refl hS
  · refine DoesG.plain rfl ?_
    have e2 : u 313 = (.bool false) := hd 2 (by decide)
    have e4 : u 315 = (.bool false) := hd 4 (by decide)
    exact step_value _ rfl (run_pickt _ _ false (false) (false) ((ein u 313 (by decide) (by omega)).trans e2) (fun _ => ((ein u 315 (by decide) (by omega)).trans e4)) rfl (Bool.false_or _)) rfl KeepTo.refl hS
  · refine DoesG.plain rfl ?_
    have e5 : u 316 = (.bool false) := hd 5 (by decide)
    exact step_value _ rfl (run_move _) ((ein u 316 (by decide) (by omega)).trans e5) KeepTo.refl hS
  · have e6 : u 317 = (.bool false) := hd 6 (by decide)
    refine DoesG.run (wanted_ff a dsR43 u 6 317 rfl rfl rfl (by decide) (by omega) e6) ?_
    exact step_value _ rfl (run_move _) ((eout u 41 (by decide) (by omega)).trans h41) KeepTo.refl hS
  · have e6 : u 317 = (.bool false) := hd 6 (by decide)
    refine DoesG.run (wanted_ff a dsR43 u 6 317 rfl rfl rfl (by decide) (by omega) e6) ?_
    have e7 : u 318 = (.int .i64 0) := hd 7 (by decide)
    exact step_value _ rfl (run_neE _ _ 0 0 false ((ein u 318 (by decide) (by omega)).trans e7) rfl rfl) rfl KeepTo.refl hS
  · refine DoesG.plain rfl ?_
    have e6 : u 317 = (.bool false) := hd 6 (by decide)
    have e8 : u 319 = (.bool false) := hd 8 (by decide)
    exact step_value _ rfl (run_pickt _ _ false (false) (false) ((ein u 317 (by decide) (by omega)).trans e6) (fun _ => ((ein u 319 (by decide) (by omega)).trans e8)) rfl (Bool.false_or _)) rfl KeepTo.refl hS
  · refine DoesG.plain rfl ?_
    have e9 : u 320 = (.bool false) := hd 9 (by decide)
    exact step_value _ rfl (run_move _) ((ein u 320 (by decide) (by omega)).trans e9) KeepTo.refl hS
  · have e10 : u 321 = (.bool false) := hd 10 (by decide)
    refine DoesG.run (wanted_ff a dsR43 u 10 321 rfl rfl rfl (by decide) (by omega) e10) ?_
    exact step_value _ rfl (run_move _) ((eout u 33 (by decide) (by omega)).trans h33) KeepTo.refl hS
  · have e10 : u 321 = (.bool false) := hd 10 (by decide)
    refine DoesG.run (wanted_ff a dsR43 u 10 321 rfl rfl rfl (by decide) (by omega) e10) ?_
    have e11 : u 322 = (.int .i64 0) := hd 11 (by decide)
    exact step_value _ rfl (run_neE _ _ 0 0 false ((ein u 322 (by decide) (by omega)).trans e11) rfl rfl) rfl KeepTo.refl hS
  · refine DoesG.plain rfl ?_
    have e10 : u 321 = (.bool false) := hd 10 (by decide)
    have e12 : u 323 = (.bool false) := hd 12 (by decide)
    exact step_value _ rfl (run_pickt _ _ false (false) (false) ((ein u 321 (by decide) (by omega)).trans e10) (fun _ => ((ein u 323 (by decide) (by omega)).trans e12)) rfl (Bool.false_or _)) rfl KeepTo.refl hS
  · refine DoesG.plain rfl ?_
    have e13 : u 324 = (.bool false) := hd 13 (by decide)
    exact step_value _ rfl (run_move _) ((ein u 324 (by decide) (by omega)).trans e13) KeepTo.refl hS
  · have e14 : u 325 = (.bool false) := hd 14 (by decide)
    refine DoesG.run (wanted_ff a dsR43 u 14 325 rfl rfl rfl (by decide) (by omega) e14) ?_
    exact step_value _ rfl (run_move _) ((eout u 42 (by decide) (by omega)).trans h42) KeepTo.refl hS
  · have e14 : u 325 = (.bool false) := hd 14 (by decide)
    refine DoesG.run (wanted_ff a dsR43 u 14 325 rfl rfl rfl (by decide) (by omega) e14) ?_
    have e15 : u 326 = (.bool true) := hd 15 (by decide)
    exact step_value _ rfl (run_not _ true false ((ein u 326 (by decide) (by omega)).trans e15) rfl) rfl KeepTo.refl hS
  · refine DoesG.plain rfl ?_
    have e14 : u 325 = (.bool false) := hd 14 (by decide)
    have e16 : u 327 = (.bool false) := hd 16 (by decide)
    exact step_value _ rfl (run_pickt _ _ false (false) (false) ((ein u 325 (by decide) (by omega)).trans e14) (fun _ => ((ein u 327 (by decide) (by omega)).trans e16)) rfl (Bool.false_or _)) rfl KeepTo.refl hS
  · refine DoesG.plain rfl ?_
    have e17 : u 328 = (.bool false) := hd 17 (by decide)
    exact step_value _ rfl (run_move _) ((ein u 328 (by decide) (by omega)).trans e17) KeepTo.refl hS
  · have e18 : u 329 = (.bool false) := hd 18 (by decide)
    refine DoesG.run (wanted_ff a dsR43 u 18 329 rfl rfl rfl (by decide) (by omega) e18) ?_
    exact step_value _ rfl (run_move _) ((eout u 32 (by decide) (by omega)).trans h32) KeepTo.refl hS
  · have e18 : u 329 = (.bool false) := hd 18 (by decide)
    refine DoesG.run (wanted_ff a dsR43 u 18 329 rfl rfl rfl (by decide) (by omega) e18) ?_
    have e19 : u 330 = (.slice (some ⟨b, o, none⟩) m cp) := hd 19 (by decide)
    exact step_value _ rfl (run_lenI _ _ m cp ((ein u 330 (by decide) (by omega)).trans e19)) rfl KeepTo.refl hS
  · have e18 : u 329 = (.bool false) := hd 18 (by decide)
    refine DoesG.run (wanted_ff a dsR43 u 18 329 rfl rfl rfl (by decide) (by omega) e18) ?_
    exact step_value _ rfl (run_move _) ((eout u 25 (by decide) (by omega)).trans h25) KeepTo.refl hS
  · have e18 : u 329 = (.bool false) := hd 18 (by decide)
    refine DoesG.run (wanted_ff a dsR43 u 18 329 rfl rfl rfl (by decide) (by omega) e18) ?_
    have e20 : u 331 = (.int .i64 (m : Int)) := hd 20 (by decide)
    have e21 : u 332 = (.int .i64 (m : Int)) := hd 21 (by decide)
    exact step_value _ rfl (run_neI _ _ (m : Int) (m : Int) false ((ein u 331 (by decide) (by omega)).trans e20) ((ein u 332 (by decide) (by omega)).trans e21) (by simp)) rfl KeepTo.refl hS
  · refine DoesG.plain rfl ?_
    have e18 : u 329 = (.bool false) := hd 18 (by decide)
    have e22 : u 333 = (.bool false) := hd 22 (by decide)
    exact step_value _ rfl (run_pickt _ _ false (false) (false) ((ein u 329 (by decide) (by omega)).trans e18) (fun _ => ((ein u 333 (by decide) (by omega)).trans e22)) rfl (Bool.false_or _)) rfl KeepTo.refl hS

def opsR37 : List Oper := [
  { dst := some 279, op := Op.move (Operand.tmp 40), type := 37, pos := "turns.go:97", after := #[], guard := none },
  { dst := some 280, op := Op.call { callee := Callee.builtin Builtin.len, args := #[Operand.tmp 279], argTypes := #[37] }, type := 3, pos := "turns.go:97", after := #[{ on := 0, ground := Ground.data }], guard := none },
  { dst := some 281, op := Op.binOp BinOp.eql 3 (Operand.tmp 280) (Operand.const (Value.int IntKind.i64 2)) 3, type := 4, pos := "turns.go:97", after := #[{ on := 1, ground := Ground.data }], guard := none },
  { dst := some 282, op := Op.move (Operand.tmp 281), type := 4, pos := "turns.go:97", after := #[{ on := 2, ground := Ground.data }], guard := none },
  { dst := some 283, op := Op.move (Operand.tmp 40), type := 37, pos := "turns.go:97", after := #[{ on := 3, ground := Ground.guard }], guard := some (3, true) },
  { dst := some 284, op := Op.indexAddr 37 (Operand.tmp 283) (Operand.const (Value.int IntKind.i64 0)), type := 0, pos := "turns.go:97", after := #[{ on := 4, ground := Ground.data }, { on := 3, ground := Ground.guard }], guard := some (3, true) },
  { dst := some 285, op := Op.load 5 (Operand.tmp 284), type := 5, pos := "turns.go:97", after := #[{ on := 5, ground := Ground.data }, { on := 3, ground := Ground.guard }], guard := some (3, true) },
  { dst := some 286, op := Op.binOp BinOp.eql 5 (Operand.tmp 285) (Operand.const (Value.int IntKind.u8 151)) 5, type := 4, pos := "turns.go:97", after := #[{ on := 6, ground := Ground.data }, { on := 3, ground := Ground.guard }], guard := some (3, true) },
  { dst := some 287, op := Op.pick (Operand.tmp 282) (Operand.tmp 286) (Operand.const (Value.bool false)), type := 4, pos := "turns.go:97", after := #[{ on := 3, ground := Ground.data }, { on := 7, ground := Ground.data }], guard := none },
  { dst := some 288, op := Op.move (Operand.tmp 287), type := 4, pos := "turns.go:97", after := #[{ on := 8, ground := Ground.data }, { on := 3, ground := Ground.chain }], guard := none },
  { dst := some 289, op := Op.move (Operand.tmp 40), type := 37, pos := "turns.go:97", after := #[{ on := 9, ground := Ground.guard }], guard := some (9, true) },
  { dst := some 290, op := Op.indexAddr 37 (Operand.tmp 289) (Operand.const (Value.int IntKind.i64 1)), type := 0, pos := "turns.go:97", after := #[{ on := 10, ground := Ground.data }, { on := 9, ground := Ground.guard }], guard := some (9, true) },
  { dst := some 291, op := Op.load 5 (Operand.tmp 290), type := 5, pos := "turns.go:97", after := #[{ on := 11, ground := Ground.data }, { on := 9, ground := Ground.guard }], guard := some (9, true) },
  { dst := some 292, op := Op.binOp BinOp.eql 5 (Operand.tmp 291) (Operand.const (Value.int IntKind.u8 4)) 5, type := 4, pos := "turns.go:97", after := #[{ on := 12, ground := Ground.data }, { on := 9, ground := Ground.guard }], guard := some (9, true) },
  { dst := some 293, op := Op.pick (Operand.tmp 288) (Operand.tmp 292) (Operand.const (Value.bool false)), type := 4, pos := "turns.go:97", after := #[{ on := 9, ground := Ground.data }, { on := 13, ground := Ground.data }], guard := none },
  { dst := some 42, op := Op.assign (Operand.tmp 293), type := 4, pos := "turns.go:97", after := #[{ on := 14, ground := Ground.data }, { on := 9, ground := Ground.chain }, { on := 0, ground := Ground.phase }, { on := 1, ground := Ground.phase }, { on := 2, ground := Ground.phase }, { on := 3, ground := Ground.phase }, { on := 4, ground := Ground.phase }, { on := 5, ground := Ground.phase }, { on := 6, ground := Ground.phase }, { on := 7, ground := Ground.phase }, { on := 8, ground := Ground.phase }, { on := 9, ground := Ground.phase }, { on := 10, ground := Ground.phase }, { on := 11, ground := Ground.phase }, { on := 12, ground := Ground.phase }, { on := 13, ground := Ground.phase }, { on := 14, ground := Ground.phase }], guard := none }]
def dsR37 : List (Option Nat) := [some 279, some 280, some 281, some 282, some 283, some 284, some 285, some 286, some 287, some 288, some 289, some 290, some 291, some 292, some 293, some 42]
set_option maxRecDepth 10000 in
set_option maxHeartbeats 1000000 in
theorem ruled_r37 (a : Act) (Q : Exit → Act → World → Prop) (w : World) (id : Nat) (b o cp n8 : Nat) (f0 f1 : Int) (d1 d2 d3 : Bool) (hsz : 360 ≤ a.tmps.size)
    (h8 : 2 ≤ n8) (h40 : a.eval (.tmp 40) = .slice (some ⟨b, o, none⟩) n8 cp) (c0 : w.cell? ⟨b, o + 0, none⟩ = some (.int .u8 f0)) (c1 : w.cell? ⟨b, o + 1, none⟩ = some (.int .u8 f1)) (q1 : ((n8 : Int) == 2) = d1) (q2 : (f0 == 151) = d2) (q3 : (f1 == 4) = d3)
    
    (hend : ∀ u, u 42 = .bool (d1 && d2 && d3) → Q .normal (over a dsR37 u) w) : (Code.region id opsR37.toArray false).wp Tryz.prog Q a w := by
  have ein : ∀ u k, some k ∈ dsR37 → k < 360 → (over a dsR37 u).eval (.tmp k) = u k := fun u k h1 h2 => eval_in a dsR37 u k h1 (by omega)
  have eout : ∀ u k, some k ∉ dsR37 → k < 360 → (over a dsR37 u).eval (.tmp k) = a.eval (.tmp k) := fun u k h1 h2 => eval_out a dsR37 u k h1 (by omega)
  have hB0 : ∃ B : Nat, B = 0 := ⟨0, rfl⟩
  obtain ⟨B, hB0⟩ := hB0
  cases d1 with
  | true =>
    cases d2 with
    | true =>
      refine wp_region_factsG dsR37 (fun _ W => W = w) (RF B [.val (.slice (some ⟨b, o, none⟩) n8 cp), .val (.int .i64 (n8 : Int)), .val (.bool true), .val (.bool true), .val (.slice (some ⟨b, o, none⟩) n8 cp), .val (.pointer (some ⟨b, o + 0, none⟩)), .val (.int .u8 f0), .val (.bool true), .val (.bool true), .val (.bool true), .val (.slice (some ⟨b, o, none⟩) n8 cp), .val (.pointer (some ⟨b, o + 1, none⟩)), .val (.int .u8 f1), .val (.bool d3), .val (.bool d3), .val (.bool d3)]) (by decide) rfl rfl [true, true, true, true, true, true, true, true, true, true, true, true, true, true, true, true] ?_ (fun u W hS hR => by subst hS; exact hend u (hR 15 (by decide)))
      unfold opsR37
      refine StepAllG.cons rfl (fun u W hS hd => ?_) (StepAllG.cons rfl (fun u W hS hd => ?_) (StepAllG.cons rfl (fun u W hS hd => ?_) (StepAllG.cons rfl (fun u W hS hd => ?_) (StepAllG.cons rfl (fun u W hS hd => ?_) (StepAllG.cons rfl (fun u W hS hd => ?_) (StepAllG.cons rfl (fun u W hS hd => ?_) (StepAllG.cons rfl (fun u W hS hd => ?_) (StepAllG.cons rfl (fun u W hS hd => ?_) (StepAllG.cons rfl (fun u W hS hd => ?_) (StepAllG.cons rfl (fun u W hS hd => ?_) (StepAllG.cons rfl (fun u W hS hd => ?_) (StepAllG.cons rfl (fun u W hS hd => ?_) (StepAllG.cons rfl (fun u W hS hd => ?_) (StepAllG.cons rfl (fun u W hS hd => ?_) (StepAllG.cons rfl (fun u W hS hd => ?_) (trivial))))))))))))))))
      · refine DoesG.plain rfl ?_
        exact step_value _ rfl (run_move _) ((eout u 40 (by decide) (by omega)).trans h40) KeepTo.refl hS
      · refine DoesG.plain rfl ?_
        have e0 : u 279 = (.slice (some ⟨b, o, none⟩) n8 cp) := hd 0 (by decide)
        exact step_value _ rfl (run_len _ _ n8 cp ((ein u 279 (by decide) (by omega)).trans e0)) rfl KeepTo.refl hS
      · refine DoesG.plain rfl ?_
        have e1 : u 280 = (.int .i64 (n8 : Int)) := hd 1 (by decide)
        exact step_value _ rfl (run_eqI _ _ (n8 : Int) 2 true ((ein u 280 (by decide) (by omega)).trans e1) rfl q1) rfl KeepTo.refl hS
      · refine DoesG.plain rfl ?_
        have e2 : u 281 = (.bool true) := hd 2 (by decide)
        exact step_value _ rfl (run_move _) ((ein u 281 (by decide) (by omega)).trans e2) KeepTo.refl hS
      · have e3 : u 282 = (.bool true) := hd 3 (by decide)
        refine DoesG.run (wanted_tt a dsR37 u 3 282 rfl rfl rfl (by decide) (by omega) e3) ?_
        exact step_value _ rfl (run_move _) ((eout u 40 (by decide) (by omega)).trans h40) KeepTo.refl hS
      · have e3 : u 282 = (.bool true) := hd 3 (by decide)
        refine DoesG.run (wanted_tt a dsR37 u 3 282 rfl rfl rfl (by decide) (by omega) e3) ?_
        have e4 : u 283 = (.slice (some ⟨b, o, none⟩) n8 cp) := hd 4 (by decide)
        exact step_value _ rfl (run_idxB _ _ b o n8 cp 0 ((ein u 283 (by decide) (by omega)).trans e4) rfl (by omega)) rfl KeepTo.refl hS
      · have e3 : u 282 = (.bool true) := hd 3 (by decide)
        refine DoesG.run (wanted_tt a dsR37 u 3 282 rfl rfl rfl (by decide) (by omega) e3) ?_
        have e5 : u 284 = (.pointer (some ⟨b, o + 0, none⟩)) := hd 5 (by decide)
        exact step_value _ rfl (run_loadB _ b (o + 0) f0 ((ein u 284 (by decide) (by omega)).trans e5) (by rw [hS]; exact c0)) rfl KeepTo.refl hS
      · have e3 : u 282 = (.bool true) := hd 3 (by decide)
        refine DoesG.run (wanted_tt a dsR37 u 3 282 rfl rfl rfl (by decide) (by omega) e3) ?_
        have e6 : u 285 = (.int .u8 f0) := hd 6 (by decide)
        exact step_value _ rfl (run_eq8 _ _ f0 151 true ((ein u 285 (by decide) (by omega)).trans e6) rfl q2) rfl KeepTo.refl hS
      · refine DoesG.plain rfl ?_
        have e3 : u 282 = (.bool true) := hd 3 (by decide)
        have e7 : u 286 = (.bool true) := hd 7 (by decide)
        exact step_value _ rfl (run_pickg _ _ true (true) (true) ((ein u 282 (by decide) (by omega)).trans e3) (fun _ => ((ein u 286 (by decide) (by omega)).trans e7)) rfl (Bool.true_and _)) rfl KeepTo.refl hS
      · refine DoesG.plain rfl ?_
        have e8 : u 287 = (.bool true) := hd 8 (by decide)
        exact step_value _ rfl (run_move _) ((ein u 287 (by decide) (by omega)).trans e8) KeepTo.refl hS
      · have e9 : u 288 = (.bool true) := hd 9 (by decide)
        refine DoesG.run (wanted_tt a dsR37 u 9 288 rfl rfl rfl (by decide) (by omega) e9) ?_
        exact step_value _ rfl (run_move _) ((eout u 40 (by decide) (by omega)).trans h40) KeepTo.refl hS
      · have e9 : u 288 = (.bool true) := hd 9 (by decide)
        refine DoesG.run (wanted_tt a dsR37 u 9 288 rfl rfl rfl (by decide) (by omega) e9) ?_
        have e10 : u 289 = (.slice (some ⟨b, o, none⟩) n8 cp) := hd 10 (by decide)
        exact step_value _ rfl (run_idxB _ _ b o n8 cp 1 ((ein u 289 (by decide) (by omega)).trans e10) rfl (by omega)) rfl KeepTo.refl hS
      · have e9 : u 288 = (.bool true) := hd 9 (by decide)
        refine DoesG.run (wanted_tt a dsR37 u 9 288 rfl rfl rfl (by decide) (by omega) e9) ?_
        have e11 : u 290 = (.pointer (some ⟨b, o + 1, none⟩)) := hd 11 (by decide)
        exact step_value _ rfl (run_loadB _ b (o + 1) f1 ((ein u 290 (by decide) (by omega)).trans e11) (by rw [hS]; exact c1)) rfl KeepTo.refl hS
      · have e9 : u 288 = (.bool true) := hd 9 (by decide)
        refine DoesG.run (wanted_tt a dsR37 u 9 288 rfl rfl rfl (by decide) (by omega) e9) ?_
        have e12 : u 291 = (.int .u8 f1) := hd 12 (by decide)
        exact step_value _ rfl (run_eq8 _ _ f1 4 d3 ((ein u 291 (by decide) (by omega)).trans e12) rfl q3) rfl KeepTo.refl hS
      · refine DoesG.plain rfl ?_
        have e9 : u 288 = (.bool true) := hd 9 (by decide)
        have e13 : u 292 = (.bool d3) := hd 13 (by decide)
        exact step_value _ rfl (run_pickg _ _ true (d3) (d3) ((ein u 288 (by decide) (by omega)).trans e9) (fun _ => ((ein u 292 (by decide) (by omega)).trans e13)) rfl (Bool.true_and _)) rfl KeepTo.refl hS
      · refine DoesG.plain rfl ?_
        have e14 : u 293 = (.bool d3) := hd 14 (by decide)
        exact step_value _ rfl (run_assign _) ((ein u 293 (by decide) (by omega)).trans e14) KeepTo.refl hS
    | false =>
      refine wp_region_factsG dsR37 (fun _ W => W = w) (RF B [.val (.slice (some ⟨b, o, none⟩) n8 cp), .val (.int .i64 (n8 : Int)), .val (.bool true), .val (.bool true), .val (.slice (some ⟨b, o, none⟩) n8 cp), .val (.pointer (some ⟨b, o + 0, none⟩)), .val (.int .u8 f0), .val (.bool false), .val (.bool false), .val (.bool false), .any, .any, .any, .any, .val (.bool false), .val (.bool false)]) (by decide) rfl rfl [true, true, true, true, true, true, true, true, true, true, false, false, false, false, true, true] ?_ (fun u W hS hR => by subst hS; exact hend u (hR 15 (by decide)))
      unfold opsR37
      refine StepAllG.cons rfl (fun u W hS hd => ?_) (StepAllG.cons rfl (fun u W hS hd => ?_) (StepAllG.cons rfl (fun u W hS hd => ?_) (StepAllG.cons rfl (fun u W hS hd => ?_) (StepAllG.cons rfl (fun u W hS hd => ?_) (StepAllG.cons rfl (fun u W hS hd => ?_) (StepAllG.cons rfl (fun u W hS hd => ?_) (StepAllG.cons rfl (fun u W hS hd => ?_) (StepAllG.cons rfl (fun u W hS hd => ?_) (StepAllG.cons rfl (fun u W hS hd => ?_) (StepAllG.cons rfl (fun u W hS hd => ?_) (StepAllG.cons rfl (fun u W hS hd => ?_) (StepAllG.cons rfl (fun u W hS hd => ?_) (StepAllG.cons rfl (fun u W hS hd => ?_) (StepAllG.cons rfl (fun u W hS hd => ?_) (StepAllG.cons rfl (fun u W hS hd => ?_) (trivial))))))))))))))))
      · refine DoesG.plain rfl ?_
        exact step_value _ rfl (run_move _) ((eout u 40 (by decide) (by omega)).trans h40) KeepTo.refl hS
      · refine DoesG.plain rfl ?_
        have e0 : u 279 = (.slice (some ⟨b, o, none⟩) n8 cp) := hd 0 (by decide)
        exact step_value _ rfl (run_len _ _ n8 cp ((ein u 279 (by decide) (by omega)).trans e0)) rfl KeepTo.refl hS
      · refine DoesG.plain rfl ?_
        have e1 : u 280 = (.int .i64 (n8 : Int)) := hd 1 (by decide)
        exact step_value _ rfl (run_eqI _ _ (n8 : Int) 2 true ((ein u 280 (by decide) (by omega)).trans e1) rfl q1) rfl KeepTo.refl hS
      · refine DoesG.plain rfl ?_
        have e2 : u 281 = (.bool true) := hd 2 (by decide)
        exact step_value _ rfl (run_move _) ((ein u 281 (by decide) (by omega)).trans e2) KeepTo.refl hS
      · have e3 : u 282 = (.bool true) := hd 3 (by decide)
        refine DoesG.run (wanted_tt a dsR37 u 3 282 rfl rfl rfl (by decide) (by omega) e3) ?_
        exact step_value _ rfl (run_move _) ((eout u 40 (by decide) (by omega)).trans h40) KeepTo.refl hS
      · have e3 : u 282 = (.bool true) := hd 3 (by decide)
        refine DoesG.run (wanted_tt a dsR37 u 3 282 rfl rfl rfl (by decide) (by omega) e3) ?_
        have e4 : u 283 = (.slice (some ⟨b, o, none⟩) n8 cp) := hd 4 (by decide)
        exact step_value _ rfl (run_idxB _ _ b o n8 cp 0 ((ein u 283 (by decide) (by omega)).trans e4) rfl (by omega)) rfl KeepTo.refl hS
      · have e3 : u 282 = (.bool true) := hd 3 (by decide)
        refine DoesG.run (wanted_tt a dsR37 u 3 282 rfl rfl rfl (by decide) (by omega) e3) ?_
        have e5 : u 284 = (.pointer (some ⟨b, o + 0, none⟩)) := hd 5 (by decide)
        exact step_value _ rfl (run_loadB _ b (o + 0) f0 ((ein u 284 (by decide) (by omega)).trans e5) (by rw [hS]; exact c0)) rfl KeepTo.refl hS
      · have e3 : u 282 = (.bool true) := hd 3 (by decide)
        refine DoesG.run (wanted_tt a dsR37 u 3 282 rfl rfl rfl (by decide) (by omega) e3) ?_
        have e6 : u 285 = (.int .u8 f0) := hd 6 (by decide)
        exact step_value _ rfl (run_eq8 _ _ f0 151 false ((ein u 285 (by decide) (by omega)).trans e6) rfl q2) rfl KeepTo.refl hS
      · refine DoesG.plain rfl ?_
        have e3 : u 282 = (.bool true) := hd 3 (by decide)
        have e7 : u 286 = (.bool false) := hd 7 (by decide)
        exact step_value _ rfl (run_pickg _ _ true (false) (false) ((ein u 282 (by decide) (by omega)).trans e3) (fun _ => ((ein u 286 (by decide) (by omega)).trans e7)) rfl (Bool.true_and _)) rfl KeepTo.refl hS
      · refine DoesG.plain rfl ?_
        have e8 : u 287 = (.bool false) := hd 8 (by decide)
        exact step_value _ rfl (run_move _) ((ein u 287 (by decide) (by omega)).trans e8) KeepTo.refl hS
      · have e9 : u 288 = (.bool false) := hd 9 (by decide)
        exact DoesG.pass (wanted_tf a dsR37 u 9 288 rfl rfl rfl (by decide) (by omega) e9) trivial hS
      · have e9 : u 288 = (.bool false) := hd 9 (by decide)
        exact DoesG.pass (wanted_tf a dsR37 u 9 288 rfl rfl rfl (by decide) (by omega) e9) trivial hS
      · have e9 : u 288 = (.bool false) := hd 9 (by decide)
        exact DoesG.pass (wanted_tf a dsR37 u 9 288 rfl rfl rfl (by decide) (by omega) e9) trivial hS
      · have e9 : u 288 = (.bool false) := hd 9 (by decide)
        exact DoesG.pass (wanted_tf a dsR37 u 9 288 rfl rfl rfl (by decide) (by omega) e9) trivial hS
      · refine DoesG.plain rfl ?_
        have e9 : u 288 = (.bool false) := hd 9 (by decide)
        exact step_value _ rfl (run_pickg _ _ false false false ((ein u 288 (by decide) (by omega)).trans e9) (fun h => by cases h) rfl rfl) rfl KeepTo.refl hS
      · refine DoesG.plain rfl ?_
        have e14 : u 293 = (.bool false) := hd 14 (by decide)
        exact step_value _ rfl (run_assign _) ((ein u 293 (by decide) (by omega)).trans e14) KeepTo.refl hS
  | false =>
    refine wp_region_factsG dsR37 (fun _ W => W = w) (RF B [.val (.slice (some ⟨b, o, none⟩) n8 cp), .val (.int .i64 (n8 : Int)), .val (.bool false), .val (.bool false), .any, .any, .any, .any, .val (.bool false), .val (.bool false), .any, .any, .any, .any, .val (.bool false), .val (.bool false)]) (by decide) rfl rfl [true, true, true, true, false, false, false, false, true, true, false, false, false, false, true, true] ?_ (fun u W hS hR => by subst hS; exact hend u (hR 15 (by decide)))
    unfold opsR37
    refine StepAllG.cons rfl (fun u W hS hd => ?_) (StepAllG.cons rfl (fun u W hS hd => ?_) (StepAllG.cons rfl (fun u W hS hd => ?_) (StepAllG.cons rfl (fun u W hS hd => ?_) (StepAllG.cons rfl (fun u W hS hd => ?_) (StepAllG.cons rfl (fun u W hS hd => ?_) (StepAllG.cons rfl (fun u W hS hd => ?_) (StepAllG.cons rfl (fun u W hS hd => ?_) (StepAllG.cons rfl (fun u W hS hd => ?_) (StepAllG.cons rfl (fun u W hS hd => ?_) (StepAllG.cons rfl (fun u W hS hd => ?_) (StepAllG.cons rfl (fun u W hS hd => ?_) (StepAllG.cons rfl (fun u W hS hd => ?_) (StepAllG.cons rfl (fun u W hS hd => ?_) (StepAllG.cons rfl (fun u W hS hd => ?_) (StepAllG.cons rfl (fun u W hS hd => ?_) (trivial))))))))))))))))
    · refine DoesG.plain rfl ?_
      exact step_value _ rfl (run_move _) ((eout u 40 (by decide) (by omega)).trans h40) KeepTo.refl hS
    · refine DoesG.plain rfl ?_
      have e0 : u 279 = (.slice (some ⟨b, o, none⟩) n8 cp) := hd 0 (by decide)
      exact step_value _ rfl (run_len _ _ n8 cp ((ein u 279 (by decide) (by omega)).trans e0)) rfl KeepTo.refl hS
    · refine DoesG.plain rfl ?_
      have e1 : u 280 = (.int .i64 (n8 : Int)) := hd 1 (by decide)
      exact step_value _ rfl (run_eqI _ _ (n8 : Int) 2 false ((ein u 280 (by decide) (by omega)).trans e1) rfl q1) rfl KeepTo.refl hS
    · refine DoesG.plain rfl ?_
      have e2 : u 281 = (.bool false) := hd 2 (by decide)
      exact step_value _ rfl (run_move _) ((ein u 281 (by decide) (by omega)).trans e2) KeepTo.refl hS
    · have e3 : u 282 = (.bool false) := hd 3 (by decide)
      exact DoesG.pass (wanted_tf a dsR37 u 3 282 rfl rfl rfl (by decide) (by omega) e3) trivial hS
    · have e3 : u 282 = (.bool false) := hd 3 (by decide)
      exact DoesG.pass (wanted_tf a dsR37 u 3 282 rfl rfl rfl (by decide) (by omega) e3) trivial hS
    · have e3 : u 282 = (.bool false) := hd 3 (by decide)
      exact DoesG.pass (wanted_tf a dsR37 u 3 282 rfl rfl rfl (by decide) (by omega) e3) trivial hS
    · have e3 : u 282 = (.bool false) := hd 3 (by decide)
      exact DoesG.pass (wanted_tf a dsR37 u 3 282 rfl rfl rfl (by decide) (by omega) e3) trivial hS
    · refine DoesG.plain rfl ?_
      have e3 : u 282 = (.bool false) := hd 3 (by decide)
      exact step_value _ rfl (run_pickg _ _ false false false ((ein u 282 (by decide) (by omega)).trans e3) (fun h => by cases h) rfl rfl) rfl KeepTo.refl hS
    · refine DoesG.plain rfl ?_
      have e8 : u 287 = (.bool false) := hd 8 (by decide)
      exact step_value _ rfl (run_move _) ((ein u 287 (by decide) (by omega)).trans e8) KeepTo.refl hS
    · have e9 : u 288 = (.bool false) := hd 9 (by decide)
      exact DoesG.pass (wanted_tf a dsR37 u 9 288 rfl rfl rfl (by decide) (by omega) e9) trivial hS
    · have e9 : u 288 = (.bool false) := hd 9 (by decide)
      exact DoesG.pass (wanted_tf a dsR37 u 9 288 rfl rfl rfl (by decide) (by omega) e9) trivial hS
    · have e9 : u 288 = (.bool false) := hd 9 (by decide)
      exact DoesG.pass (wanted_tf a dsR37 u 9 288 rfl rfl rfl (by decide) (by omega) e9) trivial hS
    · have e9 : u 288 = (.bool false) := hd 9 (by decide)
      exact DoesG.pass (wanted_tf a dsR37 u 9 288 rfl rfl rfl (by decide) (by omega) e9) trivial hS
    · refine DoesG.plain rfl ?_
      have e9 : u 288 = (.bool false) := hd 9 (by decide)
      exact step_value _ rfl (run_pickg _ _ false false false ((ein u 288 (by decide) (by omega)).trans e9) (fun h => by cases h) rfl rfl) rfl KeepTo.refl hS
    · refine DoesG.plain rfl ?_
      have e14 : u 293 = (.bool false) := hd 14 (by decide)
      exact step_value _ rfl (run_assign _) ((ein u 293 (by decide) (by omega)).trans e14) KeepTo.refl hS

def opsR39 : List Oper := [
  { dst := some 294, op := Op.move (Operand.tmp 26), type := 4, pos := "turns.go:99", after := #[], guard := none },
  { dst := some 295, op := Op.move (Operand.tmp 294), type := 4, pos := "turns.go:99", after := #[{ on := 0, ground := Ground.data }], guard := none },
  { dst := some 296, op := Op.move (Operand.tmp 27), type := 4, pos := "turns.go:99", after := #[{ on := 1, ground := Ground.guard }], guard := some (1, true) },
  { dst := some 297, op := Op.pick (Operand.tmp 295) (Operand.tmp 296) (Operand.const (Value.bool false)), type := 4, pos := "turns.go:99", after := #[{ on := 1, ground := Ground.data }, { on := 2, ground := Ground.data }], guard := none }]
def dsR39 : List (Option Nat) := [some 294, some 295, some 296, some 297]
set_option maxRecDepth 10000 in
set_option maxHeartbeats 1000000 in
theorem ruled_r39 (a : Act) (Q : Exit → Act → World → Prop) (w : World) (id : Nat) (o b : Bool) (hsz : 360 ≤ a.tmps.size)
    (h26 : a.eval (.tmp 26) = .bool o) (h27 : a.eval (.tmp 27) = .bool b)
    
    (hend : ∀ u, u 297 = .bool (o && b) → Q .normal (over a dsR39 u) w) : (Code.region id opsR39.toArray false).wp Tryz.prog Q a w := by
  have ein : ∀ u k, some k ∈ dsR39 → k < 360 → (over a dsR39 u).eval (.tmp k) = u k := fun u k h1 h2 => eval_in a dsR39 u k h1 (by omega)
  have eout : ∀ u k, some k ∉ dsR39 → k < 360 → (over a dsR39 u).eval (.tmp k) = a.eval (.tmp k) := fun u k h1 h2 => eval_out a dsR39 u k h1 (by omega)
  have hB0 : ∃ B : Nat, B = 0 := ⟨0, rfl⟩
  obtain ⟨B, hB0⟩ := hB0
  cases o with
  | true =>
    refine wp_region_factsG dsR39 (fun _ W => W = w) (RF B [.val (.bool true), .val (.bool true), .val (.bool b), .val (.bool b)]) (by decide) rfl rfl [true, true, true, true] ?_ (fun u W hS hR => by subst hS; exact hend u (hR 3 (by decide)))
    unfold opsR39
    refine StepAllG.cons rfl (fun u W hS hd => ?_) (StepAllG.cons rfl (fun u W hS hd => ?_) (StepAllG.cons rfl (fun u W hS hd => ?_) (StepAllG.cons rfl (fun u W hS hd => ?_) (trivial))))
    · refine DoesG.plain rfl ?_
      exact step_value _ rfl (run_move _) ((eout u 26 (by decide) (by omega)).trans h26) KeepTo.refl hS
    · refine DoesG.plain rfl ?_
      have e0 : u 294 = (.bool true) := hd 0 (by decide)
      exact step_value _ rfl (run_move _) ((ein u 294 (by decide) (by omega)).trans e0) KeepTo.refl hS
    · have e1 : u 295 = (.bool true) := hd 1 (by decide)
      refine DoesG.run (wanted_tt a dsR39 u 1 295 rfl rfl rfl (by decide) (by omega) e1) ?_
      exact step_value _ rfl (run_move _) ((eout u 27 (by decide) (by omega)).trans h27) KeepTo.refl hS
    · refine DoesG.plain rfl ?_
      have e1 : u 295 = (.bool true) := hd 1 (by decide)
      have e2 : u 296 = (.bool b) := hd 2 (by decide)
      exact step_value _ rfl (run_pickg _ _ true (b) (b) ((ein u 295 (by decide) (by omega)).trans e1) (fun _ => ((ein u 296 (by decide) (by omega)).trans e2)) rfl (Bool.true_and _)) rfl KeepTo.refl hS
  | false =>
    refine wp_region_factsG dsR39 (fun _ W => W = w) (RF B [.val (.bool false), .val (.bool false), .any, .val (.bool false)]) (by decide) rfl rfl [true, true, false, true] ?_ (fun u W hS hR => by subst hS; exact hend u (hR 3 (by decide)))
    unfold opsR39
    refine StepAllG.cons rfl (fun u W hS hd => ?_) (StepAllG.cons rfl (fun u W hS hd => ?_) (StepAllG.cons rfl (fun u W hS hd => ?_) (StepAllG.cons rfl (fun u W hS hd => ?_) (trivial))))
    · refine DoesG.plain rfl ?_
      exact step_value _ rfl (run_move _) ((eout u 26 (by decide) (by omega)).trans h26) KeepTo.refl hS
    · refine DoesG.plain rfl ?_
      have e0 : u 294 = (.bool false) := hd 0 (by decide)
      exact step_value _ rfl (run_move _) ((ein u 294 (by decide) (by omega)).trans e0) KeepTo.refl hS
    · have e1 : u 295 = (.bool false) := hd 1 (by decide)
      exact DoesG.pass (wanted_tf a dsR39 u 1 295 rfl rfl rfl (by decide) (by omega) e1) trivial hS
    · refine DoesG.plain rfl ?_
      have e1 : u 295 = (.bool false) := hd 1 (by decide)
      exact step_value _ rfl (run_pickg _ _ false false false ((ein u 295 (by decide) (by omega)).trans e1) (fun h => by cases h) rfl rfl) rfl KeepTo.refl hS

def opsR40 : List Oper := [
  { dst := some 298, op := Op.move (Operand.tmp 40), type := 37, pos := "turns.go:100", after := #[], guard := none },
  { dst := some 299, op := Op.call { callee := Callee.builtin Builtin.len, args := #[Operand.tmp 298], argTypes := #[37] }, type := 3, pos := "turns.go:100", after := #[{ on := 0, ground := Ground.data }], guard := none },
  { dst := some 300, op := Op.move (Operand.tmp 23), type := 3, pos := "turns.go:100", after := #[], guard := none },
  { dst := some 301, op := Op.binOp BinOp.mul 3 (Operand.const (Value.int IntKind.i64 2)) (Operand.tmp 300) 3, type := 3, pos := "turns.go:100", after := #[{ on := 2, ground := Ground.data }], guard := none },
  { dst := some 302, op := Op.binOp BinOp.add 3 (Operand.const (Value.int IntKind.i64 2)) (Operand.tmp 301) 3, type := 3, pos := "turns.go:100", after := #[{ on := 3, ground := Ground.data }], guard := none },
  { dst := some 303, op := Op.binOp BinOp.eql 3 (Operand.tmp 299) (Operand.tmp 302) 3, type := 4, pos := "turns.go:100", after := #[{ on := 1, ground := Ground.data }, { on := 4, ground := Ground.data }], guard := none },
  { dst := some 304, op := Op.move (Operand.tmp 303), type := 4, pos := "turns.go:100", after := #[{ on := 5, ground := Ground.data }], guard := none },
  { dst := some 305, op := Op.move (Operand.tmp 40), type := 37, pos := "turns.go:100", after := #[{ on := 6, ground := Ground.guard }], guard := some (6, true) },
  { dst := some 306, op := Op.indexAddr 37 (Operand.tmp 305) (Operand.const (Value.int IntKind.i64 0)), type := 0, pos := "turns.go:100", after := #[{ on := 7, ground := Ground.data }, { on := 6, ground := Ground.guard }], guard := some (6, true) },
  { dst := some 307, op := Op.load 5 (Operand.tmp 306), type := 5, pos := "turns.go:100", after := #[{ on := 8, ground := Ground.data }, { on := 6, ground := Ground.guard }], guard := some (6, true) },
  { dst := some 308, op := Op.binOp BinOp.eql 5 (Operand.tmp 307) (Operand.const (Value.int IntKind.u8 23)) 5, type := 4, pos := "turns.go:100", after := #[{ on := 9, ground := Ground.data }, { on := 6, ground := Ground.guard }], guard := some (6, true) },
  { dst := some 309, op := Op.pick (Operand.tmp 304) (Operand.tmp 308) (Operand.const (Value.bool false)), type := 4, pos := "turns.go:100", after := #[{ on := 6, ground := Ground.data }, { on := 10, ground := Ground.data }], guard := none },
  { dst := some 42, op := Op.assign (Operand.tmp 309), type := 4, pos := "turns.go:100", after := #[{ on := 11, ground := Ground.data }, { on := 6, ground := Ground.chain }, { on := 0, ground := Ground.phase }, { on := 1, ground := Ground.phase }, { on := 2, ground := Ground.phase }, { on := 3, ground := Ground.phase }, { on := 4, ground := Ground.phase }, { on := 5, ground := Ground.phase }, { on := 6, ground := Ground.phase }, { on := 7, ground := Ground.phase }, { on := 8, ground := Ground.phase }, { on := 9, ground := Ground.phase }, { on := 10, ground := Ground.phase }, { on := 11, ground := Ground.phase }], guard := none }]
def dsR40 : List (Option Nat) := [some 298, some 299, some 300, some 301, some 302, some 303, some 304, some 305, some 306, some 307, some 308, some 309, some 42]
set_option maxRecDepth 10000 in
set_option maxHeartbeats 1000000 in
theorem ruled_r40 (a : Act) (Q : Exit → Act → World → Prop) (w : World) (id : Nat) (b o cp n8 n : Nat) (hsz : 360 ≤ a.tmps.size)
    (hn : n ≤ 100) (hn8 : n8 = 2 + 2 * n) (h40 : a.eval (.tmp 40) = .slice (some ⟨b, o, none⟩) n8 cp) (h23 : a.eval (.tmp 23) = .int .i64 (n : Int)) (c0 : w.cell? ⟨b, o + 0, none⟩ = some (.int .u8 23))
    
    (hend : ∀ u, u 42 = .bool true → Q .normal (over a dsR40 u) w) : (Code.region id opsR40.toArray false).wp Tryz.prog Q a w := by
  have ein : ∀ u k, some k ∈ dsR40 → k < 360 → (over a dsR40 u).eval (.tmp k) = u k := fun u k h1 h2 => eval_in a dsR40 u k h1 (by omega)
  have eout : ∀ u k, some k ∉ dsR40 → k < 360 → (over a dsR40 u).eval (.tmp k) = a.eval (.tmp k) := fun u k h1 h2 => eval_out a dsR40 u k h1 (by omega)
  have hB0 : ∃ B : Nat, B = 0 := ⟨0, rfl⟩
  obtain ⟨B, hB0⟩ := hB0
  refine wp_region_factsG dsR40 (fun _ W => W = w) (RF B [.val (.slice (some ⟨b, o, none⟩) n8 cp), .val (.int .i64 (n8 : Int)), .val (.int .i64 (n : Int)), .val (.int .i64 (2 * (n : Int))), .val (.int .i64 (2 + 2 * (n : Int))), .val (.bool true), .val (.bool true), .val (.slice (some ⟨b, o, none⟩) n8 cp), .val (.pointer (some ⟨b, o + 0, none⟩)), .val (.int .u8 23), .val (.bool true), .val (.bool true), .val (.bool true)]) (by decide) rfl rfl [true, true, true, true, true, true, true, true, true, true, true, true, true] ?_ (fun u W hS hR => by subst hS; exact hend u (hR 12 (by decide)))
  unfold opsR40
  refine StepAllG.cons rfl (fun u W hS hd => ?_) (StepAllG.cons rfl (fun u W hS hd => ?_) (StepAllG.cons rfl (fun u W hS hd => ?_) (StepAllG.cons rfl (fun u W hS hd => ?_) (StepAllG.cons rfl (fun u W hS hd => ?_) (StepAllG.cons rfl (fun u W hS hd => ?_) (StepAllG.cons rfl (fun u W hS hd => ?_) (StepAllG.cons rfl (fun u W hS hd => ?_) (StepAllG.cons rfl (fun u W hS hd => ?_) (StepAllG.cons rfl (fun u W hS hd => ?_) (StepAllG.cons rfl (fun u W hS hd => ?_) (StepAllG.cons rfl (fun u W hS hd => ?_) (StepAllG.cons rfl (fun u W hS hd => ?_) (trivial)))))))))))))
  · refine DoesG.plain rfl ?_
    exact step_value _ rfl (run_move _) ((eout u 40 (by decide) (by omega)).trans h40) KeepTo.refl hS
  · refine DoesG.plain rfl ?_
    have e0 : u 298 = (.slice (some ⟨b, o, none⟩) n8 cp) := hd 0 (by decide)
    exact step_value _ rfl (run_len _ _ n8 cp ((ein u 298 (by decide) (by omega)).trans e0)) rfl KeepTo.refl hS
  · refine DoesG.plain rfl ?_
    exact step_value _ rfl (run_move _) ((eout u 23 (by decide) (by omega)).trans h23) KeepTo.refl hS
  · refine DoesG.plain rfl ?_
    have e2 : u 300 = (.int .i64 (n : Int)) := hd 2 (by decide)
    exact step_value _ rfl (run_mul2 _ (n : Int) (fun _ => by simp [Act.eval]) ((ein u 300 (by decide) (by omega)).trans e2) (by omega) (by omega)) rfl KeepTo.refl hS
  · refine DoesG.plain rfl ?_
    have e3 : u 301 = (.int .i64 (2 * (n : Int))) := hd 3 (by decide)
    exact step_value _ rfl (run_add _ _ 2 (2 * (n : Int)) rfl ((ein u 301 (by decide) (by omega)).trans e3) (by omega) (by omega) (by omega) (by omega)) rfl KeepTo.refl hS
  · refine DoesG.plain rfl ?_
    have e1 : u 299 = (.int .i64 (n8 : Int)) := hd 1 (by decide)
    have e4 : u 302 = (.int .i64 (2 + 2 * (n : Int))) := hd 4 (by decide)
    exact step_value _ rfl (run_eqI _ _ (n8 : Int) (2 + 2 * (n : Int)) true ((ein u 299 (by decide) (by omega)).trans e1) ((ein u 302 (by decide) (by omega)).trans e4) (by rw [hn8]; simp)) rfl KeepTo.refl hS
  · refine DoesG.plain rfl ?_
    have e5 : u 303 = (.bool true) := hd 5 (by decide)
    exact step_value _ rfl (run_move _) ((ein u 303 (by decide) (by omega)).trans e5) KeepTo.refl hS
  · have e6 : u 304 = (.bool true) := hd 6 (by decide)
    refine DoesG.run (wanted_tt a dsR40 u 6 304 rfl rfl rfl (by decide) (by omega) e6) ?_
    exact step_value _ rfl (run_move _) ((eout u 40 (by decide) (by omega)).trans h40) KeepTo.refl hS
  · have e6 : u 304 = (.bool true) := hd 6 (by decide)
    refine DoesG.run (wanted_tt a dsR40 u 6 304 rfl rfl rfl (by decide) (by omega) e6) ?_
    have e7 : u 305 = (.slice (some ⟨b, o, none⟩) n8 cp) := hd 7 (by decide)
    exact step_value _ rfl (run_idxB _ _ b o n8 cp 0 ((ein u 305 (by decide) (by omega)).trans e7) rfl (by omega)) rfl KeepTo.refl hS
  · have e6 : u 304 = (.bool true) := hd 6 (by decide)
    refine DoesG.run (wanted_tt a dsR40 u 6 304 rfl rfl rfl (by decide) (by omega) e6) ?_
    have e8 : u 306 = (.pointer (some ⟨b, o + 0, none⟩)) := hd 8 (by decide)
    exact step_value _ rfl (run_loadB _ b (o + 0) 23 ((ein u 306 (by decide) (by omega)).trans e8) (by rw [hS]; exact c0)) rfl KeepTo.refl hS
  · have e6 : u 304 = (.bool true) := hd 6 (by decide)
    refine DoesG.run (wanted_tt a dsR40 u 6 304 rfl rfl rfl (by decide) (by omega) e6) ?_
    have e9 : u 307 = (.int .u8 23) := hd 9 (by decide)
    exact step_value _ rfl (run_eq8 _ _ 23 23 true ((ein u 307 (by decide) (by omega)).trans e9) rfl rfl) rfl KeepTo.refl hS
  · refine DoesG.plain rfl ?_
    have e6 : u 304 = (.bool true) := hd 6 (by decide)
    have e10 : u 308 = (.bool true) := hd 10 (by decide)
    exact step_value _ rfl (run_pickg _ _ true (true) (true) ((ein u 304 (by decide) (by omega)).trans e6) (fun _ => ((ein u 308 (by decide) (by omega)).trans e10)) rfl (Bool.true_and _)) rfl KeepTo.refl hS
  · refine DoesG.plain rfl ?_
    have e11 : u 309 = (.bool true) := hd 11 (by decide)
    exact step_value _ rfl (run_assign _) ((ein u 309 (by decide) (by omega)).trans e11) KeepTo.refl hS

def opsR48 : List Oper := [
  { dst := some 340, op := Op.move (Operand.tmp 27), type := 4, pos := "turns.go:108", after := #[], guard := none },
  { dst := some 341, op := Op.move (Operand.tmp 340), type := 4, pos := "turns.go:108", after := #[{ on := 0, ground := Ground.data }], guard := none },
  { dst := some 342, op := Op.move (Operand.tmp 32), type := 24, pos := "turns.go:108", after := #[{ on := 1, ground := Ground.guard }], guard := some (1, true) },
  { dst := some 343, op := Op.move (Operand.tmp 44), type := 3, pos := "turns.go:108", after := #[{ on := 1, ground := Ground.guard }], guard := some (1, true) },
  { dst := some 344, op := Op.indexAddr 24 (Operand.tmp 342) (Operand.tmp 343), type := 0, pos := "turns.go:108", after := #[{ on := 2, ground := Ground.data }, { on := 3, ground := Ground.data }, { on := 1, ground := Ground.guard }], guard := some (1, true) },
  { dst := some 345, op := Op.load 3 (Operand.tmp 344), type := 3, pos := "turns.go:108", after := #[{ on := 4, ground := Ground.data }, { on := 1, ground := Ground.guard }], guard := some (1, true) },
  { dst := some 346, op := Op.move (Operand.tmp 43), type := 3, pos := "turns.go:108", after := #[{ on := 1, ground := Ground.guard }], guard := some (1, true) },
  { dst := some 347, op := Op.binOp BinOp.neq 3 (Operand.tmp 345) (Operand.tmp 346) 3, type := 4, pos := "turns.go:108", after := #[{ on := 5, ground := Ground.data }, { on := 6, ground := Ground.data }, { on := 1, ground := Ground.guard }], guard := some (1, true) },
  { dst := some 348, op := Op.pick (Operand.tmp 341) (Operand.tmp 347) (Operand.const (Value.bool false)), type := 4, pos := "turns.go:108", after := #[{ on := 1, ground := Ground.data }, { on := 7, ground := Ground.data }], guard := none }]
def dsR48 : List (Option Nat) := [some 340, some 341, some 342, some 343, some 344, some 345, some 346, some 347, some 348]
set_option maxRecDepth 10000 in
set_option maxHeartbeats 1000000 in
theorem ruled_r48 (a : Act) (Q : Exit → Act → World → Prop) (w : World) (id : Nat) (b o cp m k : Nat) (x y : Int) (t : Bool) (hsz : 360 ≤ a.tmps.size)
    (hk : k < m) (h27 : a.eval (.tmp 27) = .bool t) (h32 : a.eval (.tmp 32) = .slice (some ⟨b, o, none⟩) m cp) (h44 : a.eval (.tmp 44) = .int .i64 (k : Int)) (h43 : a.eval (.tmp 43) = .int .i64 y) (c1 : w.cell? ⟨b, o + k, none⟩ = some (.int .i64 x)) (q : t = true → (x != y) = false)
    
    (hend : ∀ u, u 348 = .bool false → Q .normal (over a dsR48 u) w) : (Code.region id opsR48.toArray false).wp Tryz.prog Q a w := by
  have ein : ∀ u k, some k ∈ dsR48 → k < 360 → (over a dsR48 u).eval (.tmp k) = u k := fun u k h1 h2 => eval_in a dsR48 u k h1 (by omega)
  have eout : ∀ u k, some k ∉ dsR48 → k < 360 → (over a dsR48 u).eval (.tmp k) = a.eval (.tmp k) := fun u k h1 h2 => eval_out a dsR48 u k h1 (by omega)
  have hB0 : ∃ B : Nat, B = 0 := ⟨0, rfl⟩
  obtain ⟨B, hB0⟩ := hB0
  cases t with
  | true =>
    refine wp_region_factsG dsR48 (fun _ W => W = w) (RF B [.val (.bool true), .val (.bool true), .val (.slice (some ⟨b, o, none⟩) m cp), .val (.int .i64 (k : Int)), .val (.pointer (some ⟨b, o + k, none⟩)), .val (.int .i64 x), .val (.int .i64 y), .val (.bool false), .val (.bool false)]) (by decide) rfl rfl [true, true, true, true, true, true, true, true, true] ?_ (fun u W hS hR => by subst hS; exact hend u (hR 8 (by decide)))
    unfold opsR48
    refine StepAllG.cons rfl (fun u W hS hd => ?_) (StepAllG.cons rfl (fun u W hS hd => ?_) (StepAllG.cons rfl (fun u W hS hd => ?_) (StepAllG.cons rfl (fun u W hS hd => ?_) (StepAllG.cons rfl (fun u W hS hd => ?_) (StepAllG.cons rfl (fun u W hS hd => ?_) (StepAllG.cons rfl (fun u W hS hd => ?_) (StepAllG.cons rfl (fun u W hS hd => ?_) (StepAllG.cons rfl (fun u W hS hd => ?_) (trivial)))))))))
    · refine DoesG.plain rfl ?_
      exact step_value _ rfl (run_move _) ((eout u 27 (by decide) (by omega)).trans h27) KeepTo.refl hS
    · refine DoesG.plain rfl ?_
      have e0 : u 340 = (.bool true) := hd 0 (by decide)
      exact step_value _ rfl (run_move _) ((ein u 340 (by decide) (by omega)).trans e0) KeepTo.refl hS
    · have e1 : u 341 = (.bool true) := hd 1 (by decide)
      refine DoesG.run (wanted_tt a dsR48 u 1 341 rfl rfl rfl (by decide) (by omega) e1) ?_
      exact step_value _ rfl (run_move _) ((eout u 32 (by decide) (by omega)).trans h32) KeepTo.refl hS
    · have e1 : u 341 = (.bool true) := hd 1 (by decide)
      refine DoesG.run (wanted_tt a dsR48 u 1 341 rfl rfl rfl (by decide) (by omega) e1) ?_
      exact step_value _ rfl (run_move _) ((eout u 44 (by decide) (by omega)).trans h44) KeepTo.refl hS
    · have e1 : u 341 = (.bool true) := hd 1 (by decide)
      refine DoesG.run (wanted_tt a dsR48 u 1 341 rfl rfl rfl (by decide) (by omega) e1) ?_
      have e2 : u 342 = (.slice (some ⟨b, o, none⟩) m cp) := hd 2 (by decide)
      have e3 : u 343 = (.int .i64 (k : Int)) := hd 3 (by decide)
      exact step_value _ rfl (run_idxI _ _ b o m cp k ((ein u 342 (by decide) (by omega)).trans e2) ((ein u 343 (by decide) (by omega)).trans e3) hk) rfl KeepTo.refl hS
    · have e1 : u 341 = (.bool true) := hd 1 (by decide)
      refine DoesG.run (wanted_tt a dsR48 u 1 341 rfl rfl rfl (by decide) (by omega) e1) ?_
      have e4 : u 344 = (.pointer (some ⟨b, o + k, none⟩)) := hd 4 (by decide)
      exact step_value _ rfl (run_loadI _ b (o + k) x ((ein u 344 (by decide) (by omega)).trans e4) (by rw [hS]; exact c1)) rfl KeepTo.refl hS
    · have e1 : u 341 = (.bool true) := hd 1 (by decide)
      refine DoesG.run (wanted_tt a dsR48 u 1 341 rfl rfl rfl (by decide) (by omega) e1) ?_
      exact step_value _ rfl (run_move _) ((eout u 43 (by decide) (by omega)).trans h43) KeepTo.refl hS
    · have e1 : u 341 = (.bool true) := hd 1 (by decide)
      refine DoesG.run (wanted_tt a dsR48 u 1 341 rfl rfl rfl (by decide) (by omega) e1) ?_
      have e5 : u 345 = (.int .i64 x) := hd 5 (by decide)
      have e6 : u 346 = (.int .i64 y) := hd 6 (by decide)
      exact step_value _ rfl (run_neI _ _ x y false ((ein u 345 (by decide) (by omega)).trans e5) ((ein u 346 (by decide) (by omega)).trans e6) (q rfl)) rfl KeepTo.refl hS
    · refine DoesG.plain rfl ?_
      have e1 : u 341 = (.bool true) := hd 1 (by decide)
      have e7 : u 347 = (.bool false) := hd 7 (by decide)
      exact step_value _ rfl (run_pickg _ _ true (false) (false) ((ein u 341 (by decide) (by omega)).trans e1) (fun _ => ((ein u 347 (by decide) (by omega)).trans e7)) rfl (Bool.true_and _)) rfl KeepTo.refl hS
  | false =>
    refine wp_region_factsG dsR48 (fun _ W => W = w) (RF B [.val (.bool false), .val (.bool false), .any, .any, .any, .any, .any, .any, .val (.bool false)]) (by decide) rfl rfl [true, true, false, false, false, false, false, false, true] ?_ (fun u W hS hR => by subst hS; exact hend u (hR 8 (by decide)))
    unfold opsR48
    refine StepAllG.cons rfl (fun u W hS hd => ?_) (StepAllG.cons rfl (fun u W hS hd => ?_) (StepAllG.cons rfl (fun u W hS hd => ?_) (StepAllG.cons rfl (fun u W hS hd => ?_) (StepAllG.cons rfl (fun u W hS hd => ?_) (StepAllG.cons rfl (fun u W hS hd => ?_) (StepAllG.cons rfl (fun u W hS hd => ?_) (StepAllG.cons rfl (fun u W hS hd => ?_) (StepAllG.cons rfl (fun u W hS hd => ?_) (trivial)))))))))
    · refine DoesG.plain rfl ?_
      exact step_value _ rfl (run_move _) ((eout u 27 (by decide) (by omega)).trans h27) KeepTo.refl hS
    · refine DoesG.plain rfl ?_
      have e0 : u 340 = (.bool false) := hd 0 (by decide)
      exact step_value _ rfl (run_move _) ((ein u 340 (by decide) (by omega)).trans e0) KeepTo.refl hS
    · have e1 : u 341 = (.bool false) := hd 1 (by decide)
      exact DoesG.pass (wanted_tf a dsR48 u 1 341 rfl rfl rfl (by decide) (by omega) e1) trivial hS
    · have e1 : u 341 = (.bool false) := hd 1 (by decide)
      exact DoesG.pass (wanted_tf a dsR48 u 1 341 rfl rfl rfl (by decide) (by omega) e1) trivial hS
    · have e1 : u 341 = (.bool false) := hd 1 (by decide)
      exact DoesG.pass (wanted_tf a dsR48 u 1 341 rfl rfl rfl (by decide) (by omega) e1) trivial hS
    · have e1 : u 341 = (.bool false) := hd 1 (by decide)
      exact DoesG.pass (wanted_tf a dsR48 u 1 341 rfl rfl rfl (by decide) (by omega) e1) trivial hS
    · have e1 : u 341 = (.bool false) := hd 1 (by decide)
      exact DoesG.pass (wanted_tf a dsR48 u 1 341 rfl rfl rfl (by decide) (by omega) e1) trivial hS
    · have e1 : u 341 = (.bool false) := hd 1 (by decide)
      exact DoesG.pass (wanted_tf a dsR48 u 1 341 rfl rfl rfl (by decide) (by omega) e1) trivial hS
    · refine DoesG.plain rfl ?_
      have e1 : u 341 = (.bool false) := hd 1 (by decide)
      exact step_value _ rfl (run_pickg _ _ false false false ((ein u 341 (by decide) (by omega)).trans e1) (fun h => by cases h) rfl rfl) rfl KeepTo.refl hS

def opsR30 : List Oper := [
  { dst := some 216, op := Op.move (Operand.tmp 38), type := 3, pos := "turns.go:90", after := #[], guard := none },
  { dst := some 217, op := Op.move (Operand.tmp 25), type := 3, pos := "turns.go:90", after := #[], guard := none },
  { dst := some 218, op := Op.binOp BinOp.mul 3 (Operand.const (Value.int IntKind.i64 2)) (Operand.tmp 217) 3, type := 3, pos := "turns.go:90", after := #[{ on := 1, ground := Ground.data }], guard := none },
  { dst := some 219, op := Op.binOp BinOp.lss 3 (Operand.tmp 216) (Operand.tmp 218) 3, type := 4, pos := "turns.go:90", after := #[{ on := 0, ground := Ground.data }, { on := 2, ground := Ground.data }], guard := none }]
def dsR30 : List (Option Nat) := [some 216, some 217, some 218, some 219]
set_option maxRecDepth 10000 in
set_option maxHeartbeats 1000000 in
theorem ruled_r30 (a : Act) (Q : Exit → Act → World → Prop) (w : World) (id : Nat) (k m : Nat) (b : Bool) (hsz : 360 ≤ a.tmps.size)
    (hm : m ≤ 100) (h38 : a.eval (.tmp 38) = .int .i64 (k : Int)) (h25 : a.eval (.tmp 25) = .int .i64 (m : Int)) (q : decide ((k : Int) < 2 * (m : Int)) = b)
    
    (hend : ∀ u, u 219 = .bool b → Q .normal (over a dsR30 u) w) : (Code.region id opsR30.toArray false).wp Tryz.prog Q a w := by
  have ein : ∀ u k, some k ∈ dsR30 → k < 360 → (over a dsR30 u).eval (.tmp k) = u k := fun u k h1 h2 => eval_in a dsR30 u k h1 (by omega)
  have eout : ∀ u k, some k ∉ dsR30 → k < 360 → (over a dsR30 u).eval (.tmp k) = a.eval (.tmp k) := fun u k h1 h2 => eval_out a dsR30 u k h1 (by omega)
  have hB0 : ∃ B : Nat, B = 0 := ⟨0, rfl⟩
  obtain ⟨B, hB0⟩ := hB0
  refine wp_region_factsG dsR30 (fun _ W => W = w) (RF B [.val (.int .i64 (k : Int)), .val (.int .i64 (m : Int)), .val (.int .i64 (2 * (m : Int))), .val (.bool b)]) (by decide) rfl rfl [true, true, true, true] ?_ (fun u W hS hR => by subst hS; exact hend u (hR 3 (by decide)))
  unfold opsR30
  refine StepAllG.cons rfl (fun u W hS hd => ?_) (StepAllG.cons rfl (fun u W hS hd => ?_) (StepAllG.cons rfl (fun u W hS hd => ?_) (StepAllG.cons rfl (fun u W hS hd => ?_) (trivial))))
  · refine DoesG.plain rfl ?_
    exact step_value _ rfl (run_move _) ((eout u 38 (by decide) (by omega)).trans h38) KeepTo.refl hS
  · refine DoesG.plain rfl ?_
    exact step_value _ rfl (run_move _) ((eout u 25 (by decide) (by omega)).trans h25) KeepTo.refl hS
  · refine DoesG.plain rfl ?_
    have e1 : u 217 = (.int .i64 (m : Int)) := hd 1 (by decide)
    exact step_value _ rfl (run_mul2 _ (m : Int) (fun _ => by simp [Act.eval]) ((ein u 217 (by decide) (by omega)).trans e1) (by omega) (by omega)) rfl KeepTo.refl hS
  · refine DoesG.plain rfl ?_
    have e0 : u 216 = (.int .i64 (k : Int)) := hd 0 (by decide)
    have e2 : u 218 = (.int .i64 (2 * (m : Int))) := hd 2 (by decide)
    exact step_value _ rfl (run_lss _ _ (k : Int) (2 * (m : Int)) b ((ein u 216 (by decide) (by omega)).trans e0) ((ein u 218 (by decide) (by omega)).trans e2) q) rfl KeepTo.refl hS

def opsR46 : List Oper := [
  { dst := some 335, op := Op.move (Operand.tmp 44), type := 3, pos := "turns.go:107", after := #[], guard := none },
  { dst := some 336, op := Op.move (Operand.tmp 25), type := 3, pos := "turns.go:107", after := #[], guard := none },
  { dst := some 337, op := Op.binOp BinOp.lss 3 (Operand.tmp 335) (Operand.tmp 336) 3, type := 4, pos := "turns.go:107", after := #[{ on := 0, ground := Ground.data }, { on := 1, ground := Ground.data }], guard := none }]
def dsR46 : List (Option Nat) := [some 335, some 336, some 337]
set_option maxRecDepth 10000 in
set_option maxHeartbeats 1000000 in
theorem ruled_r46 (a : Act) (Q : Exit → Act → World → Prop) (w : World) (id : Nat) (k m : Nat) (b : Bool) (hsz : 360 ≤ a.tmps.size)
    (h44 : a.eval (.tmp 44) = .int .i64 (k : Int)) (h25 : a.eval (.tmp 25) = .int .i64 (m : Int)) (q : decide ((k : Int) < (m : Int)) = b)
    
    (hend : ∀ u, u 337 = .bool b → Q .normal (over a dsR46 u) w) : (Code.region id opsR46.toArray false).wp Tryz.prog Q a w := by
  have ein : ∀ u k, some k ∈ dsR46 → k < 360 → (over a dsR46 u).eval (.tmp k) = u k := fun u k h1 h2 => eval_in a dsR46 u k h1 (by omega)
  have eout : ∀ u k, some k ∉ dsR46 → k < 360 → (over a dsR46 u).eval (.tmp k) = a.eval (.tmp k) := fun u k h1 h2 => eval_out a dsR46 u k h1 (by omega)
  have hB0 : ∃ B : Nat, B = 0 := ⟨0, rfl⟩
  obtain ⟨B, hB0⟩ := hB0
  refine wp_region_factsG dsR46 (fun _ W => W = w) (RF B [.val (.int .i64 (k : Int)), .val (.int .i64 (m : Int)), .val (.bool b)]) (by decide) rfl rfl [true, true, true] ?_ (fun u W hS hR => by subst hS; exact hend u (hR 2 (by decide)))
  unfold opsR46
  refine StepAllG.cons rfl (fun u W hS hd => ?_) (StepAllG.cons rfl (fun u W hS hd => ?_) (StepAllG.cons rfl (fun u W hS hd => ?_) (trivial)))
  · refine DoesG.plain rfl ?_
    exact step_value _ rfl (run_move _) ((eout u 44 (by decide) (by omega)).trans h44) KeepTo.refl hS
  · refine DoesG.plain rfl ?_
    exact step_value _ rfl (run_move _) ((eout u 25 (by decide) (by omega)).trans h25) KeepTo.refl hS
  · refine DoesG.plain rfl ?_
    have e0 : u 335 = (.int .i64 (k : Int)) := hd 0 (by decide)
    have e1 : u 336 = (.int .i64 (m : Int)) := hd 1 (by decide)
    exact step_value _ rfl (run_lss _ _ (k : Int) (m : Int) b ((ein u 335 (by decide) (by omega)).trans e0) ((ein u 336 (by decide) (by omega)).trans e1) q) rfl KeepTo.refl hS


theorem wp_incr (a : Act) (Q : Exit → Act → World → Prop) (w : World) (id : Nat) (k d1 d2 n : Nat) (T1 T2 T3 : TypeId) (p1 p2 p3 : String) (af1 af2 af3 : Array Edge) (h1 : d1 < a.tmps.size) (h2 : d2 < a.tmps.size) (hn : n ≤ 1000) (hv : a.eval (.tmp k) = .int .i64 (n : Int))
    (hend : Q .normal (((a.put (some d1) (.int .i64 (n : Int))).put (some d2) (.int .i64 ((n + 1 : Nat) : Int))).put (some k) (.int .i64 ((n + 1 : Nat) : Int))) w) :
    (Code.region id ([{ dst := some d1, op := .move (.tmp k), type := T1, pos := p1, after := af1, guard := none }, { dst := some d2, op := .binOp .add 3 (.tmp d1) (.const (.int .i64 1)) 3, type := T2, pos := p2, after := af2, guard := none }, { dst := some k, op := .assign (.tmp d2), type := T3, pos := p3, after := af3, guard := none }] : List Oper).toArray false).wp Tryz.prog Q a w := by
  refine wp_region_lit (wpList_value rfl (run_move _) ?_)
  rw [hv]
  have e1 : (a.put (some d1) (.int .i64 (n : Int))).eval (.tmp d1) = .int .i64 (n : Int) := by
    rw [eval_put _ _ _ _ h1, if_pos rfl]
  refine wpList_value rfl (run_add _ _ (n : Int) 1 e1 rfl (by omega) (by omega) (by omega) (by omega)) ?_
  refine wpList_value rfl (run_assign _) (wpList_nil ?_)
  have e2 : ((a.put (some d1) (.int .i64 (n : Int))).put (some d2) (.int .i64 ((n : Int) + 1))).eval (.tmp d2) = .int .i64 ((n : Int) + 1) := by
    rw [eval_put _ _ _ _ (by rw [put_size]; exact h2), if_pos rfl]
  show Q .normal (Act.put _ (some k) (Act.eval ((a.put (some d1) (.int .i64 (n : Int))).put (some d2) (.int .i64 ((n : Int) + 1))) (.tmp d2))) w
  rw [e2]
  exact hend
end Go.Proofs.YtfekelmldebplaaGreatDoor
