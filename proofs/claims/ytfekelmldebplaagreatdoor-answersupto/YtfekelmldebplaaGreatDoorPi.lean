import Derived.Test.YtfekelmldebplaaGreatDoorPf
import Derived.Test.YtfekelmldebplaaGreatDoorXe
import Derived.Test.YtfekelmldebplaaGreatDoorBb
import Derived.Test.YtfekelmldebplaaGreatDoorLl
set_option maxRecDepth 100000
set_option maxHeartbeats 8000000
namespace Go.Proofs.YtfekelmldebplaaGreatDoor
open Go.RowKit Go.MuLone
inductive Fact where
 | val (v : Value)
 | bytes (xs : List Int)
 | row (xss : List (List Int))
 | any
def Fact.ok (B : Nat) : Fact → Value → World → Prop
 | .val x, v, _ => v = x
 | .bytes xs, v, w => (∃ a n c, v = .slice a n c) ∧ Owns w B v xs
 | .row xss, v, w => ∃ (J : Nat) (vs : List Value), v = .slice (some ⟨J, 0, none⟩) xss.length xss.length ∧ vs.length = xss.length ∧ w.heap[J]? = some (.cells vs.toArray 37 (0, 0)) ∧ ∀ i, i < xss.length → Owns w B (vs.getD i undef) (xss.getD i [])
 | .any, _, _ => True
def RF (B : Nat) (fs : List Fact) (i : Nat) (v : Value) (w : World) : Prop := (fs.getD i .any).ok B v w
section
variable {A : Act} {W : World} {S : World → Prop} {Q : Exit → Act → World → Prop} {B : Nat} {R : Value → World → Prop} {d : Nat} {T : TypeId} {p : String} {af : Array Edge} {g : Option (Nat × Bool)}
end
section
variable {ev : Operand → Value} {w : World} {dst : Option Tmp} {T : TypeId} {p : String} {af : Array Edge} {g : Option (Nat × Bool)}
theorem uQ (x : Operand) (n : Int) (hc : ∀ v, ev (.const v) = v) (hx : ev x = .int .i64 n) (h0 : 0 ≤ n) (h1 : n ≤ 1000000) : (execOp ev { dst := dst, op := .binOp .mul 3 (.const (.int .i64 2)) x 3, type := T, pos := p, after := af, guard := g }).run Tryz.prog w = .ok (.value (.int .i64 (2 * n))) w := by
 have hw : IntKind.i64.wrap (2 * n) = 2 * n := by
  rw [IntKind.wrap_i64]
  omega
 simp [go_sem, hc, hx, hw]
theorem iB (x y : Operand) (n m : Int) (hx : ev x = .int .i64 n) (hy : ev y = .int .i64 m) (h0 : 0 ≤ n) (h1 : n ≤ 1000000) (h2 : 0 ≤ m) (h3 : m ≤ 1000000) : (execOp ev { dst := dst, op := .binOp .add 3 x y 3, type := T, pos := p, after := af, guard := g }).run Tryz.prog w = .ok (.value (.int .i64 (n + m))) w := by
 have hw : IntKind.i64.wrap (n + m) = n + m := by
  rw [IntKind.wrap_i64]
  omega
 simp [go_sem, hx, hy, hw]
theorem aAz (x y : Operand) (b n c k : Nat) (hx : ev x = .slice (some ⟨b, 0, none⟩) n c) (hy : ev y = .int .i64 (k : Int)) (hk : k < n) : (execOp ev { dst := dst, op := .indexAddr 24 x y, type := T, pos := p, after := af, guard := g }).run Tryz.prog w = .ok (.value (.pointer (some ⟨b, k, none⟩))) w := by
 simp [go_sem, hx, hy]
 exact fun h => absurd h (by omega)
theorem cY (x : Operand) (b k : Nat) (n : Int) (hx : ev x = .pointer (some ⟨b, k, none⟩)) (hc : w.cell? ⟨b, k, none⟩ = some (.int .i64 n)) : (execOp ev { dst := dst, op := .load 3 x, type := T, pos := p, after := af, guard := g }).run Tryz.prog w = .ok (.value (.int .i64 n)) w := by
 simp [go_sem, hx, hc]
theorem qK (x y z : Operand) (b n c i j : Nat) (hx : ev x = .slice (some ⟨b, 0, none⟩) n c) (hy : ev y = .int .i64 (i : Int)) (hz : ev z = .int .i64 (j : Int)) (hij : i ≤ j) (hj : j ≤ c) (hi : i < c) : (execOp ev { dst := dst, op := .slice 24 x (some y) (some z) none, type := T, pos := p, after := af, guard := g }).run Tryz.prog w = .ok (.value (.slice (some ⟨b, i, none⟩) (j - i) (c - i))) w := by
 have h3 : c ≠ i := by omega
 simp [go_sem, hx, hy, hz, hij, hj, h3]
end
end Go.Proofs.YtfekelmldebplaaGreatDoor
namespace Go.Proofs.YtfekelmldebplaaGreatDoor
open Go.RowKit
def dL (P : Program) (Q : Exit → Act → World → Prop) (a : Act) (ds : List (Option Nat)) (n : Nat) (S : Bool → World → Prop) (Le : World → World → Prop) (R : Nat → Value → World → Prop) : Nat → List Oper → Prop
 | _, [] => True
 | i, o :: l => (o.guard = none ∧ o.dst = ds.getD i none ∧ (∀ b u w, (i = n → b = false) → S b w → Deps ds R u w o.after.toList → Does P o (over a ds u) w (R i) Le (S (if i = n then true else b)) Q)) ∧ dL P Q a ds n S Le R (i + 1) l
theorem dL.at {P : Program} {Q : Exit → Act → World → Prop} {a : Act} {ds : List (Option Nat)} {n : Nat} {S : Bool → World → Prop} {Le : World → World → Prop} {R : Nat → Value → World → Prop} : ∀ (l : List Oper) (k i : Nat) (o : Oper), dL P Q a ds n S Le R k l → l[i]? = some o → (o.guard = none ∧ o.dst = ds.getD (k + i) none ∧ (∀ b u w, (k + i = n → b = false) → S b w → Deps ds R u w o.after.toList → Does P o (over a ds u) w (R (k + i)) Le (S (if k + i = n then true else b)) Q))
 | [], _, _, _, _, e => by simp at e
 | x :: l, k, 0, o, h, e => by
  simp at e
  subst e
  exact h.1
 | x :: l, k, i + 1, o, h, e => by
  have := dL.at l (k + 1) i o h.2 (by simpa using e)
  rw [show k + 1 + i = k + (i + 1) by omega] at this
  exact this
theorem rT {P : Program} {Q : Exit → Act → World → Prop} {a : Act} {ds : List (Option Nat)} {n : Nat} {S : Bool → World → Prop} {Le : World → World → Prop} {R : Nat → Value → World → Prop} {ops : List Oper}
  (nd : ∀ (i j k : Nat), ds[i]? = some (some k) → ds[j]? = some (some k) → i = j) (hlen : ds.length = ops.length)
  (hback : cO 0 ops = true) (hst : ∀ i v w w', R i v w → Le w w' → R i v w') (hstep : dL P Q a ds n S Le R 0 ops)
  (hn : n < ops.length) (hend : ∀ u w, S true w → (∀ i, i < ops.length → R i (bX u (ds.getD i none)) w) → Q .normal (over a ds u) w) :
  ∀ (fuel : Nat) (listed : Array Bool) (u : Nat → Value) (w : World), S (listed.getD n false) w → listed.size = ops.length → (List.range ops.length).countP (fun i => !listed.getD i true) ≤ fuel → (∀ i, listed.getD i false = true → R i (bX u (ds.getD i none)) w) →
   wpAny P .any ops.toArray Q fuel listed (over a ds u) w := by
 have hall : ∀ (listed : Array Bool), listed.size = ops.length → Region.ready .any ops.toArray listed = [] → ∀ i, i < ops.length → listed.getD i false = true := by
  intro listed hs hr i
  induction i using Nat.strongRecOn with
  | _ i ih =>
   intro hi
   cases hb : listed.getD i false with
   | true => rfl
   | false =>
    exfalso
    have hlt : i < listed.size := by omega
    have hb' : listed.getD i true = false := by
     simp only [Array.getD, hlt, dite_true] at hb ⊢
     exact hb
    have : i ∈ Region.ready .any ops.toArray listed := by
     unfold Region.ready
     rw [List.mem_filter]
     refine ⟨by simpa using hi, ?_⟩
     have ho : ops.toArray[i]? = some ops[i] := by simp [hi]
     rw [hb', ho]
     simp only [Bool.not_false, Option.map_some, Option.getD_some, Bool.true_and]
     rw [Array.all_eq_true]
     intro k hk
     have he := cO.at ops 0 i ops[i] hback (by simp [hi]) _ (Array.getElem_mem hk)
     rw [he.2, ih _ (by omega) (by omega)]
     rfl
    rw [hr] at this
    simp at this
 have hnorm : ∀ (listed : Array Bool) (u : Nat → Value) (w : World), S (listed.getD n false) w → listed.size = ops.length → Region.ready .any ops.toArray listed = [] → (∀ i, listed.getD i false = true → R i (bX u (ds.getD i none)) w) → Q .normal (over a ds u) w := fun listed u w hS hs hr hf => hend u w (by rw [hall listed hs hr n hn] at hS; exact hS) (fun i hi => hf i (hall listed hs hr i hi))
 intro fuel
 induction fuel with
 | zero =>
  intro listed u w hS hs hc hf
  have hr : Region.ready .any ops.toArray listed = [] := by
   unfold Region.ready
   rw [List.filter_eq_nil_iff]
   intro i hi
   have h0 : (List.range ops.length).countP (fun i => !listed.getD i true) = 0 := by omega
   rw [List.countP_eq_zero] at h0
   have := h0 i (by simpa using hi)
   simp only [Bool.and_eq_true, _root_.not_and]
   intro h
   exact absurd h this
  exact ⟨hr, hnorm listed u w hS hs hr hf⟩
 | succ fuel ih =>
  intro listed u w hS hs hc hf
  refine ⟨fun hr => hnorm listed u w hS hs hr hf, fun i hi => ?_⟩
  unfold Region.ready at hi
  rw [List.mem_filter] at hi
  obtain ⟨hi, hp⟩ := hi
  have hi' : i < ops.length := by simpa using hi
  have ho : ops.toArray[i]? = some ops[i] := by simp [hi']
  have hol : ops[i]? = some ops[i] := by simp [hi']
  rw [ho] at hp
  simp only [Option.map_some, Option.getD_some, Bool.and_eq_true, Bool.not_eq_true'] at hp
  obtain ⟨hpl, hpa⟩ := hp
  rw [Array.all_eq_true] at hpa
  obtain ⟨s1, s2, s3⟩ := dL.at ops 0 i ops[i] hstep hol
  rw [Nat.zero_add] at s2 s3
  have hdi : ds[i]? = some (ds.getD i none) := by
   have : i < ds.length := by omega
   simp [List.getD, List.getElem?_eq_getElem this]
  have hdm : (ops[i]).dst = none ∨ (ops[i]).dst ∈ ds := by
   rw [s2]
   exact .inr (List.mem_of_getElem? hdi)
  have hdeps : Deps ds R u w (ops[i]).after.toList := by
   have : ∀ l : List Edge, (∀ e ∈ l, e ∈ (ops[i]).after) → Deps ds R u w l := by
    intro l
    induction l with
    | nil => intro _; trivial
    | cons e l ihl =>
     intro h
     have he := h e (List.mem_cons_self ..)
     obtain ⟨k, hk, rfl⟩ := Array.getElem_of_mem he
     have hb := (cO.at ops 0 i ops[i] hback hol _ he).2
     have := hpa k hk
     rw [hb] at this
     refine ⟨hf _ (by simpa using this), ihl (fun e he => h e (List.mem_cons_of_mem _ he))⟩
   exact this _ (fun e he => by simpa using he)
  have hw : Region.wanted ops[i] (yielded ops.toArray (over a ds u).tmps) = true := by
   unfold Region.wanted
   rw [s1]
  unfold wpOp
  rw [ho]
  simp only [hw, if_true]
  refine .inl (Oper.wp_mono ?_ (s3 _ u w (fun e => by
   subst e
   have hil : i < listed.size := by omega
   simp only [Array.getD, hil, dite_true] at hpl ⊢
   exact hpl) hS hdeps).go)
  rintro a' w' ⟨v, rfl, hR, hLe, hS'⟩
  rw [gG a ds u _ v hdm]
  have hil : i < listed.size := by omega
  have hS2 : S ((listed.setIfInBounds i true).getD n false) w' := by
   have e : (listed.setIfInBounds i true).getD n false = (if i = n then true else listed.getD n false) := by
    by_cases e : i = n
    ·subst e
     simp [Array.getD, hil]
    ·by_cases hnl : n < listed.size
     ·simp only [Array.getD, Array.size_setIfInBounds, hnl, dite_true, Array.getInternal_eq_getElem, Array.getElem_setIfInBounds_ne hnl e]
      simp [e]
     ·simp [Array.getD, hnl, e]
   rw [e]
   exact hS'
  refine ih _ _ _ hS2 (by simpa using hs) ?_ ?_
  ·have := gX (p := fun x => !listed.getD x true) (q := fun x => !(listed.setIfInBounds i true).getD x true) (i := i) (fun x hx => by
    by_cases e : x = i
    ·subst e
     simp [Array.getD, hil] at hx
    ·have e' : i ≠ x := fun h => e h.symm
     by_cases hxl : x < listed.size
     ·simp only [Array.getD, Array.size_setIfInBounds, hxl, dite_true, Array.getInternal_eq_getElem, Array.getElem_setIfInBounds_ne hxl e'] at hx ⊢
      exact hx
     ·simp [Array.getD, hxl] at hx) (by rw [hpl]; rfl) (by simp [Array.getD, hil]) (List.range ops.length) (by simpa using hi')
   omega
  ·intro j hj
   by_cases e : j = i
   ·subst e
    rw [← s2]
    have hv : bX (upd u (ops[j]).dst v) (ops[j]).dst = gF (ops[j]).dst v := by
     cases (ops[j]).dst with
     | none => rfl
     | some k => simp [bX, upd, gF]
    rw [hv]
    exact hR
   ·have e' : i ≠ j := fun h => e h.symm
    have hj' : listed.getD j false = true := by
     by_cases hxl : j < listed.size
     ·simp only [Array.getD, Array.size_setIfInBounds, hxl, dite_true, Array.getInternal_eq_getElem, Array.getElem_setIfInBounds_ne hxl e'] at hj ⊢
      exact hj
     ·simp [Array.getD, hxl] at hj
    have h1 := hst _ _ _ _ (hf j hj') hLe
    have hv : bX (upd u (ops[i]).dst v) (ds.getD j none) = bX u (ds.getD j none) := by
     cases hdj : ds.getD j none with
     | none => rfl
     | some k =>
      cases hdi2 : (ops[i]).dst with
      | none => rfl
      | some k2 =>
       have hne : k ≠ k2 := by
        intro hk
        subst hk
        refine e (nd j i k ?_ ?_)
        ·have hjl : j < ds.length := by
          by_cases hjl : j < ds.length
          ·exact hjl
          ·simp [List.getD, List.getElem?_eq_none (Nat.le_of_not_lt hjl)] at hdj
         simp [List.getD, List.getElem?_eq_getElem hjl] at hdj
         rw [List.getElem?_eq_getElem hjl, hdj]
        ·rw [hdi, ← s2, hdi2]
       simp [bX, upd, hne]
    rw [hv]
    exact h1
theorem dT {P : Program} {Q : Exit → Act → World → Prop} {a : Act} {w : World} {id : Nat} {ops : List Oper} (ds : List (Option Nat)) (n : Nat) (S : Bool → World → Prop) (Le : World → World → Prop) (R : Nat → Value → World → Prop)
  (hm : P.follows .mixedOrders = true) (nd : ndB ds = true) (hlen : ds.length = ops.length)
  (hback : cO 0 ops = true) (hst : ∀ i v w w', R i v w → Le w w' → R i v w') (hn : n < ops.length) (hS : S false w.drew) (hstep : dL P Q a ds n S Le R 0 ops)
  (hend : ∀ u w, S true w → (∀ i, i < ops.length → R i (bX u (ds.getD i none)) w) → Q .normal (over a ds u) w) : (Code.region id ops.toArray true).wp P Q a w := by
 refine wp_region_any hm ?_
 have := rT (ndB.spec ds nd) hlen hback hst hstep hn hend ops.length (Array.replicate ops.length false) (fun k => a.tmps.getD k undef) w.drew (by
  have e : (Array.replicate ops.length false).getD n false = false := by simp [Array.getD, hn]
  rw [e]
  exact hS) (by simp) (by
  refine Nat.le_trans List.countP_le_length ?_
  simp) (fun i hi => by
  exfalso
  by_cases h : i < ops.length
  ·simp [Array.getD, h] at hi
  ·simp [Array.getD, h] at hi)
 rw [iT] at this
 simpa using this
theorem dL.cons {P : Program} {Q : Exit → Act → World → Prop} {a : Act} {ds : List (Option Nat)} {n : Nat} {S : Bool → World → Prop} {Le : World → World → Prop} {R : Nat → Value → World → Prop} {i : Nat} {o : Oper} {l : List Oper} (h1 : o.guard = none) (h2 : o.dst = ds.getD i none)
  (h3 : ∀ b u w, (i = n → b = false) → S b w → Deps ds R u w o.after.toList → Does P o (over a ds u) w (R i) Le (S (if i = n then true else b)) Q) (h4 : dL P Q a ds n S Le R (i + 1) l) : dL P Q a ds n S Le R i (o :: l) := ⟨⟨h1, h2, h3⟩, h4⟩
theorem lA {l : List Oper} {o oj : Oper} {a : Act} {ds : List (Option Nat)} {u : Nat → Value} {want : Bool} (j d : Nat) (b : Bool) (hg : o.guard = some (j, want)) (hj : l[j]? = some oj) (hjd : oj.dst = some d) (hm : some d ∈ ds) (hs : d < a.tmps.size) (hu : u d = .bool b) : Region.wanted o (yielded l.toArray (over a ds u).tmps) = (b == want) := by
 unfold Region.wanted yielded
 rw [hg]
 have hj' : l.toArray[j]? = some oj := by simpa using hj
 simp only [hj', Option.bind_some, hjd, fI u d ds a hs, hm, if_true, hu]
 cases b <;> cases want <;> rfl
theorem aF {l : List Oper} {o oj : Oper} (a : Act) (ds : List (Option Nat)) (u : Nat → Value) (j d : Nat) (hg : o.guard = some (j, true)) (hj : l[j]? = some oj) (hjd : oj.dst = some d) (hm : some d ∈ ds) (hs : d < a.tmps.size) (hu : u d = .bool true) : Region.wanted o (yielded l.toArray (over a ds u).tmps) = true := lA j d true hg hj hjd hm hs hu
theorem aH {l : List Oper} {o oj : Oper} (a : Act) (ds : List (Option Nat)) (u : Nat → Value) (j d : Nat) (hg : o.guard = some (j, true)) (hj : l[j]? = some oj) (hjd : oj.dst = some d) (hm : some d ∈ ds) (hs : d < a.tmps.size) (hu : u d = .bool false) : Region.wanted o (yielded l.toArray (over a ds u).tmps) = false := lA j d false hg hj hjd hm hs hu
theorem lU {l : List Oper} {o oj : Oper} (a : Act) (ds : List (Option Nat)) (u : Nat → Value) (j d : Nat) (hg : o.guard = some (j, false)) (hj : l[j]? = some oj) (hjd : oj.dst = some d) (hm : some d ∈ ds) (hs : d < a.tmps.size) (hu : u d = .bool false) : Region.wanted o (yielded l.toArray (over a ds u).tmps) = true := lA j d false hg hj hjd hm hs hu
theorem lT {l : List Oper} {o oj : Oper} (a : Act) (ds : List (Option Nat)) (u : Nat → Value) (j d : Nat) (hg : o.guard = some (j, false)) (hj : l[j]? = some oj) (hjd : oj.dst = some d) (hm : some d ∈ ds) (hs : d < a.tmps.size) (hu : u d = .bool true) : Region.wanted o (yielded l.toArray (over a ds u).tmps) = false := lA j d true hg hj hjd hm hs hu
section
variable {ev : Operand → Value} {w : World} {dst : Option Tmp} {T : TypeId} {p : String} {af : Array Edge} {g : Option (Nat × Bool)}
theorem lE (x y : Operand) (n m : Int) (b : Bool) (hx : ev x = .int .i64 n) (hy : ev y = .int .i64 m) (hb : decide (n ≤ m) = b) : (execOp ev { dst := dst, op := .binOp .leq 3 x y 3, type := T, pos := p, after := af, guard := g }).run Tryz.prog w = .ok (.value (.bool b)) w := by
 simp [go_sem, hx, hy, ← hb]
theorem aAv (x y : Operand) (b : Bool) (c2 : Bool) (hx : ev x = .bool b) (hy : b = true → ev y = .bool c2) (hc : ev (.const (.bool false)) = .bool false) : (execOp ev { dst := dst, op := .pick x y (.const (.bool false)), type := T, pos := p, after := af, guard := g }).run Tryz.prog w = .ok (.value (.bool (b && c2))) w := by
 cases b
 ·simp [go_sem, hx, hc]
 ·simp [go_sem, hx, hy rfl]
theorem aE6 (x : Operand) (b c : Bool) (hx : ev x = .bool b) (hb : (!b) = c) : (execOp ev { dst := dst, op := .unOp .not 4 x, type := T, pos := p, after := af, guard := g }).run Tryz.prog w = .ok (.value (.bool c)) w := by
 subst hb
 simp [go_sem, hx]
theorem zN (x y : Operand) (n m : Int) (b : Bool) (hx : ev x = .int .i64 n) (hy : ev y = .int .i64 m) (hb : decide (n < m) = b) : (execOp ev { dst := dst, op := .binOp .lss 3 x y 3, type := T, pos := p, after := af, guard := g }).run Tryz.prog w = .ok (.value (.bool b)) w := by
 simp [go_sem, hx, hy, ← hb]
theorem dM (x y : Operand) (n m : Int) (b : Bool) (hx : ev x = .int .i64 n) (hy : ev y = .int .i64 m) (hb : (n == m) = b) : (execOp ev { dst := dst, op := .binOp .eql 3 x y 3, type := T, pos := p, after := af, guard := g }).run Tryz.prog w = .ok (.value (.bool b)) w := by
 simp [go_sem, hx, hy, hb]
theorem zO (x y : Operand) (n m : Int) (b : Bool) (hx : ev x = .int .u8 n) (hy : ev y = .int .u8 m) (hb : (n == m) = b) : (execOp ev { dst := dst, op := .binOp .eql 5 x y 5, type := T, pos := p, after := af, guard := g }).run Tryz.prog w = .ok (.value (.bool b)) w := by
 simp [go_sem, hx, hy, hb]
theorem qL (x y : Operand) (b : Bool) (c2 c3 : Bool) (hx : ev x = .bool b) (hy : b = false → ev y = .bool c2) (hc : ev (.const (.bool true)) = .bool true) (h3 : (b || c2) = c3) : (execOp ev { dst := dst, op := .pick x (.const (.bool true)) y, type := T, pos := p, after := af, guard := g }).run Tryz.prog w = .ok (.value (.bool c3)) w := by
 subst h3
 cases b
 ·simp [go_sem, hx, hy rfl]
 ·simp [go_sem, hx, hc]
theorem aL (x y : Operand) (b : Bool) (c2 c3 : Bool) (hx : ev x = .bool b) (hy : b = true → ev y = .bool c2) (hc : ev (.const (.bool false)) = .bool false) (h3 : (b && c2) = c3) : (execOp ev { dst := dst, op := .pick x y (.const (.bool false)), type := T, pos := p, after := af, guard := g }).run Tryz.prog w = .ok (.value (.bool c3)) w := by
 subst h3
 exact aAv x y b c2 hx hy hc
theorem fF (x y : Operand) (b o n c k : Nat) (hx : ev x = .slice (some ⟨b, o, none⟩) n c) (hy : ev y = .int .i64 (k : Int)) (hk : k < n) : (execOp ev { dst := dst, op := .indexAddr 37 x y, type := T, pos := p, after := af, guard := g }).run Tryz.prog w = .ok (.value (.pointer (some ⟨b, o + k, none⟩))) w := by
 have h1 : (k : Int) < (n : Int) := by omega
 simp [go_sem, hx, hy, h1]
theorem oG (x y : Operand) (b o n c k : Nat) (hx : ev x = .slice (some ⟨b, o, none⟩) n c) (hy : ev y = .int .i64 (k : Int)) (hk : k < n) : (execOp ev { dst := dst, op := .indexAddr 24 x y, type := T, pos := p, after := af, guard := g }).run Tryz.prog w = .ok (.value (.pointer (some ⟨b, o + k, none⟩))) w := by
 have h1 : (k : Int) < (n : Int) := by omega
 simp [go_sem, hx, hy, h1]
theorem eI (x : Operand) (b k : Nat) (n : Int) (hx : ev x = .pointer (some ⟨b, k, none⟩)) (hc : w.cell? ⟨b, k, none⟩ = some (.int .u8 n)) : (execOp ev { dst := dst, op := .load 5 x, type := T, pos := p, after := af, guard := g }).run Tryz.prog w = .ok (.value (.int .u8 n)) w := by
 simp [go_sem, hx, hc]
end
structure DoesG (P : Program) (ops : Array Oper) (o : Oper) (A : Act) (w : World) (run : Bool) (R : Value → World → Prop) (Le : World → World → Prop) (S : World → Prop) (Q : Exit → Act → World → Prop) : Prop where
 want : Region.wanted o (yielded ops A.tmps) = run
 does : run = true → Does P o A w R Le S Q
 skip : run = false → R undef w ∧ S w
theorem DoesG.plain {P : Program} {ops : Array Oper} {o : Oper} {A : Act} {w : World} {R : Value → World → Prop} {Le : World → World → Prop} {S : World → Prop} {Q : Exit → Act → World → Prop} (hg : o.guard = none) (d : Does P o A w R Le S Q) : DoesG P ops o A w true R Le S Q :=
 ⟨by unfold Region.wanted; rw [hg], fun _ => d, fun h => by cases h⟩
theorem DoesG.run {P : Program} {ops : Array Oper} {o : Oper} {A : Act} {w : World} {R : Value → World → Prop} {Le : World → World → Prop} {S : World → Prop} {Q : Exit → Act → World → Prop} (hw : Region.wanted o (yielded ops A.tmps) = true) (d : Does P o A w R Le S Q) : DoesG P ops o A w true R Le S Q :=
 ⟨hw, fun _ => d, fun h => by cases h⟩
theorem DoesG.pass {P : Program} {ops : Array Oper} {o : Oper} {A : Act} {w : World} {R : Value → World → Prop} {Le : World → World → Prop} {S : World → Prop} {Q : Exit → Act → World → Prop} (hw : Region.wanted o (yielded ops A.tmps) = false) (hR : R undef w) (hS : S w) : DoesG P ops o A w false R Le S Q :=
 ⟨hw, fun h => (by cases h), fun _ => ⟨hR, hS⟩⟩
def dR (P : Program) (Q : Exit → Act → World → Prop) (a : Act) (ds : List (Option Nat)) (S : World → Prop) (Le : World → World → Prop) (R : Nat → Value → World → Prop) (ops : List Oper) (runs : List Bool) : Nat → List Oper → Prop
 | _, [] => True
 | i, o :: l => (o.dst = ds.getD i none ∧ (∀ u w, S w → Deps ds R u w o.after.toList → DoesG P ops.toArray o (over a ds u) w (runs.getD i true) (R i) Le S Q)) ∧ dR P Q a ds S Le R ops runs (i + 1) l
theorem dR.cons {P : Program} {Q : Exit → Act → World → Prop} {a : Act} {ds : List (Option Nat)} {S : World → Prop} {Le : World → World → Prop} {R : Nat → Value → World → Prop} {ops : List Oper} {runs : List Bool} {i : Nat} {o : Oper} {l : List Oper} (h2 : o.dst = ds.getD i none)
  (h3 : ∀ u w, S w → Deps ds R u w o.after.toList → DoesG P ops.toArray o (over a ds u) w (runs.getD i true) (R i) Le S Q) (h : dR P Q a ds S Le R ops runs (i + 1) l) : dR P Q a ds S Le R ops runs i (o :: l) := ⟨⟨h2, h3⟩, h⟩
theorem dR.at {P : Program} {Q : Exit → Act → World → Prop} {a : Act} {ds : List (Option Nat)} {S : World → Prop} {Le : World → World → Prop} {R : Nat → Value → World → Prop} {ops : List Oper} {runs : List Bool} : ∀ (l : List Oper) (k i : Nat) (o : Oper), dR P Q a ds S Le R ops runs k l → l[i]? = some o → (o.dst = ds.getD (k + i) none ∧ (∀ u w, S w → Deps ds R u w o.after.toList → DoesG P ops.toArray o (over a ds u) w (runs.getD (k + i) true) (R (k + i)) Le S Q))
 | [], _, _, _, _, e => by simp at e
 | x :: l, k, 0, o, h, e => by
  simp at e
  subst e
  exact h.1
 | x :: l, k, i + 1, o, h, e => by
  have := dR.at l (k + 1) i o h.2 (by simpa using e)
  rw [show k + 1 + i = k + (i + 1) by omega] at this
  exact this
theorem rR {P : Program} {Q : Exit → Act → World → Prop} {a : Act} {ds : List (Option Nat)} {S : World → Prop} {Le : World → World → Prop} {R : Nat → Value → World → Prop} {ops : List Oper}
  (nd : ∀ (i j k : Nat), ds[i]? = some (some k) → ds[j]? = some (some k) → i = j) (hlen : ds.length = ops.length)
  (hback : cO 0 ops = true) (hrefl : ∀ w, Le w w) (hst : ∀ i v w w', R i v w → Le w w' → R i v w') (runs : List Bool) (hstep : dR P Q a ds S Le R ops runs 0 ops)
  (hend : ∀ u w, S w → (∀ i, i < ops.length → R i (bX u (ds.getD i none)) w) → Q .normal (over a ds u) w) :
  ∀ (fuel : Nat) (listed : Array Bool) (u : Nat → Value) (w : World), S w → listed.size = ops.length → (List.range ops.length).countP (fun i => !listed.getD i true) ≤ fuel → (∀ i, listed.getD i false = true → R i (bX u (ds.getD i none)) w) →
   wpAny P .any ops.toArray Q fuel listed (over a ds u) w := by
 have hall : ∀ (listed : Array Bool), listed.size = ops.length → Region.ready .any ops.toArray listed = [] → ∀ i, i < ops.length → listed.getD i false = true := by
  intro listed hs hr i
  induction i using Nat.strongRecOn with
  | _ i ih =>
   intro hi
   cases hb : listed.getD i false with
   | true => rfl
   | false =>
    exfalso
    have hlt : i < listed.size := by omega
    have hb' : listed.getD i true = false := by
     simp only [Array.getD, hlt, dite_true] at hb ⊢
     exact hb
    have : i ∈ Region.ready .any ops.toArray listed := by
     unfold Region.ready
     rw [List.mem_filter]
     refine ⟨by simpa using hi, ?_⟩
     have ho : ops.toArray[i]? = some ops[i] := by simp [hi]
     rw [hb', ho]
     simp only [Bool.not_false, Option.map_some, Option.getD_some, Bool.true_and]
     rw [Array.all_eq_true]
     intro k hk
     have he := cO.at ops 0 i ops[i] hback (by simp [hi]) _ (Array.getElem_mem hk)
     rw [he.2, ih _ (by omega) (by omega)]
     rfl
    rw [hr] at this
    simp at this
 have hnorm : ∀ (listed : Array Bool) (u : Nat → Value) (w : World), S w → listed.size = ops.length → Region.ready .any ops.toArray listed = [] → (∀ i, listed.getD i false = true → R i (bX u (ds.getD i none)) w) → Q .normal (over a ds u) w := fun listed u w hS hs hr hf => hend u w hS (fun i hi => hf i (hall listed hs hr i hi))
 intro fuel
 induction fuel with
 | zero =>
  intro listed u w hS hs hc hf
  have hr : Region.ready .any ops.toArray listed = [] := by
   unfold Region.ready
   rw [List.filter_eq_nil_iff]
   intro i hi
   have h0 : (List.range ops.length).countP (fun i => !listed.getD i true) = 0 := by omega
   rw [List.countP_eq_zero] at h0
   have := h0 i (by simpa using hi)
   simp only [Bool.and_eq_true, _root_.not_and]
   intro h
   exact absurd h this
  exact ⟨hr, hnorm listed u w hS hs hr hf⟩
 | succ fuel ih =>
  intro listed u w hS hs hc hf
  refine ⟨fun hr => hnorm listed u w hS hs hr hf, fun i hi => ?_⟩
  unfold Region.ready at hi
  rw [List.mem_filter] at hi
  obtain ⟨hi, hp⟩ := hi
  have hi' : i < ops.length := by simpa using hi
  have ho : ops.toArray[i]? = some ops[i] := by simp [hi']
  have hol : ops[i]? = some ops[i] := by simp [hi']
  rw [ho] at hp
  simp only [Option.map_some, Option.getD_some, Bool.and_eq_true, Bool.not_eq_true'] at hp
  obtain ⟨hpl, hpa⟩ := hp
  rw [Array.all_eq_true] at hpa
  obtain ⟨s2, s3⟩ := dR.at ops 0 i ops[i] hstep hol
  rw [Nat.zero_add] at s2 s3
  have hdi : ds[i]? = some (ds.getD i none) := by
   have : i < ds.length := by omega
   simp [List.getD, List.getElem?_eq_getElem this]
  have hdm : (ops[i]).dst = none ∨ (ops[i]).dst ∈ ds := by
   rw [s2]
   exact .inr (List.mem_of_getElem? hdi)
  have hdeps : Deps ds R u w (ops[i]).after.toList := by
   have : ∀ l : List Edge, (∀ e ∈ l, e ∈ (ops[i]).after) → Deps ds R u w l := by
    intro l
    induction l with
    | nil => intro _; trivial
    | cons e l ihl =>
     intro h
     have he := h e (List.mem_cons_self ..)
     obtain ⟨k, hk, rfl⟩ := Array.getElem_of_mem he
     have hb := (cO.at ops 0 i ops[i] hback hol _ he).2
     have := hpa k hk
     rw [hb] at this
     refine ⟨hf _ (by simpa using this), ihl (fun e he => h e (List.mem_cons_of_mem _ he))⟩
   exact this _ (fun e he => by simpa using he)
  have hfin : ∀ v w', R i (gF (ops[i]).dst v) w' → Le w w' → S w' → wpAny P .any ops.toArray Q fuel (listed.setIfInBounds i true) (over a ds (upd u (ops[i]).dst v)) w' := by
   intro v w' hR hLe hS'
   have hil : i < listed.size := by omega
   refine ih _ _ _ hS' (by simpa using hs) ?_ ?_
   ·have := gX (p := fun x => !listed.getD x true) (q := fun x => !(listed.setIfInBounds i true).getD x true) (i := i) (fun x hx => by
     by_cases e : x = i
     ·subst e
      simp [Array.getD, hil] at hx
     ·have e' : i ≠ x := fun h => e h.symm
      by_cases hxl : x < listed.size
      ·simp only [Array.getD, Array.size_setIfInBounds, hxl, dite_true, Array.getInternal_eq_getElem, Array.getElem_setIfInBounds_ne hxl e'] at hx ⊢
       exact hx
      ·simp [Array.getD, hxl] at hx) (by rw [hpl]; rfl) (by simp [Array.getD, hil]) (List.range ops.length) (by simpa using hi')
    omega
   ·intro j hj
    by_cases e : j = i
    ·subst e
     rw [← s2]
     have hv : bX (upd u (ops[j]).dst v) (ops[j]).dst = gF (ops[j]).dst v := by
      cases (ops[j]).dst with
      | none => rfl
      | some k => simp [bX, upd, gF]
     rw [hv]
     exact hR
    ·have e' : i ≠ j := fun h => e h.symm
     have hj' : listed.getD j false = true := by
      by_cases hxl : j < listed.size
      ·simp only [Array.getD, Array.size_setIfInBounds, hxl, dite_true, Array.getInternal_eq_getElem, Array.getElem_setIfInBounds_ne hxl e'] at hj ⊢
       exact hj
      ·simp [Array.getD, hxl] at hj
     have h1 := hst _ _ _ _ (hf j hj') hLe
     have hv : bX (upd u (ops[i]).dst v) (ds.getD j none) = bX u (ds.getD j none) := by
      cases hdj : ds.getD j none with
      | none => rfl
      | some k =>
       cases hdi2 : (ops[i]).dst with
       | none => rfl
       | some k2 =>
        have hne : k ≠ k2 := by
         intro hk
         subst hk
         refine e (nd j i k ?_ ?_)
         ·have hjl : j < ds.length := by
           by_cases hjl : j < ds.length
           ·exact hjl
           ·simp [List.getD, List.getElem?_eq_none (Nat.le_of_not_lt hjl)] at hdj
          simp [List.getD, List.getElem?_eq_getElem hjl] at hdj
          rw [List.getElem?_eq_getElem hjl, hdj]
         ·rw [hdi, ← s2, hdi2]
        simp [bX, upd, hne]
     rw [hv]
     exact h1
  have hdo := s3 u w hS hdeps
  unfold wpOp
  rw [ho]
  cases hrun : runs.getD i true with
  | true =>
   rw [hrun] at hdo
   simp only [hdo.want, if_true]
   refine .inl (Oper.wp_mono ?_ (hdo.does rfl).go)
   rintro a' w' ⟨v, rfl, hR, hLe, hS'⟩
   rw [gG a ds u _ v hdm]
   exact hfin v w' hR hLe hS'
  | false =>
   rw [hrun] at hdo
   simp only [hdo.want]
   have e : gF (ops[i]).dst undef = undef := by cases (ops[i]).dst <;> rfl
   show wpAny P .any ops.toArray Q fuel (listed.setIfInBounds i true) ((over a ds u).put (ops[i]).dst undef) w
   rw [gG a ds u _ undef hdm]
   exact hfin undef w (by rw [e]; exact (hdo.skip rfl).1) (hrefl w) (hdo.skip rfl).2
theorem eX {P : Program} {Q : Exit → Act → World → Prop} {a : Act} {w : World} {id : Nat} {ops : List Oper} (ds : List (Option Nat)) (S : World → Prop) (Le : World → World → Prop) (R : Nat → Value → World → Prop)
  (hm : P.follows .mixedOrders = true) (nd : ndB ds = true) (hlen : ds.length = ops.length)
  (hback : cO 0 ops = true) (hrefl : ∀ w, Le w w) (hst : ∀ i v w w', R i v w → Le w w' → R i v w') (hS : S w.drew) (runs : List Bool) (hstep : dR P Q a ds S Le R ops runs 0 ops)
  (hend : ∀ u w, S w → (∀ i, i < ops.length → R i (bX u (ds.getD i none)) w) → Q .normal (over a ds u) w) : (Code.region id ops.toArray true).wp P Q a w := by
 refine wp_region_any hm ?_
 have := rR (ndB.spec ds nd) hlen hback hrefl hst runs hstep hend ops.length (Array.replicate ops.length false) (fun k => a.tmps.getD k undef) w.drew hS (by simp) (by
  refine Nat.le_trans List.countP_le_length ?_
  simp) (fun i hi => by
  exfalso
  by_cases h : i < ops.length
  ·simp [Array.getD, h] at hi
  ·simp [Array.getD, h] at hi)
 rw [iT] at this
 simpa using this
structure Tch where
 t : Int
 a : Int
 n : Int
 wr : Bool
def Tch.cells (x : Tch) : Array Value := #[.int .i64 x.t, .int .i64 x.a, .int .i64 x.n, .bool x.wr]
def aU (B : Nat) (W : World) (v : Value) (ts : List Tch) : Prop := ∃ g, v = .slice (some ⟨g, 0, none⟩) ts.length ts.length ∧ B ≤ g ∧ W.heap[g]? = some (.cells (ts.flatMap fun x => x.cells.toList).toArray 257 (0, 0))
def LeT (w w' : World) : Prop := ∀ (k : Nat) (cs : Array Value) (T : TypeId) (fr : Nat × Nat), T ≠ 252 → w.heap[k]? = some (.cells cs T fr) → w'.heap[k]? = some (.cells cs T fr)
theorem LeT.refl (w : World) : LeT w w := fun _ _ _ _ _ h => h
theorem LeT.of_below {w w' : World} (hb : Below w.heap.size w w') : LeT w w' := fun k _ _ _ _ h => (hb.block k (Array.getElem?_eq_some_iff.1 h).1).trans h
theorem LeT.new (w : World) (o : Obj) : LeT w (w.alloc o) := LeT.of_below (aZ w o)
theorem LeT.drawn (w : World) (n : Nat) : LeT w (w.drewN n) := fun _ _ _ _ _ h => h
theorem aU.le {B : Nat} {w w' : World} {v : Value} {ts : List Tch} (h : aU B w v ts) (l : LeT w w') : aU B w' v ts := by
 obtain ⟨g, e, hg, hr⟩ := h
 exact ⟨g, e, hg, l g _ _ _ (by decide) hr⟩
theorem aS.le {B : Nat} {w w' : World} {v : Value} {xs : List Int} (h : aS w B v xs) (l : LeT w w') : aS w' B v xs :=
 aJ h fun k _ _ e => by
  obtain ⟨cs, fr, q⟩ := bH h e
  rw [q]
  exact l k cs 3 fr (by decide) q
theorem eO (b o n c i k : Nat) (bs : List Int) (w W : World) (hi : i = 2 * k) (hn : n = bs.length) (hk : 2 * k + 1 < bs.length) (hl : bs.length ≤ 1000) (hx : Bys bs) (hb : b < w.heap.size) (hcc : ∀ i, i < bs.length → w.cell? ⟨b, o + i, none⟩ = some (.int .u8 (bs.getD i 0))) (hW : Below w.heap.size w W) :
  Calls Tryz.prog 176 #[.slice (some ⟨b, o, none⟩) n c, .int .i64 (i : Int)] W fun e w' => e = .returned (.int .i64 (wAt bs k : Int)) ∧ ∃ nq, w' = W.drewN nq := by
 subst hi
 subst hn
 rw [rU bs hx k]
 exact yZ b o bs.length c (2 * k) _ _ W hk (by omega) ((hW.cell (by exact hb)).trans (hcc _ (by omega))) ((hW.cell (by exact hb)).trans (hcc _ (by omega))) (hx.at _) (hx.at _)
theorem cH {w W : World} (h : Below w.heap.size w W) (n : Nat) : Below w.heap.size w (W.drewN n) := ⟨h.os, h.tape, h.output, h.size, h.block⟩
theorem bO (args : Array Value) (w : World) : (callFunc 176 args).run Tryz.prog w = .ok (.enter 176 args) w := by
 simp [go_sem]
theorem kC (args : Array Value) (w : World) : (callFunc 177 args).run Tryz.prog w = .ok (.enter 177 args) w := by
 simp [go_sem]
theorem yV (args : Array Value) (w : World) : (callFunc 178 args).run Tryz.prog w = .ok (.enter 178 args) w := by
 simp [go_sem]
theorem nA (args : Array Value) (w : World) : (callFunc 179 args).run Tryz.prog w = .ok (.enter 179 args) w := by
 simp [go_sem]
theorem lH (n lo hi : Int) (w : World) : Calls Tryz.prog 177 #[.int .i64 n, .int .i64 lo, .int .i64 hi] w fun e w' => e = .returned (.bool (inB lo n hi)) ∧ w' = w := by
 by_cases h1 : lo ≤ n
 ·by_cases h2 : n ≤ hi
  ·go_enter Tryz.func177, Tryz.ntmps177
   go_wp2
   go_ret
   exact ⟨aV (by simp [inB, h1, h2]), rfl⟩
  ·have h2' : decide (n ≤ hi) = false := by simpa using h2
   go_enter Tryz.func177, Tryz.ntmps177
   go_wp2
   go_ret
   exact ⟨aV (by simp [inB]; omega), rfl⟩
 ·have h1' : decide (lo ≤ n) = false := by simpa using h1
  go_enter Tryz.func177, Tryz.ntmps177
  go_wp2
  go_ret
  exact ⟨aV (by simp [inB]; omega), rfl⟩
section
variable {ev : Operand → Value} {w : World} {dst : Option Tmp} {T : TypeId} {p : String} {af : Array Edge} {g : Option (Nat × Bool)}
theorem eY (x1 x2 x3 x4 : Operand) (t a n : Int) (b : Bool) (h1 : ev x1 = .int .i64 t) (h2 : ev x2 = .int .i64 a) (h3 : ev x3 = .int .i64 n) (h4 : ev x4 = .bool b) : (execOp ev { dst := dst, op := .build 257 #[(0, x1), (1, x2), (2, x3), (3, x4)], type := T, pos := p, after := af, guard := g }).run Tryz.prog w = .ok (.value (.agg #[.int .i64 t, .int .i64 a, .int .i64 n, .bool b])) w := by
 simp [go_sem, h1, h2, h3, h4]
theorem gS (x : Operand) (t a n : Int) (b : Bool) (h : ev x = .agg #[.int .i64 t, .int .i64 a, .int .i64 n, .bool b]) : (execOp ev { dst := dst, op := .buildSlice 250 1 #[(0, x)], type := T, pos := p, after := af, guard := g }).run Tryz.prog w = .ok (.value (.slice (some ⟨w.heap.size, 0, none⟩) 1 1)) (w.alloc (.cells #[.int .i64 t, .int .i64 a, .int .i64 n, .bool b] 257)) := by
 simp [go_sem, h]
theorem oC (x y : Operand) (t a n t2 a2 n2 : Int) (b b2 : Bool) (h : ev x = .agg #[.int .i64 t, .int .i64 a, .int .i64 n, .bool b]) (h2 : ev y = .agg #[.int .i64 t2, .int .i64 a2, .int .i64 n2, .bool b2]) : (execOp ev { dst := dst, op := .buildSlice 250 2 #[(0, x), (1, y)], type := T, pos := p, after := af, guard := g }).run Tryz.prog w = .ok (.value (.slice (some ⟨w.heap.size, 0, none⟩) 2 2)) (w.alloc (.cells #[.int .i64 t, .int .i64 a, .int .i64 n, .bool b, .int .i64 t2, .int .i64 a2, .int .i64 n2, .bool b2] 257)) := by
 simp [go_sem, h, h2]
theorem aCt (x : Operand) (a : Option Addr) (n c : Nat) (h : ev x = .slice a n c) : (execOp ev { dst := dst, op := .build 252 #[(0, x)], type := T, pos := p, after := af, guard := g }).run Tryz.prog w = .ok (.value (.agg #[.slice a n c, .slice none 0 0, .int .i64 0, .int .i64 0])) w := by
 simp [go_sem, h]
theorem jL (x y : Operand) (a a2 : Option Addr) (n c n2 c2 : Nat) (h : ev x = .slice a n c) (h2 : ev y = .slice a2 n2 c2) : (execOp ev { dst := dst, op := .build 252 #[(0, x), (1, y)], type := T, pos := p, after := af, guard := g }).run Tryz.prog w = .ok (.value (.agg #[.slice a n c, .slice a2 n2 c2, .int .i64 0, .int .i64 0])) w := by
 simp [go_sem, h, h2]
theorem oH (x : Operand) (b o n c k : Nat) (hk : k < n) (hc : n ≤ c) (hv : ∀ v, ev (.const v) = v) (hx : ev x = .slice (some ⟨b, o, none⟩) n c) : (execOp ev { dst := dst, op := .slice 37 x (some (.const (.int .i64 (k : Int)))) none none, type := T, pos := p, after := af, guard := g }).run Tryz.prog w = .ok (.value (.slice (some ⟨b, o + k, none⟩) (n - k) (c - k))) w := by
 have hkn : k ≤ n := by omega
 have h3 : c ≠ k := by omega
 simp [go_sem, hx, hv, hkn, h3]
end
theorem gW : (Tryz.prog.info? 252).map (·.size) = some 4 := by kernel_rfl
theorem eS {A : Act} {W : World} {S : World → Prop} {Q : Exit → Act → World → Prop} {R : Value → World → Prop} {Le : World → World → Prop} {T : TypeId} {p : String} {af : Array Edge} {g : Option (Nat × Bool)} (x y : Operand) (b : Nat) (ta va : Option Addr) (tn tc vn vc : Nat) (i j : Int) (cs : Array Value) (hs : cs.size = 4) (hx : A.eval x = .pointer (some ⟨b, 0, none⟩)) (hy : A.eval y = .agg #[.slice ta tn tc, .slice va vn vc, .int .i64 i, .int .i64 j]) (hr : W.heap[b]? = some (.cells cs 252 (0, 0)))
  (h : ∀ w', Chg W w' (fun k => k = b) → w'.heap[b]? = some (.cells #[.slice ta tn tc, .slice va vn vc, .int .i64 i, .int .i64 j] 252 (0, 0)) → R undef w' ∧ Le W w' ∧ S w') : Does Tryz.prog { dst := none, op := .store 252 x y, type := T, pos := p, after := af, guard := g } A W R Le S Q := by
 refine ⟨wp_store_row 252 x y rfl b #[.slice ta tn tc, .slice va vn vc, .int .i64 i, .int .i64 j] hx hy 252 cs hr gW hs (by simp [Value.oneCell']) ?_⟩
 obtain ⟨q1, q2, q3⟩ := h (W.setRow b #[.slice ta tn tc, .slice va vn vc, .int .i64 i, .int .i64 j]) ⟨rfl, rfl, rfl, by rw [setRow_size]; exact Nat.le_refl _, fun k _ hk => setRow_other W b k _ hk⟩ (setRow_heap W b cs _ _ _ hr)
 exact ⟨undef, rfl, q1, q2, q3⟩
end Go.Proofs.YtfekelmldebplaaGreatDoor
