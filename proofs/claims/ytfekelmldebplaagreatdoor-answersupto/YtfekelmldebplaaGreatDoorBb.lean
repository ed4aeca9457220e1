import Derived.Deep.RegionLaw
import Derived.Test.YtfekelmldebplaaGreatDoorSj
set_option maxRecDepth 100000
set_option maxHeartbeats 8000000
namespace Go.Proofs.YtfekelmldebplaaGreatDoor
open Go.RowKit
structure Chg (w w' : World) (D : Nat → Prop) : Prop where
 os : w'.os = w.os
 tape : w'.tape = w.tape
 output : w'.output = w.output
 size : w.heap.size ≤ w'.heap.size
 block : ∀ k, k < w.heap.size → ¬ D k → w'.heap[k]? = w.heap[k]?
theorem Chg.refl (w : World) (D : Nat → Prop) : Chg w w D := ⟨rfl, rfl, rfl, Nat.le_refl _, fun _ _ _ => rfl⟩
theorem Chg.of_grown {w w' : World} {r : Option Nat} (h : w.grownBy w' r) : Chg w w' (fun k => r = some k) := ⟨h.os, h.tape, h.output, h.size, fun k p n => h.block k p fun e => n e.symm⟩
theorem Chg.of_below {w w' : World} (h : Below w.heap.size w w') (D : Nat → Prop) : Chg w w' D := ⟨h.os, h.tape, h.output, h.size, fun k p _ => h.block k p⟩
theorem Chg.trans {a b c : World} {D E : Nat → Prop} (h : Chg a b D) (k : Chg b c E) (hE : ∀ i, E i → i < a.heap.size → D i) : Chg a c D :=
 ⟨k.os.trans h.os, k.tape.trans h.tape, k.output.trans h.output, Nat.le_trans h.size k.size, fun i p n => (k.block i (Nat.lt_of_lt_of_le p h.size) fun e => n (hE i e p)).trans (h.block i p n)⟩
theorem Chg.mono {a b : World} {D E : Nat → Prop} (h : Chg a b D) (hE : ∀ i, i < a.heap.size → D i → E i) : Chg a b E := ⟨h.os, h.tape, h.output, h.size, fun i p n => h.block i p fun e => n (hE i p e)⟩
theorem Chg.set (w : World) (g i : Nat) (v : Value) : Chg w (w.setCell ⟨g, i, none⟩ v) (fun k => k = g) :=
 ⟨rfl, rfl, rfl, by simp [World.setCell], fun k _ n => heap_setCell_other _ _ _ _ (fun e => n e)⟩
def Rec.has (r : Rec) (k : Nat) : Prop := r.v0.ownBlock = some k ∨ r.v1.ownBlock = some k ∨ r.v2.ownBlock = some k ∨ r.v3.ownBlock = some k
def wrow (c0 c1 c2 vb vf : Value) : Array Value := #[c0, c1, c2, vb, .slice none 0 0, vf, .slice none 0 0]
structure BookIn (w : World) (B bw : Nat) (c0 c1 c2 vb vf : Value) (rb rf : List Rec) : Prop where
 row : w.heap[bw]? = some (.cells (wrow c0 c1 c2 vb vf) 91 (0, 0))
 rowB : w.ownsRow B 125 5 vb rb.length (rb.flatMap Rec.cells)
 rowF : w.ownsRow B 130 5 vf rf.length (rf.flatMap Rec.cells)
 okB : ∀ r ∈ rb, r.OkB w
 okF : ∀ r ∈ rf, r.OkF w
 sep : ∀ r, (r ∈ rb ∨ r ∈ rf) → ∀ k, r.has k → B ≤ k ∧ k < w.heap.size ∧ k ≠ bw ∧ vb.ownBlock ≠ some k ∧ vf.ownBlock ≠ some k
theorem aFu : (Tryz.prog.info? 125).map (fun i => (i.zero, i.size, i.bytes)) = some (some (.agg #[.slice none 0 0, .slice none 0 0, .slice none 0 0, .slice none 0 0, .int .i64 0]), 5, 104) := by kernel_rfl
theorem bH {w : World} {B size g : Nat} {e : TypeId} {v : Value} {n : Nat} {xs : List Value} (h : w.ownsRow B e size v n xs) (hv : v.ownBlock = some g) : ∃ cs fr, w.heap[g]? = some (.cells cs e fr) := by
 rcases h.2 with ⟨rfl, _⟩ | ⟨g2, cap, cur, rfl, _, hh, _⟩
 ·simp [Value.ownBlock] at hv
 ·have : g2 = g := by simpa [Value.ownBlock] using hv
  subst this
  exact ⟨_, _, hh⟩
theorem qF {w1 M w9 : World} {o o' : Obj} {bw : Nat} {r : Option Nat} {x : Obj} (h : w1.heap[bw]? = some x) (e : M.heap = ((w1.alloc o).alloc o').heap) (g : M.grownBy w9 r) (n : some bw ≠ r) : w9.heap[bw]? = some x := by
 have hl := (Array.getElem?_eq_some_iff.1 h).1
 rw [g.block bw (by rw [e]; simp; omega) n, e, Below.heap_alloc _ _ _ (by simp; omega), Below.heap_alloc _ _ _ hl]
 exact h
theorem lL {w w' : World} {o o' : Obj} (hh : w'.heap = ((w.alloc o').alloc o).heap) : w'.heap[w.heap.size + 1]? = some o := by
 rw [hh]
 have := heap_alloc_new (w.alloc o') o
 rwa [show (w.alloc o').heap.size = w.heap.size + 1 by simp] at this
structure Rule where
 t : Int
 lo : Int
 hi : Int
 r : Bool
 w : Bool
def Rule.cells (x : Rule) : Array Value := #[.int .i64 x.t, .int .i64 x.lo, .int .i64 x.hi, .bool x.r, .bool x.w]
def Rule.bad (x : Rule) : Bool := decide (x.t < 0) || (decide (4 ≤ x.t) || (decide (x.lo < 0) || (decide (x.hi < x.lo) || decide (65535 < x.hi))))
def cK (w : World) (v : Value) (rs : List Rule) : Prop := ∃ a c, v = .slice a rs.length c ∧ (rs = [] ∨ ∃ b o, a = some ⟨b, o, none⟩ ∧ b < w.heap.size ∧ ∀ (i : Nat) x, rs[i]? = some x → ∀ (j : Nat) u, x.cells[j]? = some u → w.cell? ⟨b, o + i * 5 + j, none⟩ = some u)
def bZ (w : World) (v : Value) (LL : List (List Rule)) : Prop := ∃ a c, v = .slice a LL.length c ∧ (LL = [] ∨ ∃ b o, a = some ⟨b, o, none⟩ ∧ b < w.heap.size ∧ ∀ (i : Nat) rs, LL[i]? = some rs → ∃ u, w.cell? ⟨b, o + i, none⟩ = some u ∧ cK w u rs)
theorem tI : (Tryz.prog.info? 52).map (fun i => (i.zero, i.size, i.bytes)) = some (some (.agg #[.int .i64 0, .int .i64 0, .int .i64 0, .bool false, .bool false]), 5, 32) := by kernel_rfl
theorem jM (rs : List Rule) : (rs.flatMap fun x => x.cells.toList).length = rs.length * 5 := by
 induction rs with
 | nil => rfl
 | cons x rs ih => simp [Rule.cells] at ih ⊢; omega
theorem gA (rs : List Rule) : ∀ (i j : Nat) (x : Rule), rs[i]? = some x → j < 5 → (rs.flatMap fun x => x.cells.toList)[i * 5 + j]? = x.cells[j]? := by
 induction rs with
 | nil => intro i j x h; simp at h
 | cons y rs ih =>
  intro i j x h hj
  have hy : y.cells.toList.length = 5 := rfl
  cases i with
  | zero =>
   obtain rfl : y = x := by simpa using h
   rw [List.flatMap_cons, List.getElem?_append_left (by omega)]
   simp
  | succ i =>
   rw [List.flatMap_cons, List.getElem?_append_right (by omega), hy, show (i + 1) * 5 + j - 5 = i * 5 + j by omega]
   exact ih i j x (by simpa using h) hj
theorem qO (rs : List Rule) : ∀ u ∈ (rs.flatMap fun x => x.cells.toList), u.oneCell' = true := fun u hu => by
 obtain ⟨x, _, hx⟩ := List.mem_flatMap.1 hu
 simp [Rule.cells] at hx
 rcases hx with rfl | rfl | rfl | rfl | rfl <;> rfl
def eF (w : World) (B : Nat) (u : Value) (rs : List Rule) : Prop := cK w u rs ∧ ∀ g, u.ownBlock = some g → B ≤ g ∧ ∃ cs fr, w.heap[g]? = some (.cells cs 52 fr)
theorem pI (v : Value) (rs : List Rule) (w : World) (h : cK w v rs) (hn : rs.length ≤ 1000) :
  Calls Tryz.prog 114 #[v] w fun e w' => ∃ a c, e = .returned (.slice a rs.length c) ∧ eF w' w.heap.size (.slice a rs.length c) rs ∧ Below w.heap.size w w' := by
 obtain ⟨i0, hi, hz0, hz1, hz2⟩ := info_parts tI
 obtain ⟨a, c, rfl, hl⟩ := h
 have q64 : ∀ (w : World) (a : Option Addr) (n c n' c' : Nat), (binOp .eql 55 (.slice a n c) (.slice none n' c')).run Tryz.prog w = .ok (.bool a.isNone) w := fun w a n c n' c' => Lib.run_eql_slice_nil w _ _ a n c n' c' Tryz.underlying55
 cases a with
 | none =>
  have hr : rs = [] := by
   rcases hl with h | ⟨b, o, e, _⟩
   ·exact h
   ·cases e
  subst hr
  go_enter Tryz.func114, Tryz.ntmps114
  go_wp2
  go_ret
  exact ⟨none, 0, rfl, ⟨⟨none, 0, rfl, .inl rfl⟩, fun g e => by simp [Value.ownBlock] at e⟩, Below.refl _ _⟩
 | some ad =>
  by_cases hr : rs = []
  ·subst hr
   go_enter Tryz.func114, Tryz.ntmps114
   go_wp2
   go_ret
   exact ⟨some ⟨w.heap.size, 0, none⟩, 0, rfl, ⟨⟨_, _, rfl, .inl rfl⟩, fun g e => by simp [Value.ownBlock] at e; subst e; exact ⟨Nat.le_refl _, _, _, heap_alloc_new w _⟩⟩, (Below.refl _ _).alloc (Nat.le_refl _) _⟩
  ·obtain ⟨b, o, e, hb, hc⟩ := hl.resolve_left hr
   cases e
   have hp : 0 < rs.length := List.length_pos_iff.2 hr
   have HNw : Hid (∀ j u, (rs.flatMap fun x => x.cells.toList)[j]? = some u → (w.alloc (.cells #[] 52)).cell? ((⟨b, o, none⟩ : Addr).add j) = some u) := fun j u hj => by
    have hjl : j < rs.length * 5 := by
     have := (List.getElem?_eq_some_iff.1 hj).1
     rw [jM] at this
     exact this
    have e1 : (⟨b, o, none⟩ : Addr).add j = ⟨b, o + j / 5 * 5 + j % 5, none⟩ := by
     have : o + j / 5 * 5 + j % 5 = o + j := by omega
     rw [this]
     unfold Addr.add; split <;> simp_all
    have hx : j / 5 < rs.length := by omega
    have := gA rs (j / 5) (j % 5) _ (List.getElem?_eq_getElem hx) (by omega)
    rw [show j / 5 * 5 + j % 5 = j by omega, hj] at this
    rw [e1, World.cell?_of_block (Below.heap_alloc _ _ _ hb)]
    exact hc (j / 5) _ (List.getElem?_eq_getElem hx) (j % 5) u this.symm
   have HO : Hid ((w.alloc (.cells #[] 52)).ownsRow w.heap.size 52 5 (.slice (some ⟨w.heap.size, 0, none⟩) 0 0) 0 []) := World.ownsRow_made w #[] 0 (Nat.le_refl _) (by unfold maxLen; omega) rfl
   have HLn := hide (jM rs)
   have HOne := hide (qO rs)
   generalize hXS : (rs.flatMap fun x => x.cells.toList) = XS at HNw HLn HOne
   have HXS := hide hXS
   clear hXS hl hc
   go_enter Tryz.func114, Tryz.ntmps114
   go_wp2_with (at_builtin; go_loud (refine wpList_append_lies _ rfl (.tmp 5) (.tmp 6) 55 rfl w.heap.size 52 i0 (.agg #[.int .i64 0, .int .i64 0, .int .i64 0, .bool false, .bool false]) 5 32 Tryz.underlying55 hi hz0 hz1 hz2 rfl (by decide) _ 0 [] rfl (aA HO) ⟨b, o, none⟩ rs.length c XS rfl (aA HLn) (aA HNw) (aA HOne) hp (by unfold maxLen; omega) (by omega) (by simp) _ rfl ?_))
   intro g cap w1 h1 h2 h3 h4
   have hg : w.heap.size ≤ g := (World.ownsRow.lt h1 g rfl).1
   have hb1 : Below w.heap.size w w1 := ((Below.refl _ _).alloc (Nat.le_refl _) _).grown h2 (by simp) (fun k e => by simp [Value.ownBlock] at e; omega)
   have HL1 : Hid (cK w1 (.slice (some ⟨g, 0, none⟩) rs.length cap) rs) := by
    refine ⟨_, _, rfl, .inr ⟨g, 0, rfl, h4, fun i x hx j u hu => ?_⟩⟩
    have hj : j < 5 := by
     have := (Array.getElem?_eq_some_iff.1 hu).1
     simpa [Rule.cells] using this
    have hil : i < rs.length := (List.getElem?_eq_some_iff.1 hx).1
    have e := gA rs i j x hx hj
    rw [aA HXS, hu] at e
    have q := World.ownsRow.cellAt h1 (i * 5 + j) (by omega)
    rw [Nat.zero_add, q]
    simpa using e
   have HGr := hide (bH h1 (g := g) rfl)
   clear h1 h2 h3 HO HNw HLn HOne
   go_wp2
   go_ret
   refine ⟨some ⟨g, 0, none⟩, cap, by simp, ⟨aA HL1, fun k e => ?_⟩, hb1⟩
   simp [Value.ownBlock] at e
   subst e
   exact ⟨hg, aA HGr⟩
def aS (w : World) (B : Nat) (v : Value) (xs : List Int) : Prop := w.ownsRow B 3 1 v xs.length (xs.map (Value.int .i64))
theorem aS.cells {w : World} {B g c : Nat} {xs : List Int} (h : aS w B (.slice (some ⟨g, 0, none⟩) xs.length c) xs) : ∀ i, i < xs.length → w.cell? ⟨g, i, none⟩ = some (.int .i64 (xs.getD i 0)) := fun i hi => by
 have := World.ownsRow.cellAt h i (by simpa using hi)
 rw [this]
 simp [List.getD, List.getElem?_eq_getElem hi]
theorem Chg.of_kept {w w' : World} {B : Nat} {v v' : Value} {n m : Nat} (h : Kept w w' B v v' n m) : Chg w w' (fun k => v.ownBlock = some k) := by
 rcases h with ⟨g, cap, rfl, _, _, _, hg⟩ | ⟨_, hg⟩
 ·exact ⟨hg.os, hg.tape, hg.output, hg.size, fun k p n => hg.block k p fun e => n (by simpa [Value.ownBlock] using e.symm)⟩
 ·exact ⟨hg.os, hg.tape, hg.output, hg.size, fun k p n => hg.block k p (by simp)⟩
theorem bT {w0 w w' : World} {v v' : Value} {n m : Nat} (hb : Below w0.heap.size w0 w) (hv : ∀ k, v.ownBlock = some k → w0.heap.size ≤ k) (h : Kept w w' w0.heap.size v v' n m) : Below w0.heap.size w0 w' := by
 have c := Chg.of_kept h
 have z := hb.size
 exact ⟨c.os.trans hb.os, c.tape.trans hb.tape, c.output.trans hb.output, Nat.le_trans z c.size, fun k p => (c.block k (by omega) (fun e => by have := hv k e; omega)).trans (hb.block k p)⟩
def dH (xs : List Int) : List Int := xs.flatMap wd
theorem gQ (xs : List Int) : (dH xs).length = 2 * xs.length := by
 induction xs with
 | nil => rfl
 | cons x xs ih => simp [dH, wd] at ih ⊢; omega
theorem oK (f t ra rc wa wc : Int) (vv : Value) (k : Int) (b o c : Nat) (es : List Int) (w : World) (v : Value) (h : Lies w (.slice (some ⟨b, o, none⟩) es.length c) es) (hp : es ≠ []) (hl : es.length ≤ 1000) :
  Calls Tryz.prog 193 #[.agg #[.int .u8 f, .int .i64 t, .int .i64 ra, .int .i64 rc, .int .i64 wa, .int .i64 wc, vv, .int .i64 k, .slice (some ⟨b, o, none⟩) es.length c], v] w fun e w' => ∃ v', e = .returned v' ∧ Owns w' w.heap.size v' (f :: es) ∧ Below w.heap.size w w' := by
 obtain ⟨i0, hi, hz0, hz1, hz2⟩ := info_parts jS
 have hp0 : 0 < es.length := List.length_pos_iff.2 hp
 obtain ⟨b2, o2, c2, e2, hlc, hbb, hcc⟩ := h.shape hp
 cases e2
 obtain ⟨A, hA⟩ : ∃ A : Obj, A = .cells #[.int .u8 f, .int .i64 t, .int .i64 ra, .int .i64 rc, .int .i64 wa, .int .i64 wc, vv, .int .i64 k, .slice (some ⟨b, o, none⟩) es.length c] 273 := ⟨_, rfl⟩
 have HB0 : Hid (Below w.heap.size w ((w.alloc A).alloc (.cells #[.int .u8 f] 5))) := ((Below.refl _ _).alloc (Nat.le_refl _) _).alloc (by simp) _
 have HO0 : Hid (((w.alloc A).alloc (.cells #[.int .u8 f] 5)).ownsRow w.heap.size 5 1 (.slice (some ⟨w.heap.size + 1, 0, none⟩) 1 1) 1 [.int .u8 f]) := by
  have hn := heap_alloc_new (w.alloc A) (.cells #[.int .u8 f] 5)
  simp only [World.size_alloc] at hn
  exact ⟨rfl, .inr ⟨w.heap.size + 1, 1, #[.int .u8 f], rfl, by omega, hn, Nat.le_refl _, by unfold maxLen; omega, rfl, rfl⟩⟩
 have r0 : ((w.alloc A).alloc (.cells #[.int .u8 f] 5)).heap[w.heap.size]? = some A := by
  rw [Below.heap_alloc _ _ _ (by simp)]
  exact heap_alloc_new w _
 have HNw : Hid (∀ j u, (es.map (Value.int .u8))[j]? = some u → ((w.alloc A).alloc (.cells #[.int .u8 f] 5)).cell? ((⟨b, o, none⟩ : Addr).add j) = some u) := kI fun i hi => ((aA HB0).cell (by exact hbb)).trans (hcc i hi)
 have HOne := hide (iU es)
 subst hA
 have c8 := cell_of_row _ _ 8 _ _ _ r0
 simp at c8
 have hp1 : (0 : Int) < (es.length : Int) := by omega
 clear r0 h hcc hp
 go_enter Tryz.func193, Tryz.ntmps193
 go_wp2_with (at_builtin; go_loud (refine aT _ rfl (.tmp 13) (.tmp 15) 37 rfl w.heap.size 5 i0 (.int .u8 0) 1 1 Tryz.underlying37 hi hz0 hz1 hz2 rfl (by decide) _ 1 [.int .u8 f] rfl (aA HO0) ⟨b, o, none⟩ es.length c (es.map (Value.int .u8)) rfl (by simp) (aA HNw) (aA HOne) hp0 (by unfold maxLen; omega) (by omega) (by simp; omega) ?_))
 intro v3 w3 r3 k3
 obtain ⟨a3, n3', c3, rfl⟩ := aP r3
 have hb3 : Below w.heap.size w w3 := bT (aA HB0) (fun j e => (World.ownsRow.lt (aA HO0) j e).1) k3
 have HR3 := hide r3
 clear r3 k3 c8
 go_wp2
 go_ret
 refine ⟨_, rfl, ?_, hb3⟩
 unfold Owns
 have := aA HR3
 rw [show (f :: es).length = 1 + es.length by simp; omega]
 exact this
theorem oJ (f t ra rc wa wc : Int) (vv : Value) (k : Int) (ae : Option Addr) (ce : Nat) (b o c : Nat) (bs : List Int) (w : World) (h : Lies w (.slice (some ⟨b, o, none⟩) bs.length c) bs) (hp : bs ≠ []) (hl : bs.length ≤ 255) :
  Calls Tryz.prog 193 #[.agg #[.int .u8 f, .int .i64 t, .int .i64 ra, .int .i64 rc, .int .i64 wa, .int .i64 wc, vv, .int .i64 k, .slice ae 0 ce], .slice (some ⟨b, o, none⟩) bs.length c] w fun e w' => ∃ v', e = .returned v' ∧ Owns w' w.heap.size v' (f :: (bs.length : Int) :: bs) ∧ Below w.heap.size w w' := by
 obtain ⟨i0, hi, hz0, hz1, hz2⟩ := info_parts jS
 have hp0 : 0 < bs.length := List.length_pos_iff.2 hp
 obtain ⟨b2, o2, c2, e2, hlc, hbb, hcc⟩ := h.shape hp
 cases e2
 obtain ⟨A, hA⟩ : ∃ A : Obj, A = .cells #[.int .u8 f, .int .i64 t, .int .i64 ra, .int .i64 rc, .int .i64 wa, .int .i64 wc, vv, .int .i64 k, .slice ae 0 ce] 273 := ⟨_, rfl⟩
 have HB0 : Hid (Below w.heap.size w ((w.alloc A).alloc (.cells #[.int .u8 f] 5))) := ((Below.refl _ _).alloc (Nat.le_refl _) _).alloc (by simp) _
 have HO0 : Hid (((w.alloc A).alloc (.cells #[.int .u8 f] 5)).ownsRow w.heap.size 5 1 (.slice (some ⟨w.heap.size + 1, 0, none⟩) 1 1) 1 [.int .u8 f]) := by
  have hn := heap_alloc_new (w.alloc A) (.cells #[.int .u8 f] 5)
  simp only [World.size_alloc] at hn
  exact ⟨rfl, .inr ⟨w.heap.size + 1, 1, #[.int .u8 f], rfl, by omega, hn, Nat.le_refl _, by unfold maxLen; omega, rfl, rfl⟩⟩
 have r0 : ((w.alloc A).alloc (.cells #[.int .u8 f] 5)).heap[w.heap.size]? = some A := by
  rw [Below.heap_alloc _ _ _ (by simp)]
  exact heap_alloc_new w _
 have HZ0 : Hid (((w.alloc A).alloc (.cells #[.int .u8 f] 5)).heap.size = w.heap.size + 1 + 1) := by show _ = _; simp
 have HCC := hide hcc
 subst hA
 have c8 := cell_of_row _ _ 8 _ _ _ r0
 simp at c8
 have hl' : (bs.length : Int) < 256 := by omega
 clear r0 h hcc hp
 go_enter Tryz.func193, Tryz.ntmps193
 go_wp2_with (at_builtin; go_loud (refine aT _ rfl (.tmp 17) (.tmp 21) 37 rfl w.heap.size 5 i0 (.int .u8 0) 1 1 Tryz.underlying37 hi hz0 hz1 hz2 rfl (by decide) _ 1 [.int .u8 f] rfl (World.ownsRow.alloc (aA HO0) _) ⟨w.heap.size + 1 + 1, 0, none⟩ 1 1 [.int .u8 (bs.length : Int)] rfl rfl (by have q := eE ((w.alloc (.cells #[.int .u8 f, .int .i64 t, .int .i64 ra, .int .i64 rc, .int .i64 wa, .int .i64 wc, vv, .int .i64 k, .slice ae 0 ce] 273)).alloc (.cells #[.int .u8 f] 5)) #[.int .u8 (bs.length : Int)] 5; rw [aA HZ0] at q; exact q) (by simp [Value.oneCell']) (by decide) (by unfold maxLen; omega) (by omega) (by simp; omega) ?_))
 intro v2 w2 r2 k2
 obtain ⟨a2, n2', c2, rfl⟩ := aP r2
 have hb2 : Below w.heap.size w w2 := bT (aD (aA HB0) ((Below.refl _ _).alloc (Nat.le_refl _) _)) (fun j e => (World.ownsRow.lt (aA HO0) j e).1) k2
 have HR2 := hide r2
 have hz2' := hb2.size
 have HNw : Hid (∀ j u, (bs.map (Value.int .u8))[j]? = some u → w2.cell? ((⟨b, o, none⟩ : Addr).add j) = some u) := kI fun i hi => (hb2.cell (by exact hbb)).trans (aA HCC i hi)
 have HOne := hide (iU bs)
 clear r2 k2 c8
 go_wp2_with (at_builtin; go_loud (refine aT _ rfl (.tmp 23) (.tmp 24) 37 rfl w.heap.size 5 i0 (.int .u8 0) 1 1 Tryz.underlying37 hi hz0 hz1 hz2 rfl (by decide) _ 2 _ rfl (aA HR2) ⟨b, o, none⟩ bs.length c (bs.map (Value.int .u8)) rfl (by simp) (aA HNw) (aA HOne) hp0 (by unfold maxLen; omega) (by omega) (by omega) ?_))
 intro v3 w3 r3 k3
 obtain ⟨a3, n3', c3, rfl⟩ := aP r3
 have hb3 : Below w.heap.size w w3 := bT hb2 (fun j e => (World.ownsRow.lt (aA HR2) j e).1) k3
 have HR3 := hide r3
 clear r3 k3
 go_wp2
 go_ret
 refine ⟨_, rfl, ?_, hb3⟩
 unfold Owns
 have := aA HR3
 rw [show (f :: (bs.length : Int) :: bs).length = 2 + bs.length by simp; omega]
 exact this
def aEx : List Rule := [⟨0, 0, 65535, true, true⟩, ⟨1, 0, 65535, true, true⟩, ⟨2, 0, 65535, true, true⟩, ⟨3, 0, 65535, true, true⟩]
theorem wS (f : Int) (b o c : Nat) (xs : List Int) (w : World) (hf : 2 < f) (hb0 : b < w.heap.size) (hcc : ∀ i, i < xs.length → w.cell? ⟨b, o + i, none⟩ = some (.int .i64 (xs.getD i 0))) (hx : ∀ x ∈ xs, 0 ≤ x ∧ x ≤ 65535) (h1 : 1 ≤ xs.length) (hn : xs.length ≤ 127) :
  Calls Tryz.prog 148 #[.int .u8 f, .slice (some ⟨b, o, none⟩) xs.length c] w fun e w' => ∃ v', e = .returned v' ∧ Owns w' w.heap.size v' (f :: ((dH xs).length : Int) :: dH xs) ∧ Below w.heap.size w w' := by
 obtain ⟨i0, hi, hz0, hz1, hz2⟩ := info_parts jS
 have H := hide hcc
 have HX := hide hx
 have hf' : decide (f ≤ 2) = false := by simp; omega
 clear hcc hx
 go_enter Tryz.func148, Tryz.ntmps148
 go_wp2
 go_loopw [5, 7] (fun v i wr => ∃ k : Nat, k ≤ xs.length ∧ i = .int .i64 k ∧ Hid (Owns wr w.heap.size v (dH (xs.take k))) ∧ Hid (Below w.heap.size w wr)) (fun v i _ => xs.length - (intOf i).toNat)
 case atStart => exact ⟨0, by omega, rfl, World.ownsRow_nil _ _ _ _, Below.refl _ _⟩
 case round =>
  obtain ⟨k, hk, rfl, HO, HB⟩ := hrel
  have hz := (aA HB).size
  by_cases hlt : k < xs.length
  ·have ck := ((aA HB).cell (by exact hb0)).trans (aA H k hlt)
   have hy := aA HX (xs.getD k 0) (by simp [List.getD, List.getElem?_eq_getElem hlt])
   have HN : Hid (dH (xs.take (k + 1)) = dH (xs.take k) ++ wd (xs.getD k 0)) := by
    show _ = _
    unfold dH
    rw [List.take_add_one, List.getElem?_eq_getElem hlt, Option.toList_some, List.flatMap_append]
    simp only [List.flatMap_cons, List.flatMap_nil, List.append_nil, List.getD, List.getElem?_eq_getElem hlt, Option.getD_some]
   have hwl := gQ (xs.take k)
   rw [List.length_take, show min k xs.length = k by omega] at hwl
   generalize xs.getD k 0 = y at ck hy HN
   obtain ⟨ao, no, co, rfl⟩ := aP (aA HO)
   have HO2 : Hid (wr.ownsRow w.heap.size 5 1 (.slice ao no co) (2 * k) ((dH (xs.take k)).map (Value.int .u8))) := by
    have := aA HO
    unfold Owns at this
    rw [hwl] at this
    exact this
   generalize hXS : (dH (xs.take k)).map (Value.int .u8) = XS at HO2
   have HXS := hide hXS
   have HWL := hide hwl
   clear hXS hwl HO
   go_wp2_with (first
    | (go_at_call 80; refine (aAt _ _ hy.1 hy.2).mono ?_; rintro e w2 ⟨rfl, rfl⟩)
    | (at_builtin; refine aT _ rfl (.tmp 46) (.tmp 51) 37 rfl w.heap.size 5 i0 (.int .u8 0) 1 1 Tryz.underlying37 hi hz0 hz1 hz2 rfl (by decide) _ (2 * k) XS rfl (World.ownsRow.alloc (aA HO2) _) ⟨wr.heap.size, 0, none⟩ 2 2 [.int .u8 (y / 256), .int .u8 (y % 256)] rfl rfl (eE _ #[.int .u8 (y / 256), .int .u8 (y % 256)] 5) (by simp [Value.oneCell']) (by decide) (by unfold maxLen; omega) (by omega) (by simp; omega) ?_))
   intro v2 w3 r2 k2
   obtain ⟨a2, n2', c2, rfl⟩ := aP r2
   have HR2 := hide r2
   have HB3 : Hid (Below w.heap.size w w3) := bT (aD (aA HB) ((Below.refl _ _).alloc (Nat.le_refl _) _)) (fun j e => (World.ownsRow.lt (aA HO2) j e).1) k2
   clear r2 k2
   go_wp2
   go_roundw
   case rel =>
    refine ⟨k + 1, by omega, by go_num, ?_, HB3⟩
    show Owns _ _ _ _
    unfold Owns
    rw [aA HN, List.length_append, List.map_append, aA HWL, aA HXS]
    exact aA HR2
   case measure => simp [intOf]; omega
  ·obtain rfl : k = xs.length := by omega
   have hwl := gQ xs
   obtain ⟨ws, hws⟩ : ∃ ws, dH xs = ws := ⟨_, rfl⟩
   rw [List.take_length, hws] at HO
   rw [hws] at hwl
   have hne : ws ≠ [] := fun e => by
    rw [e] at hwl
    simp at hwl
    omega
   obtain ⟨gb, go, gc, e1, hg1, hg2, hgc⟩ := (aA HO).lies.shape hne
   obtain ⟨ao, co, rfl, _⟩ := bU (aA HO)
   cases e1
   have hp0 : 0 < ws.length := List.length_pos_iff.2 hne
   have hl8 : (ws.length : Int) < 256 := by omega
   obtain ⟨W1, hW1⟩ : ∃ W1, wr.alloc (.cells #[.int .u8 f, .int .u8 (ws.length : Int)] 5) = W1 := ⟨_, rfl⟩
   have HB1 : Hid (Below w.heap.size w W1) := by
    rw [← hW1]
    exact (aA HB).alloc hz _
   have HO1 : Hid (W1.ownsRow w.heap.size 5 1 (.slice (some ⟨wr.heap.size, 0, none⟩) 2 2) 2 [.int .u8 f, .int .u8 (ws.length : Int)]) := by
    have hn := heap_alloc_new wr (.cells #[.int .u8 f, .int .u8 (ws.length : Int)] 5)
    rw [hW1] at hn
    exact ⟨rfl, .inr ⟨wr.heap.size, 2, _, rfl, hz, hn, Nat.le_refl _, by unfold maxLen; omega, rfl, rfl⟩⟩
   have HNw : Hid (∀ j u, (ws.map (Value.int .u8))[j]? = some u → W1.cell? ((⟨gb, go, none⟩ : Addr).add j) = some u) := kI fun i hi => by
    rw [← hW1]
    exact (((Below.refl wr.heap.size wr).alloc (Nat.le_refl _) _).cell (by exact hg2)).trans (hgc i hi)
   have HOne := hide (iU ws)
   have HWL := hide hwl
   have HHW := hide hws
   have hz1w := (aA HB1).size
   clear hwl hws hgc hne HO
   subst hW1
   go_wp2_with (at_builtin; go_loud (refine aT _ rfl (.tmp 58) (.tmp 59) 37 rfl w.heap.size 5 i0 (.int .u8 0) 1 1 Tryz.underlying37 hi hz0 hz1 hz2 rfl (by decide) _ 2 [.int .u8 f, .int .u8 (ws.length : Int)] rfl (aA HO1) ⟨gb, go, none⟩ ws.length _ (ws.map (Value.int .u8)) rfl (by simp) (aA HNw) (aA HOne) hp0 (by unfold maxLen; omega) (by omega) (by simp; omega) ?_))
   intro v3 w3 r3 k3
   obtain ⟨a3, n3', c3, rfl⟩ := aP r3
   have hb3 : Below w.heap.size w w3 := bT (aA HB1) (fun j e => (World.ownsRow.lt (aA HO1) j e).1) k3
   have HR3 := hide r3
   clear r3 k3
   go_wp2
   go_ret
   refine ⟨_, rfl, ?_, hb3⟩
   rw [aA HHW]
   unfold Owns
   have := aA HR3
   rw [show (f :: (ws.length : Int) :: ws).length = 2 + ws.length by simp; omega]
   exact this
theorem oT {w : World} {B : Nat} {v : Value} {xs : List Int} {k : Nat} {y : Int} (h : w.ownsRow B 3 1 v (k + 1) (xs.map (Value.int .i64) ++ [.int .i64 y])) (hl : xs.length = k) : aS w B v (xs ++ [y]) := by
 unfold aS
 rw [List.length_append, List.map_append, hl]
 exact h
theorem vP {w : World} {B : Nat} {v : Value} {xs : List Int} {k : Nat} (h : aS w B v xs) (hl : xs.length = k) : w.ownsRow B 3 1 v k (xs.map (Value.int .i64)) := by
 subst hl
 exact h
theorem oQ (f : Nat → Int) (k : Nat) : (List.range (k + 1)).map f = (List.range k).map f ++ [f k] := by
 rw [List.range_succ, List.map_append]
 rfl
theorem aBd (b o c m : Nat) (bs : List Int) (n : Nat) (w : World) (hb : b < w.heap.size) (hcc : ∀ i, i < bs.length → w.cell? ⟨b, o + i, none⟩ = some (.int .u8 (bs.getD i 0))) (hx : Bys bs) (hm : m = bs.length) (hn : (n + 7) / 8 ≤ bs.length) (hn2 : n ≤ 2000) :
  Calls Tryz.prog 178 #[.slice (some ⟨b, o, none⟩) m c, .int .i64 n] w fun e w' => ∃ v, e = .returned v ∧ aS w' w.heap.size v ((List.range n).map fun i => bs.getD (i / 8) 0 / 2 ^ (i % 8) % 2) ∧ Below w.heap.size w w' := by
 obtain ⟨i0, hi, hz0, hz1, hz2⟩ := info_parts kS
 have H := hide hcc
 have HX := hide hx
 have HM := hide hm
 obtain ⟨F, hF⟩ : ∃ F : Nat → Int, F = fun i => bs.getD (i / 8) 0 / 2 ^ (i % 8) % 2 := ⟨_, rfl⟩
 rw [← hF]
 have HF := hide hF
 clear hcc hx hF hm
 go_enter Tryz.func178, Tryz.ntmps178
 go_wp2
 go_loopw [5, 6] (fun l i wr => ∃ k : Nat, k ≤ n ∧ i = .int .i64 k ∧ Hid (aS wr w.heap.size l ((List.range k).map F)) ∧ Hid (Below w.heap.size w wr)) (fun l i _ => n - (intOf i).toNat)
 case atStart => exact ⟨0, by omega, rfl, World.ownsRow_nil _ _ _ _, Below.refl _ _⟩
 case round =>
  obtain ⟨k, hk, rfl, HO, HB⟩ := hrel
  by_cases hlt : k < n
  ·obtain ⟨q, hq⟩ : ∃ q : Nat, k / 8 = q := ⟨_, rfl⟩
   obtain ⟨r, hr8⟩ : ∃ r : Nat, k % 8 = r := ⟨_, rfl⟩
   have hd : (k : Int) / 8 = (q : Int) := by omega
   have hm8 : (k : Int) % 8 = (r : Int) := by omega
   have hmm := aA HM
   have hqN : (q : Int) < (m : Int) := by omega
   have hr7 : (r : Int) ≤ 8 := by omega
   have ck := ((aA HB).cell (by exact hb)).trans (aA H q (by omega))
   have r0 := (aA HX).at q
   have HE : Hid (F k = bs.getD q 0 / 2 ^ r % 2) := by
    show _ = _
    rw [aA HF]
    simp only [hq, hr8]
   generalize bs.getD q 0 = x0 at ck r0 HE
   have hk4 : (k : Int) < (n : Int) := by omega
   have hsh : wrap64 (x0 / 2 ^ r) = x0 / 2 ^ r := by
    have h1 : 0 ≤ x0 / 2 ^ r := Int.ediv_nonneg r0.1 (Int.pow_nonneg (by omega))
    have h2 : x0 / 2 ^ r ≤ x0 := Int.ediv_le_self _ r0.1
    unfold wrap64
    omega
   have hs0 : 0 ≤ x0 / 2 ^ r := Int.ediv_nonneg r0.1 (Int.pow_nonneg (by omega))
   obtain ⟨av, nv, cv, rfl⟩ := aP (aA HO)
   have HO2 := hide (vP (aA HO) (show _ = k by simp))
   have hz := (aA HB).size
   have HX0 : ∃ XS, Hid (((List.range k).map F).map (Value.int .i64) = XS) := ⟨_, rfl⟩
   obtain ⟨XS, HXS⟩ := HX0
   rw [aA HXS] at HO2
   clear hq hr8 hmm HO
   go_wp2_with (first
    | (at_builtin; refine aT _ rfl (.tmp 12) (.tmp 23) 24 rfl w.heap.size 3 i0 (.int .i64 0) 1 8 Tryz.underlying24 hi hz0 hz1 hz2 rfl (by decide) _ k XS rfl (World.ownsRow.alloc (aA HO2) _) ⟨wr.heap.size, 0, none⟩ 1 1 [.int .i64 (x0 / 2 ^ r % 2)] rfl rfl (eE _ #[.int .i64 (x0 / 2 ^ r % 2)] 3) (by simp [Value.oneCell']) (by decide) (by unfold maxLen; omega) (by omega) (by simp; omega) ?_))
   intro v2 w3 r2 k2
   obtain ⟨a2, n2', c2, rfl⟩ := aP r2
   have HR2 := hide r2
   have HB3 : Hid (Below w.heap.size w w3) := bT (aD (aA HB) ((Below.refl _ _).alloc (Nat.le_refl _) _)) (fun j e => (World.ownsRow.lt (aA HO2) j e).1) k2
   clear r2 k2
   go_wp2
   go_roundw
   case rel =>
    refine ⟨k + 1, by omega, by go_num, ?_, HB3⟩
    show aS _ _ _ _
    rw [oQ, aA HE]
    refine oT ?_ (show _ = k by simp)
    rw [aA HXS]
    exact aA HR2
   case measure => simp [intOf]; omega
  ·obtain rfl : k = n := by omega
   go_wp2
   go_ret
   exact ⟨_, rfl, aA HO, aA HB⟩
theorem oA (b o c m : Nat) (bs : List Int) (n : Nat) (w : World) (hb : b < w.heap.size) (hcc : ∀ i, i < bs.length → w.cell? ⟨b, o + i, none⟩ = some (.int .u8 (bs.getD i 0))) (hx : Bys bs) (hm : m = bs.length) (hn : bs.length = 2 * n) (hn2 : n ≤ 1000) :
  Calls Tryz.prog 179 #[.slice (some ⟨b, o, none⟩) m c] w fun e w' => ∃ v, e = .returned v ∧ aS w' w.heap.size v ((List.range n).map fun i => 256 * bs.getD (2 * i) 0 + bs.getD (2 * i + 1) 0) ∧ Below w.heap.size w w' := by
 obtain ⟨i0, hi, hz0, hz1, hz2⟩ := info_parts kS
 have H := hide hcc
 have HX := hide hx
 have HM := hide (hm.trans hn)
 have HN := hide hn
 obtain ⟨F, hF⟩ : ∃ F : Nat → Int, F = fun i => 256 * bs.getD (2 * i) 0 + bs.getD (2 * i + 1) 0 := ⟨_, rfl⟩
 rw [← hF]
 have HF := hide hF
 clear hcc hx hF hm hn
 go_enter Tryz.func179, Tryz.ntmps179
 go_wp2
 go_loopw [3, 4] (fun l i wr => ∃ k j : Nat, k ≤ n ∧ Hid (j = 2 * k) ∧ i = .int .i64 j ∧ Hid (aS wr w.heap.size l ((List.range k).map F)) ∧ Hid (Below w.heap.size w wr)) (fun l i _ => 2 * n - (intOf i).toNat)
 case atStart => exact ⟨0, 0, by omega, rfl, rfl, World.ownsRow_nil _ _ _ _, Below.refl _ _⟩
 case round =>
  obtain ⟨k, j, hk, HJ, rfl, HO, HB⟩ := hrel
  have hj2 : j ≤ 2000 := by have := aA HJ; omega
  by_cases hlt : k < n
  ·have hjm : (j : Int) + 1 < (m : Int) := by have := aA HJ; have := aA HM; omega
   have hjm2 : j + 1 < m := by omega
   have hm1 : m ≤ 140737488355328 := by have := aA HM; omega
   have e0 := aA HJ
   have e1 := aA HN
   have c0 := ((aA HB).cell (by exact hb)).trans (aA H j (by omega))
   have c1 := ((aA HB).cell (by exact hb)).trans (aA H (j + 1) (by omega))
   have r0 := (aA HX).at j
   have r1 := (aA HX).at (j + 1)
   have HE : Hid (F k = 256 * bs.getD j 0 + bs.getD (j + 1) 0) := by
    show _ = _
    rw [aA HF, aA HJ]
   generalize bs.getD j 0 = x0 at c0 r0 HE
   generalize bs.getD (j + 1) 0 = x1 at c1 r1 HE
   obtain ⟨av, nv, cv, rfl⟩ := aP (aA HO)
   have HO2 := hide (vP (aA HO) (show _ = k by simp))
   have hz := (aA HB).size
   have HX0 : ∃ XS, Hid (((List.range k).map F).map (Value.int .i64) = XS) := ⟨_, rfl⟩
   obtain ⟨XS, HXS⟩ := HX0
   rw [aA HXS] at HO2
   clear e0 e1 HO
   go_wp2_with fail
   refine (yZ b o m c j x0 x1 wr hjm2 hm1 c0 c1 r0 r1).mono ?_
   rintro e w2 ⟨rfl, nq, rfl⟩
   have HO3 : Hid ((wr.drewN nq).ownsRow w.heap.size 3 1 (.slice av nv cv) k XS) := aA HO2
   have HB2 : Hid (Below w.heap.size w (wr.drewN nq)) := ⟨(aA HB).os, (aA HB).tape, (aA HB).output, (aA HB).size, (aA HB).block⟩
   clear HO2 HB c0 c1 hz
   generalize wr.drewN nq = W2 at HO3 HB2 ⊢
   have hzd := (aA HB2).size
   go_wp2_with (first
    | (at_builtin; refine aT _ rfl (.tmp 12) (.tmp 16) 24 rfl w.heap.size 3 i0 (.int .i64 0) 1 8 Tryz.underlying24 hi hz0 hz1 hz2 rfl (by decide) _ k XS rfl (World.ownsRow.alloc (aA HO3) _) ⟨W2.heap.size, 0, none⟩ 1 1 [.int .i64 (256 * x0 + x1)] rfl rfl (eE _ #[.int .i64 (256 * x0 + x1)] 3) (by simp [Value.oneCell']) (by decide) (by unfold maxLen; omega) (by omega) (by simp; omega) ?_))
   intro v2 w3 r2 k2
   obtain ⟨a2, n2', c2, rfl⟩ := aP r2
   have HR2 := hide r2
   have HB3 : Hid (Below w.heap.size w w3) := bT (aD (aA HB2) ((Below.refl _ _).alloc (Nat.le_refl _) _)) (fun j e => (World.ownsRow.lt (aA HO3) j e).1) k2
   clear r2 k2
   go_wp2
   go_roundw
   case rel =>
    refine ⟨k + 1, j + 2, by omega, (by show _ = _; have := aA HJ; omega), by go_num, ?_, HB3⟩
    show aS _ _ _ _
    rw [oQ, aA HE]
    refine oT ?_ (show _ = k by simp)
    rw [aA HXS]
    exact aA HR2
   case measure => have := aA HJ; have := aA HM; simp [intOf]; omega
  ·obtain rfl : k = n := by omega
   have hjm : decide ((j : Int) + 1 < (m : Int)) = false := by have := aA HJ; have := aA HM; simp; omega
   go_wp2
   go_ret
   exact ⟨_, rfl, aA HO, aA HB⟩
def fO (w : World) (v : Value) (m : Nat) : Prop :=
 ∃ a n c, v = .slice a n c ∧ n ≤ 1000000000000 ∧ (0 < n → ∃ g o, a = some ⟨g, o, none⟩ ∧ g < w.heap.size ∧ ∀ i, i < n → w.cell? ⟨g, o + i, none⟩ = some (.int .i64 (-1000 - (m : Int))))
theorem fO.kept {w w' : World} {v : Value} {m : Nat} (h : fO w v m) (hs : w.heap.size ≤ w'.heap.size) (hk : ∀ k, k < w.heap.size → v.ownBlock = some k → w'.heap[k]? = w.heap[k]?) : fO w' v m := by
 obtain ⟨a, n, c, rfl, hn, h1⟩ := h
 refine ⟨a, n, c, rfl, hn, fun hp => ?_⟩
 obtain ⟨g, o, rfl, hg, hc⟩ := h1 hp
 exact ⟨g, o, rfl, by omega, fun i hi => by rw [← hc i hi]; exact World.cell?_of_block (hk g hg rfl)⟩
theorem iL (v : Value) (m : Nat) (w : World) (h : fO w v m) (hm : m ≤ 1000000000000) :
  Calls Tryz.prog 100 #[v, .int .i64 m] w fun e w' => e = .returned (.bool true) ∧ w' = w := by
 obtain ⟨a, n, c, rfl, hn, h1⟩ := h
 have H1 := hide h1
 clear h1
 go_enter Tryz.func100, Tryz.ntmps100
 go_wp2
 go_loop [5] (fun i => ∃ k : Nat, k ≤ n ∧ i = .int .i64 k) (fun i => n - (intOf i).toNat)
 case atStart => exact ⟨0, Nat.zero_le _, rfl⟩
 case round =>
  obtain ⟨k, hk, rfl⟩ := hrel
  by_cases hlt : k < n
  ·obtain ⟨g, o, rfl, _, hc⟩ := aA H1 (by omega)
   have c1 := hc k hlt
   clear hc H1
   go_wp2
   all_goals first
    | (go_round
       case rel => exact ⟨k + 1, by omega, by go_num⟩
       case measure => simp [intOf]; omega)
    | (exfalso; simp_all)
  ·go_wp2
   go_ret
   exact ⟨rfl, rfl⟩
theorem wT (v0 v1 v2 v3 : Value) (m : Nat) (w : World) (h0 : fO w v0 m) (h1 : fO w v1 m) (h2 : fO w v2 m) (h3 : fO w v3 m) (hm : m ≤ 1000000000000) :
  Calls Tryz.prog 61 #[.agg #[v0, v1, v2, v3, .int .i64 m]] w fun e w' => e = .returned (.bool true) ∧ Below w.heap.size w w' := by
 have K : ∀ v, fO w v m → fO (w.alloc (.cells #[v0, v1, v2, v3, .int .i64 m] 127)) v m := fun v h => h.kept (by simp) fun k hk _ => Below.heap_alloc _ _ _ hk
 have H0 := hide (K v0 h0)
 have H1 := hide (K v1 h1)
 have H2 := hide (K v2 h2)
 have H3 := hide (K v3 h3)
 clear K h0 h1 h2 h3
 go_enter Tryz.func61, Tryz.ntmps61
 go_wp2_with fail
 refine (iL v0 m _ (aA H0) hm).mono ?_
 rintro e w1 ⟨rfl, rfl⟩
 go_wp2_with fail
 refine (iL v1 m _ (aA H1) hm).mono ?_
 rintro e w1 ⟨rfl, rfl⟩
 go_wp2_with fail
 refine (iL v2 m _ (aA H2) hm).mono ?_
 rintro e w1 ⟨rfl, rfl⟩
 go_wp2_with fail
 refine (iL v3 m _ (aA H3) hm).mono ?_
 rintro e w1 ⟨rfl, rfl⟩
 go_wp2
 go_ret
 exact ⟨rfl, (Below.refl _ _).alloc (Nat.le_refl _) _⟩
namespace I
def rep (n m : Nat) : List Value := List.replicate n (Value.int .i64 (-1000 - (m : Int)))
theorem rep_len (n m : Nat) : (rep n m).length = n := by simp [rep]
theorem rep_add (n k m : Nat) : rep n m ++ rep k m = rep (n + k) m := by simp [rep]
theorem rep_take (n k m : Nat) (h : k ≤ n) : (rep n m).take k = rep k m := by simp [rep, Nat.min_eq_left h]
theorem rep_mark {w : World} {B : Nat} {v : Value} {n m : Nat} (h : w.ownsRow B 3 1 v n (rep n m)) (hn : n ≤ 1000000000000) : fO w v m := by
 obtain ⟨a, c, rfl, h1, h2⟩ := bU h
 refine ⟨a, n, c, rfl, hn, fun hp => ?_⟩
 cases a with
 | none => have := h1 rfl; omega
 | some y =>
  obtain ⟨g, rfl, _⟩ := h2 y rfl
  refine ⟨g, 0, rfl, (World.ownsRow.lt h g rfl).2, fun i hi => ?_⟩
  rw [Nat.zero_add, World.ownsRow.cellAt h i (by omega)]
  simp [rep, hi]
theorem rep_set (k m : Nat) (ys : List Value) (h : k < ys.length) : (rep k m ++ ys.drop k).set k (.int .i64 (-1000 - (m : Int))) = rep (k + 1) m ++ ys.drop (k + 1) := by
 rw [List.set_append_right _ _ (by rw [rep_len]; omega), rep_len, Nat.sub_self, List.drop_eq_getElem_cons h, List.set_cons_zero, ← rep_add k 1 m, List.append_assoc]
 rfl
structure Of (w : World) (B S : Nat) (v : Value) (k : Nat) (v' : Value) (n m : Nat) : Prop where
 own : w.ownsRow B 3 1 v' n (rep n m)
 same : ∀ g cap, v = .slice (some ⟨g, 0, none⟩) k cap → v'.ownBlock = some g → v' = .slice (some ⟨g, 0, none⟩) n cap
 blk : v'.ownBlock = v.ownBlock ∨ ∃ j, S ≤ j ∧ v'.ownBlock = some j
theorem Of.self {w : World} {B S k m : Nat} {v : Value} (h : w.ownsRow B 3 1 v k (rep k m)) : Of w B S v k v k m := ⟨h, fun _ _ e _ => e, .inl rfl⟩
theorem Of.alloc {w : World} {B S k n m : Nat} {v v' : Value} (h : Of w B S v k v' n m) (o : Obj) : Of (w.alloc o) B S v k v' n m := ⟨h.own.alloc o, h.same, h.blk⟩
theorem Of.keep {w w' : World} {B S k n j m : Nat} {v v' vN : Value} (h : Of w B S v k v' n m) (hk : Kept w w' B v vN k j) (r : w'.ownsRow B 3 1 vN (k + j) (rep (k + j) m)) (hn : n ≤ k + j) : Of w' B S v k v' n m := by
 refine ⟨?_, h.same, h.blk⟩
 have e : (rep (k + j) m).take (n * 1) = rep n m := by rw [Nat.mul_one, rep_take _ _ _ hn]
 have := Kept.old (n1 := n) (v1 := v') hk r (by rw [e]; exact h.own) hn h.same
 rwa [e] at this
theorem Of.new {w w' : World} {B S k j m : Nat} {v vN : Value} (hv : w.ownsRow B 3 1 v k (rep k m)) (hk : Kept w w' B v vN k j) (r : w'.ownsRow B 3 1 vN (k + j) (rep (k + j) m)) (hS : S ≤ w.heap.size) : Of w' B S v k vN (k + j) m := by
 refine ⟨r, fun g cap e hb => ?_, ?_⟩
 ·rcases hk with ⟨g', cap', e1, e2, _⟩ | ⟨⟨i, hi, hb'⟩, _⟩
  ·rw [e1] at e
   simp only [Value.slice.injEq, Option.some.injEq, Addr.mk.injEq] at e
   obtain ⟨⟨rfl, _⟩, _, rfl⟩ := e
   exact e2
  ·rw [hb] at hb'
   cases hb'
   have := hv.lt g (by rw [e]; rfl)
   omega
 ·rcases hk with ⟨g', cap', e1, e2, _⟩ | ⟨⟨i, hi, hb'⟩, _⟩
  ·rw [e1, e2]
   exact .inl rfl
  ·exact .inr ⟨i, by omega, hb'⟩
theorem Of.step {w w' : World} {B S k n j m : Nat} {v v' vN : Value} (h : Of w B S v k v' n m) (hk : Kept w w' B v vN k j) (r : w'.ownsRow B 3 1 vN (k + j) (rep k m ++ rep j m)) (hn : n ≤ k + j) : Of w' B S v k v' n m := h.keep hk (by rw [← rep_add]; exact r) hn
theorem Of.step' {w w' : World} {B S k j m : Nat} {v vN : Value} (hv : Of w B S v k v k m) (hk : Kept w w' B v vN k j) (r : w'.ownsRow B 3 1 vN (k + j) (rep k m ++ rep j m)) (hS : S ≤ w.heap.size) : Of w' B S v k vN (k + j) m := Of.new hv.own hk (by rw [← rep_add]; exact r) hS
structure OwnI (w : World) (B : Nat) (v v1 v2 v3 : Value) (m : Nat) (w' : World) : Prop where
 h0 : fO w' v m
 h1 : fO w' v1 m
 h2 : fO w' v2 m
 h3 : fO w' v3 m
 grown : w.grownBy w' v.ownBlock
 b1 : v1.ownBlock = v.ownBlock ∨ ∃ k, w.heap.size ≤ k ∧ v1.ownBlock = some k
 b2 : v2.ownBlock = v.ownBlock ∨ ∃ k, w.heap.size ≤ k ∧ v2.ownBlock = some k
 b3 : v3.ownBlock = v.ownBlock ∨ ∃ k, w.heap.size ≤ k ∧ v3.ownBlock = some k
 lt : ∀ k, (v.ownBlock = some k ∨ v1.ownBlock = some k ∨ v2.ownBlock = some k ∨ v3.ownBlock = some k) → B ≤ k ∧ k < w'.heap.size
theorem info93 : (Tryz.prog.info? 127).map (·.size) = some 5 := by kernel_rfl
theorem Of.mark {w : World} {B S k n m g : Nat} {v v' : Value} (h : Of w B S v k v' n m) (hn : n ≤ 1000000000000) {cs : Array Value} {fr : Nat × Nat} (hg : w.heap[g]? = some (.cells cs 127 fr)) {w' : World} (hw : w.grownBy w' (some g)) : fO w' v' m := by
 refine rep_mark (aJ h.own fun j _ p q => hw.block j p fun e => ?_) hn
 simp only [Option.some.injEq] at e
 subst e
 exact absurd (bV h.own hg q) (by decide)
theorem ownI_end {w w3 : World} {B k m : Nat} {v v1 v2 v3 x0 x1 x2 x3 x4 : Value} {y0 y1 y2 y3 y4 : Value} (s0 : Of w3 B w.heap.size v k v k m) (s1 : Of w3 B w.heap.size v k v1 (k + 1) m) (s2 : Of w3 B w.heap.size v k v2 (k + 2) m) (s3 : Of w3 B w.heap.size v k v3 (k + 3) m) (hk : k ≤ 1000000000)
  (g3 : (w.alloc (.cells #[y0, y1, y2, y3, y4] 127)).grownBy w3 v.ownBlock) (r : w3.heap[w.heap.size]? = some (.cells #[y0, y1, y2, y3, y4] 127 (0, 0))) :
  (set5 w3 w.heap.size x0 x1 x2 x3 x4).heap[w.heap.size]? = some (.cells #[x0, x1, x2, x3, x4] 127 (0, 0)) ∧ OwnI w B v v1 v2 v3 m (set5 w3 w.heap.size x0 x1 x2 x3 x4) := by
 have hw := nZ w3 w.heap.size x0 x1 x2 x3 x4
 refine ⟨qH _ _ _ _ _ r, s0.mark (by omega) r hw, s1.mark (by omega) r hw, s2.mark (by omega) r hw, s3.mark (by omega) r hw, ?_, s1.blk, s2.blk, s3.blk, ?_⟩
 ·exact ((World.grownBy_alloc w _ _).trans g3).andThen hw (fun j e => .inl (by cases e; exact Nat.le_refl _))
 ·have hz := hw.size
  rintro k (e | e | e | e)
  ·have := World.ownsRow.lt s0.own k e; exact ⟨this.1, by omega⟩
  ·have := World.ownsRow.lt s1.own k e; exact ⟨this.1, by omega⟩
  ·have := World.ownsRow.lt s2.own k e; exact ⟨this.1, by omega⟩
  ·have := World.ownsRow.lt s3.own k e; exact ⟨this.1, by omega⟩
theorem ownInts_any (B : Nat) (v : Value) (xs : List Int) (m : Nat) (w : World) (h : aS w B v xs) (hn : xs.length ≤ 1000000000) (hm : m ≤ 1000000000000) (hB : B ≤ w.heap.size) :
  Calls Tryz.prog 144 #[v, .int .i64 m] w fun e w' => ∃ v1 v2 v3, e = .returned (.agg #[v, v1, v2, v3, .int .i64 m]) ∧ OwnI w B v v1 v2 v3 m w' := by
 obtain ⟨i0, hi, hz0, hz1, hz2⟩ := info_parts kS
 have H := hide h
 obtain ⟨oa, ca, rfl, hoa1, hoa2⟩ := bU h
 have HA1 := hide hoa1
 have HA2 := hide hoa2
 clear h hoa1 hoa2
 generalize hnn : xs.length = n at *
 go_enter Tryz.func144, Tryz.ntmps144
 go_wp2
 go_loopw [6] (fun i wr => ∃ k : Nat, k ≤ n ∧ i = .int .i64 k ∧ wr.ownsRow B 3 1 (.slice oa n ca) n (rep k m ++ (xs.map (Value.int .i64)).drop k) ∧ (w.alloc (.cells #[.slice none 0 0, .slice none 0 0, .slice none 0 0, .slice none 0 0, .int .i64 0] 127)).grownBy wr (Value.slice oa n ca).ownBlock) (fun i _ => n - (intOf i).toNat)
 case atStart =>
  refine ⟨0, by omega, rfl, ?_, World.grownBy.refl _ _⟩
  have := World.ownsRow.alloc (aA H) (.cells #[.slice none 0 0, .slice none 0 0, .slice none 0 0, .slice none 0 0, .int .i64 0] 127)
  rw [hnn] at this
  simpa [rep] using this
 case round =>
  obtain ⟨k, hk, rfl, hown, hgr⟩ := hrel
  by_cases hlt : k < n
  ·obtain ⟨x0, rfl⟩ : ∃ x, oa = some x := by
    cases oa with
    | none => have := aA HA1 rfl; omega
    | some x => exact ⟨x, rfl⟩
   obtain ⟨g, rfl, hcc⟩ := aA HA2 x0 rfl
   have c1 := hown.cellAt k (by omega)
   have f1 := hown.frozenAt k
   have st := hown.stored k (.int .i64 (-1000 - (m : Int)))
   have hcell : ∃ y, wr.cell? ⟨g, k, none⟩ = some y := by
    rw [c1]
    have : k < (rep k m ++ (xs.map (Value.int .i64)).drop k).length := by simp [rep]; omega
    exact ⟨_, List.getElem?_eq_getElem this⟩
   obtain ⟨y, d1⟩ := hcell
   have HSt := hide st
   have HGr := hide hgr
   clear hown hgr c1 st
   go_wp2
   go_roundw
   case rel =>
    refine ⟨k + 1, by omega, by go_num, ?_, (aA HGr).trans (aA HSt).2⟩
    have hs := (aA HSt).1
    rw [rep_set k m _ (by simp; omega)] at hs
    exact hs
   case measure => simp [intOf]; omega
  ·have hkn : k = n := by omega
   subst hkn
   have hO : wr.ownsRow B 3 1 (.slice oa k ca) k (rep k m) := by
    have e : (xs.map (Value.int .i64)).drop k = [] := List.drop_eq_nil_of_le (by simp; omega)
    rw [e, List.append_nil] at hown
    exact hown
   have HO := hide hO
   have HGr := hide hgr
   have z0 := hgr.size
   simp at z0
   clear hown hgr hO
   go_wp2_with (at_builtin; refine aT _ rfl (.tmp 22) (.tmp 24) 24 rfl B 3 i0 (.int .i64 0) 1 8 Tryz.underlying24 hi hz0 hz1 hz2 rfl (by decide) _ k (rep k m) rfl (World.ownsRow.alloc (aA HO) _) ⟨wr.heap.size, 0, none⟩ 1 1 [.int .i64 (-1000 - (m : Int))] rfl rfl (eE _ #[.int .i64 (-1000 - (m : Int))] 3) (by simp [Value.oneCell']) (by decide) (by unfold maxLen; omega) (by omega) (by simp; omega) ?_)
   intro v1 w1 r1 k1
   have o0 := (Of.self (S := w.heap.size) (aA HO)).alloc (.cells #[.int .i64 (-1000 - (m : Int))] 3)
   have s0 := o0.step k1 r1 (by omega)
   have s1 := o0.step' k1 r1 (by simp; omega)
   have g1 := ((aA HGr).trans (World.grownBy_alloc wr (.cells #[.int .i64 (-1000 - (m : Int))] 3) _)).trans k1.grown
   have z1 := g1.size
   simp at z1
   obtain ⟨a1, n1, c1, rfl⟩ := aP s1.own
   have S0 := hide s0
   have S1 := hide s1
   have G1 := hide g1
   clear HO HGr o0 s0 s1 g1 k1 r1 z0
   go_wp2_with (at_builtin; refine aT _ rfl (.tmp 26) (.tmp 29) 24 rfl B 3 i0 (.int .i64 0) 1 8 Tryz.underlying24 hi hz0 hz1 hz2 rfl (by decide) _ k (rep k m) rfl (World.ownsRow.alloc (aA S0).own _) ⟨w1.heap.size, 0, none⟩ 2 2 [.int .i64 (-1000 - (m : Int)), .int .i64 (-1000 - (m : Int))] rfl rfl (eE _ #[.int .i64 (-1000 - (m : Int)), .int .i64 (-1000 - (m : Int))] 3) (by simp [Value.oneCell']) (by decide) (by unfold maxLen; omega) (by omega) (by simp; omega) ?_)
   intro v2 w2 r2 k2
   have s0 := ((aA S0).alloc (.cells #[.int .i64 (-1000 - (m : Int)), .int .i64 (-1000 - (m : Int))] 3)).step k2 r2 (by omega)
   have s1 := ((aA S1).alloc (.cells #[.int .i64 (-1000 - (m : Int)), .int .i64 (-1000 - (m : Int))] 3)).step k2 r2 (by omega)
   have s2 := ((aA S0).alloc (.cells #[.int .i64 (-1000 - (m : Int)), .int .i64 (-1000 - (m : Int))] 3)).step' k2 r2 (by simp; omega)
   have g2 := ((aA G1).trans (World.grownBy_alloc w1 (.cells #[.int .i64 (-1000 - (m : Int)), .int .i64 (-1000 - (m : Int))] 3) _)).trans k2.grown
   have z2 := g2.size
   simp at z2
   obtain ⟨a2, n2, c2, rfl⟩ := aP s2.own
   clear S0 S1 G1
   have S0 := hide s0
   have S1 := hide s1
   have S2 := hide s2
   have G2 := hide g2
   clear s0 s1 s2 g2 k2 r2 z1
   go_wp2_with (at_builtin; refine aT _ rfl (.tmp 31) (.tmp 35) 24 rfl B 3 i0 (.int .i64 0) 1 8 Tryz.underlying24 hi hz0 hz1 hz2 rfl (by decide) _ k (rep k m) rfl (World.ownsRow.alloc (aA S0).own _) ⟨w2.heap.size, 0, none⟩ 3 3 [.int .i64 (-1000 - (m : Int)), .int .i64 (-1000 - (m : Int)), .int .i64 (-1000 - (m : Int))] rfl rfl (eE _ #[.int .i64 (-1000 - (m : Int)), .int .i64 (-1000 - (m : Int)), .int .i64 (-1000 - (m : Int))] 3) (by simp [Value.oneCell']) (by decide) (by unfold maxLen; omega) (by omega) (by simp; omega) ?_)
   intro v3 w3 r3 k3
   have s0 := ((aA S0).alloc (.cells #[.int .i64 (-1000 - (m : Int)), .int .i64 (-1000 - (m : Int)), .int .i64 (-1000 - (m : Int))] 3)).step k3 r3 (by omega)
   have s1 := ((aA S1).alloc (.cells #[.int .i64 (-1000 - (m : Int)), .int .i64 (-1000 - (m : Int)), .int .i64 (-1000 - (m : Int))] 3)).step k3 r3 (by omega)
   have s2 := ((aA S2).alloc (.cells #[.int .i64 (-1000 - (m : Int)), .int .i64 (-1000 - (m : Int)), .int .i64 (-1000 - (m : Int))] 3)).step k3 r3 (by omega)
   have s3 := ((aA S0).alloc (.cells #[.int .i64 (-1000 - (m : Int)), .int .i64 (-1000 - (m : Int)), .int .i64 (-1000 - (m : Int))] 3)).step' k3 r3 (by simp; omega)
   have g3 := ((aA G2).trans (World.grownBy_alloc w2 (.cells #[.int .i64 (-1000 - (m : Int)), .int .i64 (-1000 - (m : Int)), .int .i64 (-1000 - (m : Int))] 3) _)).trans k3.grown
   have z3 := g3.size
   simp at z3
   have hne : some w.heap.size ≠ (Value.slice oa k ca).ownBlock := fun e => by have := World.ownsRow.lt (aA H) _ e.symm; omega
   have hres := (g3.block w.heap.size (by simp) hne).trans (heap_alloc_new w _)
   obtain ⟨a3, n3, c3, rfl⟩ := aP s3.own
   clear S0 S1 S2 G2
   have S0 := hide s0
   have S1 := hide s1
   have S2 := hide s2
   have S3 := hide s3
   have G3 := hide g3
   have R := hide hres
   have l0 := cell_of_row _ _ 0 _ _ _ hres
   have l1 := cell_of_row _ _ 1 _ _ _ hres
   have l2 := cell_of_row _ _ 2 _ _ _ hres
   have l3 := cell_of_row _ _ 3 _ _ _ hres
   have l4 := cell_of_row _ _ 4 _ _ _ hres
   have fz : ∀ j, w3.frozen? ⟨w.heap.size, j, none⟩ = false := fun j => frozen_of_row _ _ j _ _ hres
   simp at l0 l1 l2 l3 l4
   clear s0 s1 s2 s3 g3 k3 r3 z2 hres hne
   go_wp2_with (first | (refine nB rfl rfl ?_))
   obtain ⟨f1, f2⟩ := ownI_end (x0 := .slice oa k ca) (x1 := .slice a1 n1 c1) (x2 := .slice a2 n2 c2) (x3 := .slice a3 n3 c3) (x4 := .int .i64 m) (aA S0) (aA S1) (aA S2) (aA S3) hn (aA G3) (aA R)
   exact bodyPost_ret (v := .agg #[.slice oa k ca, .slice a1 n1 c1, .slice a2 n2 c2, .slice a3 n3 c3, .int .i64 m]) (results_cell_row Tryz.results144 _ _ w.heap.size 127 _ (0, 0) _ rfl f1 Tryz.underlying127 rfl info93) rfl ⟨_, _, _, rfl, f2⟩
end I
structure Rec.OkI (w : World) (r : Rec) : Prop where
 h0 : fO w r.v0 r.m
 h1 : fO w r.v1 r.m
 h2 : fO w r.v2 r.m
 h3 : fO w r.v3 r.m
 hm : r.m ≤ 1000000000000
theorem Rec.OkI.kept {w w' : World} {r : Rec} (h : r.OkI w) (hs : w.heap.size ≤ w'.heap.size) (hk : ∀ v, (v = r.v0 ∨ v = r.v1 ∨ v = r.v2 ∨ v = r.v3) → ∀ k, k < w.heap.size → v.ownBlock = some k → w'.heap[k]? = w.heap[k]?) : r.OkI w' :=
 ⟨h.h0.kept hs (hk _ (by simp)), h.h1.kept hs (hk _ (by simp)), h.h2.kept hs (hk _ (by simp)), h.h3.kept hs (hk _ (by simp)), h.hm⟩
structure BookAtI (w : World) (B bw : Nat) (vb vf : Value) (rb rf : List Rec) : Prop where
 c3 : w.cell? ⟨bw, 3, none⟩ = some vb
 c4 : w.cell? ⟨bw, 4, none⟩ = some vf
 c5 : w.cell? ⟨bw, 5, none⟩ = some (.slice none 0 0)
 c6 : w.cell? ⟨bw, 6, none⟩ = some (.slice none 0 0)
 rowB : w.ownsRow B 125 5 vb rb.length (rb.flatMap Rec.cells)
 rowI : w.ownsRow B 127 5 vf rf.length (rf.flatMap Rec.cells)
 okB : ∀ r ∈ rb, r.OkB w
 okI : ∀ r ∈ rf, r.OkI w
theorem BookAtI.below {w w' : World} {B bw : Nat} {vb vf : Value} {rb rf : List Rec} (h : BookAtI w B bw vb vf rb rf) (hb : Below w.heap.size w w') : BookAtI w' B bw vb vf rb rf := by
 have hl : bw < w.heap.size := World.block_lt_of_cell? w _ h.c3
 exact ⟨(hb.cell (by exact hl)).trans h.c3, (hb.cell (by exact hl)).trans h.c4, (hb.cell (by exact hl)).trans h.c5, (hb.cell (by exact hl)).trans h.c6, aJ h.rowB fun k _ p _ => hb.block k p, aJ h.rowI fun k _ p _ => hb.block k p,
  fun r hr => (h.okB r hr).kept hb.size fun _ _ k p _ => hb.block k p, fun r hr => (h.okI r hr).kept hb.size fun _ _ k p _ => hb.block k p⟩
theorem yL (B bw : Nat) (vb vf : Value) (rb rf : List Rec) (w : World) (h : BookAtI w B bw vb vf rb rf) (hb : rb.length ≤ 1000000000) (hf : rf.length ≤ 1000000000) :
  Calls Tryz.prog 41 #[.pointer (some ⟨bw, 3, none⟩)] w fun e w' => e = .returned (.bool true) ∧ Below w.heap.size w w' := by
 obtain ⟨ob, cb, rfl, hob1, hob2⟩ := bU h.rowB
 obtain ⟨of_, cf, rfl, hof1, hof2⟩ := bU h.rowI
 have H := hide h
 have c3 := h.c3
 have c4 := h.c4
 have c5 := h.c5
 have c6 := h.c6
 have HB1 := hide hob1
 have HB2 := hide hob2
 have HF1 := hide hof1
 have HF2 := hide hof2
 have hl : bw < w.heap.size := World.block_lt_of_cell? w _ h.c3
 clear h hob1 hob2 hof1 hof2
 go_enter Tryz.func41, Tryz.ntmps41
 go_wp2
 go_loopw [3, 4] (fun ok i wr => ∃ k : Nat, k ≤ rb.length ∧ ok = .bool true ∧ i = .int .i64 k ∧ Below w.heap.size w wr) (fun _ i _ => rb.length - (intOf i).toNat)
 case atStart => exact ⟨0, Nat.zero_le _, rfl, rfl, Below.refl _ _⟩
 case round =>
  obtain ⟨k, hk, rfl, rfl, hbel⟩ := hrel
  have HBel := hide hbel
  have d3 := (hbel.cell (p := ⟨bw, 3, none⟩) (by exact hl)).trans c3
  have d4 := (hbel.cell (p := ⟨bw, 4, none⟩) (by exact hl)).trans c4
  have d5 := (hbel.cell (p := ⟨bw, 5, none⟩) (by exact hl)).trans c5
  have d6 := (hbel.cell (p := ⟨bw, 6, none⟩) (by exact hl)).trans c6
  by_cases hlt : k < rb.length
  ·obtain ⟨x0, rfl⟩ : ∃ x, ob = some x := by
    cases ob with
    | none => have := aA HB1 rfl; omega
    | some x => exact ⟨x, rfl⟩
   obtain ⟨gb, rfl, hcc⟩ := aA HB2 x0 rfl
   have hr := List.getElem?_eq_getElem hlt
   generalize rb[k] = r at hr
   have hbk := (aA H).below hbel
   have hok := hbk.okB r (List.mem_of_getElem? hr)
   have HOk := hide hok
   have e0 := iO hbk.rowB hr 0 (by omega)
   have e1 := iO hbk.rowB hr 1 (by omega)
   have e2 := iO hbk.rowB hr 2 (by omega)
   have e3 := iO hbk.rowB hr 3 (by omega)
   have e4 := iO hbk.rowB hr 4 (by omega)
   simp only [Rec.cells, List.getElem?_cons_zero, List.getElem?_cons_succ, Nat.add_zero] at e0 e1 e2 e3 e4
   clear hbk hok hbel hr
   go_wp2_with (go_at_call 60; refine (wU _ _ _ _ _ _ (aA HOk).h0 (aA HOk).h1 (aA HOk).h2 (aA HOk).h3 (aA HOk).hm).mono ?_; rintro e w1 ⟨rfl, hb1⟩)
   go_roundw
   case rel => exact ⟨k + 1, by omega, rfl, by go_num, aD (aA HBel) hb1⟩
   case measure => simp [intOf]; omega
  ·clear hbel
   go_wp2_with fail
   go_loopw [3, 6] (fun ok i wq => ∃ k : Nat, k ≤ rf.length ∧ ok = .bool true ∧ i = .int .i64 k ∧ Below w.heap.size w wq) (fun _ i _ => rf.length - (intOf i).toNat)
   case atStart => exact ⟨0, Nat.zero_le _, rfl, rfl, aA HBel⟩
   case round =>
    obtain ⟨k, hk, rfl, rfl, hbel⟩ := hrel
    have HBel3 := hide hbel
    have d3 := (hbel.cell (p := ⟨bw, 3, none⟩) (by exact hl)).trans c3
    have d4 := (hbel.cell (p := ⟨bw, 4, none⟩) (by exact hl)).trans c4
    have d5 := (hbel.cell (p := ⟨bw, 5, none⟩) (by exact hl)).trans c5
    have d6 := (hbel.cell (p := ⟨bw, 6, none⟩) (by exact hl)).trans c6
    by_cases hlt : k < rf.length
    ·obtain ⟨x0, rfl⟩ : ∃ x, of_ = some x := by
      cases of_ with
      | none => have := aA HF1 rfl; omega
      | some x => exact ⟨x, rfl⟩
     obtain ⟨gf, rfl, hcc⟩ := aA HF2 x0 rfl
     have hr := List.getElem?_eq_getElem hlt
     generalize rf[k] = r at hr
     have hbk := (aA H).below hbel
     have hok := hbk.okI r (List.mem_of_getElem? hr)
     have HOk := hide hok
     have e0 := iO hbk.rowI hr 0 (by omega)
     have e1 := iO hbk.rowI hr 1 (by omega)
     have e2 := iO hbk.rowI hr 2 (by omega)
     have e3 := iO hbk.rowI hr 3 (by omega)
     have e4 := iO hbk.rowI hr 4 (by omega)
     simp only [Rec.cells, List.getElem?_cons_zero, List.getElem?_cons_succ, Nat.add_zero] at e0 e1 e2 e3 e4
     clear hbk hok hbel hr
     go_wp2_with (go_at_call 61; refine (wT _ _ _ _ _ _ (aA HOk).h0 (aA HOk).h1 (aA HOk).h2 (aA HOk).h3 (aA HOk).hm).mono ?_; rintro e w1 ⟨rfl, hb1⟩)
     go_roundw
     case rel => exact ⟨k + 1, by omega, rfl, by go_num, aD (aA HBel3) hb1⟩
     case measure => simp [intOf]; omega
    ·clear hbel
     go_wp2_with fail
     go_loopw [3, 8] (fun ok i wq => ok = .bool true ∧ i = .int .i64 0 ∧ Below w.heap.size w wq) (fun _ _ _ => 0)
     case atStart => exact ⟨rfl, rfl, aA HBel3⟩
     case round =>
      obtain ⟨rfl, rfl, hbel⟩ := hrel
      have HBel5 := hide hbel
      have d5 := (hbel.cell (p := ⟨bw, 5, none⟩) (by exact hl)).trans c5
      have d6 := (hbel.cell (p := ⟨bw, 6, none⟩) (by exact hl)).trans c6
      clear hbel
      go_wp2_with fail
      go_loopw [3, 10] (fun ok i wq => ok = .bool true ∧ i = .int .i64 0 ∧ Below w.heap.size w wq) (fun _ _ _ => 0)
      case atStart => exact ⟨rfl, rfl, aA HBel5⟩
      case round =>
       obtain ⟨rfl, rfl, hbel⟩ := hrel
       have HBel4 := hide hbel
       have d6 := (hbel.cell (p := ⟨bw, 6, none⟩) (by exact hl)).trans c6
       clear hbel
       go_wp2
       go_ret
       exact ⟨rfl, aA HBel4⟩
def gP (c0 c1 c2 vb vi : Value) : Array Value := #[c0, c1, c2, vb, vi, .slice none 0 0, .slice none 0 0]
structure BookJ (w : World) (B bw : Nat) (c0 c1 c2 vb vf : Value) (rb rf : List Rec) : Prop where
 row : w.heap[bw]? = some (.cells (gP c0 c1 c2 vb vf) 91 (0, 0))
 rowB : w.ownsRow B 125 5 vb rb.length (rb.flatMap Rec.cells)
 rowI : w.ownsRow B 127 5 vf rf.length (rf.flatMap Rec.cells)
 okB : ∀ r ∈ rb, r.OkB w
 okI : ∀ r ∈ rf, r.OkI w
 sep : ∀ r, (r ∈ rb ∨ r ∈ rf) → ∀ k, r.has k → B ≤ k ∧ k < w.heap.size ∧ k ≠ bw ∧ vb.ownBlock ≠ some k ∧ vf.ownBlock ≠ some k
theorem BookJ.at {w : World} {B bw : Nat} {c0 c1 c2 vb vf : Value} {rb rf : List Rec} (h : BookJ w B bw c0 c1 c2 vb vf rb rf) : BookAtI w B bw vb vf rb rf :=
 ⟨cell_of_row _ _ 3 _ _ _ h.row, cell_of_row _ _ 4 _ _ _ h.row, cell_of_row _ _ 5 _ _ _ h.row, cell_of_row _ _ 6 _ _ _ h.row, h.rowB, h.rowI, h.okB, h.okI⟩
theorem BookJ.chg {w w' : World} {B bw : Nat} {c0 c1 c2 vb vf : Value} {rb rf : List Rec} {D : Nat → Prop} (h : BookJ w B bw c0 c1 c2 vb vf rb rf) (k : Chg w w' D) (hb : ¬ D bw) (hvb : ∀ i, vb.ownBlock = some i → ¬ D i) (hvf : ∀ i, vf.ownBlock = some i → ¬ D i)
  (hr : ∀ r, (r ∈ rb ∨ r ∈ rf) → ∀ i, r.has i → ¬ D i) : BookJ w' B bw c0 c1 c2 vb vf rb rf := by
 refine ⟨(k.block bw (Array.getElem?_eq_some_iff.1 h.row).1 hb).trans h.row, aJ h.rowB fun i _ p q => k.block i p (hvb i q), aJ h.rowI fun i _ p q => k.block i p (hvf i q), fun r m => ?_, fun r m => ?_, fun r m i q => ?_⟩
 ·refine (h.okB r m).kept k.size fun v hv i p q => k.block i p (hr r (.inl m) i ?_)
  rcases hv with rfl | rfl | rfl | rfl <;> simp [Rec.has, q]
 ·refine (h.okI r m).kept k.size fun v hv i p q => k.block i p (hr r (.inr m) i ?_)
  rcases hv with rfl | rfl | rfl | rfl <;> simp [Rec.has, q]
 ·have := h.sep r m i q
  have z := k.size
  exact ⟨this.1, by omega, this.2.2⟩
structure BytedI (w : World) (B bw : Nat) (c0 c1 c2 vb vf : Value) (rb rf : List Rec) (v : Value) (w' : World) : Prop where
 out : ∃ vb' r, BookJ w' B bw c0 c1 c2 vb' vf (rb ++ [r]) rf ∧ (vb'.ownBlock = vb.ownBlock ∨ ∃ k, w.heap.size ≤ k ∧ vb'.ownBlock = some k) ∧ ∀ k, r.has k → v.ownBlock = some k ∨ w.heap.size ≤ k
 chg : Chg w w' (fun k => k = bw ∨ vb.ownBlock = some k ∨ v.ownBlock = some k)
theorem aB3 {w w1 M w9 : World} {B bw : Nat} {c0 c1 c2 vb vf v v1 v2 v3 vb' : Value} {rb rf : List Rec} {xs : List Int} (h : BookJ w B bw c0 c1 c2 vb vf rb rf) (hv : Owns w B v xs) (hfree : ∀ r, (r ∈ rb ∨ r ∈ rf) → ∀ k, r.has k → v.ownBlock ≠ some k)
  (ho : OwnB w B v v1 v2 v3 rb.length w1) (hm : rb.length ≤ 1000000000000) (hM : Below w1.heap.size w1 M) (hg : M.grownBy w9 vb.ownBlock) (hr : w9.ownsRow B 125 5 vb' (rb.length + 1) (rb.flatMap Rec.cells ++ [v, v1, v2, v3, .int .i64 rb.length])) (hat : vb.ownBlock = vb'.ownBlock ∨ ∃ k, w1.heap.size ≤ k ∧ vb'.ownBlock = some k) :
  BytedI w B bw c0 c1 c2 vb vf rb rf v (w9.setCell ⟨bw, 3, none⟩ vb') := by
 have hbw : bw < w.heap.size := (Array.getElem?_eq_some_iff.1 h.row).1
 have tb : ∀ k, vb.ownBlock = some k → k < w.heap.size := fun k e => (World.ownsRow.lt h.rowB k e).2
 have tv : ∀ k, v.ownBlock = some k → k < w.heap.size := fun k e => (World.ownsRow.lt hv k e).2
 have nbv : ∀ k, vb.ownBlock = some k → v.ownBlock ≠ some k := fun k e e' => by
  obtain ⟨cs, fr, hh⟩ : ∃ cs fr, w.heap[k]? = some (.cells cs 125 fr) := bH h.rowB e
  exact absurd (bV hv hh e') (by decide)
 have nfv : ∀ k, vf.ownBlock = some k → v.ownBlock ≠ some k := fun k e e' => by
  obtain ⟨cs, fr, hh⟩ : ∃ cs fr, w.heap[k]? = some (.cells cs 127 fr) := bH h.rowI e
  exact absurd (bV hv hh e') (by decide)
 have nwv : v.ownBlock ≠ some bw := fun e => absurd (bV hv h.row e) (by decide)
 have nwb : vb.ownBlock ≠ some bw := fun e => absurd (bV h.rowB h.row e) (by decide)
 have nwf : vf.ownBlock ≠ some bw := fun e => absurd (bV h.rowI h.row e) (by decide)
 have nbf : ∀ k, vb.ownBlock = some k → vf.ownBlock ≠ some k := fun k e e' => by
  obtain ⟨cs, fr, hh⟩ : ∃ cs fr, w.heap[k]? = some (.cells cs 125 fr) := bH h.rowB e
  exact absurd (bV h.rowI hh e') (by decide)
 have tf : ∀ k, vf.ownBlock = some k → k < w.heap.size := fun k e => (World.ownsRow.lt h.rowI k e).2
 have z1 := ho.grown.size
 have z2 := hM.size
 have z3 := hg.size
 have z4 : (w9.setCell ⟨bw, 3, none⟩ vb').heap.size = w9.heap.size := by simp [World.setCell]
 have C : Chg w (w9.setCell ⟨bw, 3, none⟩ vb') (fun k => k = bw ∨ vb.ownBlock = some k ∨ v.ownBlock = some k) :=
  ((((Chg.of_grown ho.grown).mono (E := fun k => k = bw ∨ vb.ownBlock = some k ∨ v.ownBlock = some k) fun i _ e => .inr (.inr e)).trans (Chg.of_below hM (fun _ => False)) (fun _ e _ => e.elim)).trans (Chg.of_grown hg) (fun _ e _ => .inr (.inl e))).trans (Chg.set w9 bw 3 vb') (fun _ e _ => .inl e)
 have hnew : ∀ k, (Rec.mk v v1 v2 v3 rb.length).has k → v.ownBlock = some k ∨ w.heap.size ≤ k := by
  rintro k (e | e | e | e)
  ·exact .inl e
  ·rcases ho.b1 with q | ⟨j, hj, q⟩
   ·exact .inl (q.symm.trans e)
   ·have : j = k := by have := q.symm.trans e; simpa using this
    exact .inr (by omega)
  ·rcases ho.b2 with q | ⟨j, hj, q⟩
   ·exact .inl (q.symm.trans e)
   ·have : j = k := by have := q.symm.trans e; simpa using this
    exact .inr (by omega)
  ·rcases ho.b3 with q | ⟨j, hj, q⟩
   ·exact .inl (q.symm.trans e)
   ·have : j = k := by have := q.symm.trans e; simpa using this
    exact .inr (by omega)
 have nb : ∀ k, (Rec.mk v v1 v2 v3 rb.length).has k → k ≠ bw ∧ vb.ownBlock ≠ some k ∧ vf.ownBlock ≠ some k := fun k e => by
  rcases hnew k e with q | q
  ·exact ⟨fun e' => nwv (by rw [q, e']), fun e' => nbv k e' q, fun e' => nfv k e' q⟩
  ·exact ⟨by omega, fun e' => by have := tb k e'; omega, fun e' => by have := tf k e'; omega⟩
 have old : ∀ r, (r ∈ rb ∨ r ∈ rf) → ∀ k, r.has k → ¬ (k = bw ∨ vb.ownBlock = some k ∨ v.ownBlock = some k) := fun r m k e => by
  have q := h.sep r m k e
  rintro (e' | e' | e')
  ·exact q.2.2.1 e'
  ·exact q.2.2.2.1 e'
  ·exact hfree r m k e e'
 have same1 : ∀ k, k < w1.heap.size → k ≠ bw → vb.ownBlock ≠ some k → (w9.setCell ⟨bw, 3, none⟩ vb').heap[k]? = w1.heap[k]? := fun k p n1 n2 => by
  rw [heap_setCell_other _ _ _ _ (fun e => n1 e), hg.block k (by omega) (fun e => n2 e.symm), hM.block k p]
 have row9 : w9.heap[bw]? = some (.cells (gP c0 c1 c2 vb vf) 91 (0, 0)) := by
  rw [hg.block bw (by omega) (fun e => nwb e.symm), hM.block bw (by omega), ho.grown.block bw hbw (fun e => nwv e.symm)]
  exact h.row
 have nwb' : vb'.ownBlock ≠ some bw := fun e => absurd (bV hr row9 e) (by decide)
 have oknew : (Rec.mk v v1 v2 v3 rb.length).OkB (w9.setCell ⟨bw, 3, none⟩ vb') := by
  have h0 : (Rec.mk v v1 v2 v3 rb.length).OkB w1 := ⟨ho.h0, ho.h1, ho.h2, ho.h3, hm⟩
  refine h0.kept (by omega) fun u hu k p q => ?_
  have hk : (Rec.mk v v1 v2 v3 rb.length).has k := by rcases hu with rfl | rfl | rfl | rfl <;> simp [Rec.has, q]
  exact same1 k p (nb k hk).1 (nb k hk).2.1
 refine ⟨⟨vb', ⟨v, v1, v2, v3, rb.length⟩, ⟨?_, ?_, ?_, ?_, ?_, ?_⟩, ?_, hnew⟩, C⟩
 ·have := heap_setCell_same w9 bw 3 _ 91 vb' row9
  simpa [gP] using this
 ·have q : w9.ownsRow B 125 5 vb' (rb ++ [Rec.mk v v1 v2 v3 rb.length]).length ((rb ++ [Rec.mk v v1 v2 v3 rb.length]).flatMap Rec.cells) := by
   simpa [Rec.cells] using hr
  exact aJ q fun i _ p e => heap_setCell_other _ _ _ _ (fun e' => nwb' (by rw [e, e']))
 ·exact aJ h.rowI fun i _ p e => C.block i p (by
   rintro (e' | e' | e')
   ·exact nwf (by rw [e, e'])
   ·exact nbf i e' e
   ·exact nfv i e e')
 ·intro r m
  rcases List.mem_append.1 m with m | m
  ·refine (h.okB r m).kept C.size fun u hu i p q => C.block i p (old r (.inl m) i ?_)
   rcases hu with rfl | rfl | rfl | rfl <;> simp [Rec.has, q]
  ·rw [List.mem_singleton.1 m]
   exact oknew
 ·intro r m
  refine (h.okI r m).kept C.size fun u hu i p q => C.block i p (old r (.inr m) i ?_)
  rcases hu with rfl | rfl | rfl | rfl <;> simp [Rec.has, q]
 ·intro r m k e
  have oldr : (r ∈ rb ∨ r ∈ rf) → B ≤ k ∧ k < (w9.setCell ⟨bw, 3, none⟩ vb').heap.size ∧ k ≠ bw ∧ vb'.ownBlock ≠ some k ∧ vf.ownBlock ≠ some k := fun m => by
   have q := h.sep r m k e
   refine ⟨q.1, by omega, q.2.2.1, fun e' => ?_, q.2.2.2.2⟩
   rcases hat with a | ⟨j, hj, a⟩
   ·exact q.2.2.2.1 (a.trans e')
   ·have : j = k := by have := a.symm.trans e'; simpa using this
    omega
  rcases m with m | m
  ·rcases List.mem_append.1 m with m | m
   ·exact oldr (.inl m)
   ·rw [List.mem_singleton.1 m] at e
    have q := ho.lt k e
    have n := nb k e
    refine ⟨q.1, by omega, n.1, fun e' => ?_, n.2.2⟩
    rcases hat with a | ⟨j, hj, a⟩
    ·exact n.2.1 (a.trans e')
    ·have : j = k := by have := a.symm.trans e'; simpa using this
     omega
  ·exact oldr (.inr m)
 ·rcases hat with a | ⟨j, hj, a⟩
  ·exact .inl a.symm
  ·exact .inr ⟨j, by omega, a⟩
theorem aB4 (B bw : Nat) (c0 c1 c2 vb vf v : Value) (rb rf : List Rec) (xs : List Int) (w : World) (h : BookJ w B bw c0 c1 c2 vb vf rb rf) (hv : Owns w B v xs) (hfree : ∀ r, (r ∈ rb ∨ r ∈ rf) → ∀ k, r.has k → v.ownBlock ≠ some k)
  (hn : xs.length ≤ 1000000000) (hb : rb.length ≤ 1000000000) (hB : B ≤ w.heap.size) :
  Calls Tryz.prog 54 #[.pointer (some ⟨bw, 3, none⟩), v] w fun e w' => e = .returned (.tuple #[]) ∧ BytedI w B bw c0 c1 c2 vb vf rb rf v w' := by
 obtain ⟨i0, hi, hz0, hz1, hz2⟩ := info_parts aFu
 obtain ⟨ob, cb, rfl, hob1, hob2⟩ := bU h.rowB
 obtain ⟨av, nv, cv, rfl⟩ := aP hv
 have H := hide h
 have HV := hide hv
 have HF := hide hfree
 have q3 := h.at.c3
 clear h hv hfree
 go_enter Tryz.func54, Tryz.ntmps54
 go_wp2_with fail
 refine (sT B _ xs rb.length w (aA HV) hn (by omega) hB).mono ?_
 rintro e w1 ⟨v1, v2, v3, rfl, hob⟩
 obtain ⟨a1, n1, k1, rfl, _, _⟩ := id hob.h1
 obtain ⟨a2, n2, k2, rfl, _, _⟩ := id hob.h2
 obtain ⟨a3, n3, k3, rfl, _, _⟩ := id hob.h3
 have hr1 : w1.heap[bw]? = some (.cells (gP c0 c1 c2 (.slice ob rb.length cb) vf) 91 (0, 0)) :=
  (hob.grown.block bw (Array.getElem?_eq_some_iff.1 (aA H).row).1 (fun e => absurd (bV (aA HV) (aA H).row e.symm) (by decide))).trans (aA H).row
 have q4 := cell_of_row _ _ 3 _ _ _ hr1
 have f4 := frozen_of_row _ _ 3 _ _ hr1
 simp [gP] at q4
 have hbw : bw < w1.heap.size := (Array.getElem?_eq_some_iff.1 hr1).1
 have HOB := hide hob
 have HS9 : Hid (∀ (M w9 : World), M.grownBy w9 (Value.slice ob rb.length cb).ownBlock → M.heap = ((w1.alloc (.cells #[.slice av nv cv, .slice a1 n1 k1, .slice a2 n2 k2, .slice a3 n3 k3, .int .i64 rb.length] 125)).alloc (.cells #[.slice av nv cv, .slice a1 n1 k1, .slice a2 n2 k2, .slice a3 n3 k3, .int .i64 rb.length] 125)).heap → w9.cell? ⟨bw, 3, none⟩ = some (.slice ob rb.length cb) ∧ w9.frozen? ⟨bw, 3, none⟩ = false) := fun M w9 g e => by
  have r9 := qF hr1 e g (fun e => absurd (bV (aA H).rowB (aA H).row e.symm) (by decide))
  exact ⟨cell_of_row _ _ 3 _ _ _ r9, frozen_of_row _ _ 3 _ _ r9⟩
 clear q3 hr1 hob
 go_wp2_with fail
 have HOne : Hid (∀ u ∈ ([.slice av nv cv, .slice a1 n1 k1, .slice a2 n2 k2, .slice a3 n3 k3, .int .i64 rb.length] : List Value), u.oneCell' = true) := by
  intro u hu
  simp at hu
  rcases hu with rfl | rfl | rfl | rfl | rfl <;> rfl
 have HRow : Hid (w1.ownsRow B 125 5 (.slice ob rb.length cb) rb.length (rb.flatMap Rec.cells)) := aJ (aA H).rowB fun i _ p q => (aA HOB).grown.block i p fun e => by
  obtain ⟨cs, fr, hh⟩ := bH (aA H).rowB q
  exact absurd (bV (aA HV) hh e.symm) (by decide)
 have hB1 : B ≤ w1.heap.size := Nat.le_trans hB (aA HOB).grown.size
 generalize eRC : rb.flatMap Rec.cells = RC at HRow
 have ERC := hide eRC
 clear eRC
 have hbwne : bw ≠ w1.heap.size := by omega
 go_region_law (first
  | (refine step_append_lies _ ?hg (.tmp 16) (.tmp 18) 84 ?ho B 125 i0 (.agg #[.slice none 0 0, .slice none 0 0, .slice none 0 0, .slice none 0 0, .int .i64 0]) 5 104 Tryz.underlying84 hi hz0 hz1 hz2 rfl (by decide) (.slice ob rb.length cb) rb.length RC ?hs ?hw
      ⟨w1.heap.size + 1, 0, none⟩ 1 1 [.slice av nv cv, .slice a1 n1 k1, .slice a2 n2 k2, .slice a3 n3 k3, .int .i64 rb.length] ?hx rfl ?hc (aA HOne) (by decide) ?h6 ?hb ?hz (w1.heap.size + 2) ?hH ?_
     case ho => exact rfl
     case hg => exact rfl
     case hs => exact rfl
     case hx => exact rfl
     case hw => exact vR (World.ownsRow.alloc (World.ownsRow.alloc (aA HRow) (.cells #[.slice av nv cv, .slice a1 n1 k1, .slice a2 n2 k2, .slice a3 n3 k3, .int .i64 rb.length] 125)) (.cells #[.slice av nv cv, .slice a1 n1 k1, .slice a2 n2 k2, .slice a3 n3 k3, .int .i64 rb.length] 125)) rfl
     case hc => exact qS (cs := #[.slice av nv cv, .slice a1 n1 k1, .slice a2 n2 k2, .slice a3 n3 k3, .int .i64 rb.length]) (t := 125) (lL (w := w1) (o := .cells #[.slice av nv cv, .slice a1 n1 k1, .slice a2 n2 k2, .slice a3 n3 k3, .int .i64 rb.length] 125) rfl)
     case h6 => unfold maxLen; omega
     case hb => omega
     case hz => simp; omega
     case hH => simp
     intro g9 cap9 w9 o9 gr9 h9 l9
     obtain ⟨s91, s92⟩ := aA HS9 _ w9 gr9 rfl)
  | fail)
 all_goals
  refine bodyPost_end (v := .tuple #[]) (by simp [results, Tryz.results54]) rfl ⟨rfl, ?_⟩
  refine aB3 (w1 := w1) (aA H) (aA HV) (aA HF) (aA HOB) (by omega) ?_ gr9 (by rw [aA ERC]; exact o9) ?_
  ·repeat (first | exact Below.refl _ _ | refine Below.drew ?_ | refine Below.alloc ?_ (by first | (simp; done) | (simp; omega)) _)
  ·rcases h9 with h9 | h9
   ·exact .inl h9
   ·exact .inr ⟨g9, by omega, rfl⟩
end Go.Proofs.YtfekelmldebplaaGreatDoor
