import Derived.Deep.DeepCutAuto
import Derived.Test.YtfekelmldebplaaGreatDoorZa
import Derived.Test.YtfekelmldebplaaGreatDoorUc
import Derived.Test.YtfekelmldebplaaGreatDoorBb
set_option maxRecDepth 100000
set_option maxHeartbeats 8000000
namespace Go.Proofs.YtfekelmldebplaaGreatDoor
open Go.RowKit
theorem uC {P : Program} {o : Oper} {A : Act} {w w' : World} {K : Act → World → Prop} {Q : Exit → Act → World → Prop} {v : Value} (hr : (execOp A.eval o).run P w = .ok (.value v) w') (h : K (A.put o.dst v) w') : o.wp P A w K Q := by
 unfold Oper.wp
 rw [hr]
 exact h
theorem uD {P : Program} {o : Oper} {A : Act} {w w' : World} {K : Act → World → Prop} {Q : Exit → Act → World → Prop} {f : FuncId} {args : Array Value} (hr : (execOp A.eval o).run P w = .ok (.enter f args) w') (R : Ending → World → Prop) (hc : Calls P f args w' R) (h : ∀ e w'', R e w'' → ∃ r, e = .returned r ∧ K (A.put o.dst r) w'') : o.wp P A w K Q := by
 unfold Oper.wp
 rw [hr]
 refine hc.mono ?_
 intro e w'' he
 obtain ⟨r, rfl, hk⟩ := h e w'' he
 exact hk
theorem aB {P : Program} {o : Oper} {A : Act} {w w' : World} {Q : Exit → Act → World → Prop} {R : Value → World → Prop} {Le : World → World → Prop} {S : World → Prop} {v : Value} (d : Nat) (hd : o.dst = some d) (hr : (execOp A.eval o).run P w = .ok (.value v) w') (hR : R v w') (hL : Le w w') (hS : S w') :
  Does P o A w R Le S Q := ⟨uC hr ⟨v, rfl, by rw [hd]; exact hR, hL, hS⟩⟩
theorem aN {P : Program} {o : Oper} {A : Act} {w w' : World} {Q : Exit → Act → World → Prop} {R : Value → World → Prop} {Le : World → World → Prop} {S : World → Prop} {f : FuncId} {args : Array Value} (d : Nat) (hd : o.dst = some d) (hr : (execOp A.eval o).run P w = .ok (.enter f args) w') (C : Ending → World → Prop) (hc : Calls P f args w' C) (h : ∀ e w'', C e w'' → ∃ v, e = .returned v ∧ R v w'' ∧ Le w w'' ∧ S w'') :
  Does P o A w R Le S Q := ⟨uD hr C hc fun e w'' he => by
 obtain ⟨v, rfl, h1, h2, h3⟩ := h e w'' he
 exact ⟨v, rfl, v, rfl, by rw [hd]; exact h1, h2, h3⟩⟩
theorem dB (a : Act) (ds : List (Option Nat)) (u : Nat → Value) (k : Nat) (hk : some k ∈ ds) (hs : k < a.tmps.size) : (over a ds u).eval (.tmp k) = u k := by
 simp [Act.eval, fI u k ds a hs, hk]
theorem aQ (a : Act) (ds : List (Option Nat)) (u : Nat → Value) (k : Nat) (hk : some k ∉ ds) (hs : k < a.tmps.size) : (over a ds u).eval (.tmp k) = a.eval (.tmp k) := by
 simp [Act.eval, fI u k ds a hs, hk]
def inS (ds : List (Option Nat)) (n k : Nat) : Bool := ds.contains (some k) && Nat.blt k n
def outS (ds : List (Option Nat)) (n k : Nat) : Bool := !ds.contains (some k) && Nat.blt k n
theorem cQ (a : Act) (ds : List (Option Nat)) (n : Nat) (hs : n ≤ a.tmps.size) (u : Nat → Value) (k : Nat) (h : inS ds n k = true) : (over a ds u).eval (.tmp k) = u k := by
 unfold inS at h
 rw [Bool.and_eq_true] at h
 have : k < n := by have := h.2; rwa [Nat.blt_eq] at this
 exact dB a ds u k (by simpa using h.1) (by omega)
theorem cF (a : Act) (ds : List (Option Nat)) (n : Nat) (hs : n ≤ a.tmps.size) (u : Nat → Value) (k : Nat) (h : outS ds n k = true) : (over a ds u).eval (.tmp k) = a.eval (.tmp k) := by
 unfold outS at h
 rw [Bool.and_eq_true] at h
 have : k < n := by have := h.2; rwa [Nat.blt_eq] at this
 exact aQ a ds u k (by simpa using h.1) (by omega)
section
variable {ev : Operand → Value} {w : World} {dst : Option Tmp} {T : TypeId} {p : String} {af : Array Edge} {g : Option (Nat × Bool)}
theorem aC (x : Operand) : (execOp ev { dst := dst, op := .move x, type := T, pos := p, after := af, guard := g }).run Tryz.prog w = .ok (.value (ev x)) w := by
 simp [go_sem]
theorem aX (x : Operand) : (execOp ev { dst := dst, op := .assign x, type := T, pos := p, after := af, guard := g }).run Tryz.prog w = .ok (.value (ev x)) w := by
 simp [go_sem]
theorem qN (f : FuncId) (x : Operand) (ts : Array TypeId) (hf : ev (.func f) = .func (.func f) #[] #[]) (hc : ∀ args w, (callFunc f args).run Tryz.prog w = .ok (.enter f args) w) : (execOp ev { dst := dst, op := .call { callee := .value (.func f), args := #[x], argTypes := ts }, type := T, pos := p, after := af, guard := g }).run Tryz.prog w = .ok (.enter f #[ev x]) w := by
 simp [go_sem, hf, hc]
theorem aE7 (x : Operand) (a : Option Addr) (n c : Nat) (hx : ev x = .slice a n c) : (execOp ev { dst := dst, op := .call { callee := .builtin .len, args := #[x], argTypes := #[37] }, type := 3, pos := p, after := af, guard := g }).run Tryz.prog w = .ok (.value (.int .i64 n)) w := by
 simp [go_sem, hx]
theorem run_make (x : Operand) (n : Nat) (hx : ev x = .int .i64 n) (hn : n ≤ 1000000) : (execOp ev { dst := dst, op := .makeSlice 37 x x, type := T, pos := p, after := af, guard := g }).run Tryz.prog w = .ok (.value (.slice (some ⟨w.heap.size, 0, none⟩) n n)) (w.alloc (.cells ((List.replicate n (0 : Int)).map (Value.int .u8)).toArray 5)) := by
 have := yK n hn w
 simp [go_sem, hx, this]
end
theorem aG {P : Program} {ops : Array Oper} {Q : Exit → Act → World → Prop} {rest : List Oper} {o : Oper} {a : Act} {w w' : World} {v : Value} (hg : o.guard = none) (hr : (execOp a.eval o).run P w = .ok (.value v) w') (h : wpList P ops Q rest (a.put o.dst v) w') : wpList P ops Q (o :: rest) a w :=
 wpList_plain hg fun _ hK => uC hr (hK _ _ h)
def sumN (xs : List Int) (N : Nat) : Nat → List Int
 | 0 => List.replicate N 0
 | k + 1 => (sumN xs N k).set (k / 8) (((sumN xs N k).getD (k / 8) 0 + xs.getD k 0 * 2 ^ (k % 8)) % 256)
theorem uH (xs : List Int) (N k : Nat) : (sumN xs N k).length = N := by
 induction k with
 | zero => simp [sumN]
 | succ k ih => simp [sumN, ih]
theorem aAl (f : Int) (b o c : Nat) (xs : List Int) (w : World) (hf : f ≤ 2) (hb0 : b < w.heap.size) (hcc : ∀ i, i < xs.length → w.cell? ⟨b, o + i, none⟩ = some (.int .i64 (xs.getD i 0))) (hx : ∀ x ∈ xs, x = 0 ∨ x = 1) (h1 : 1 ≤ xs.length) (hn : xs.length ≤ 2000) :
  Calls Tryz.prog 148 #[.int .u8 f, .slice (some ⟨b, o, none⟩) xs.length c] w fun e w' => ∃ v', e = .returned v' ∧ Owns w' w.heap.size v' (f :: (((xs.length + 7) / 8 : Nat) : Int) :: sumN xs ((xs.length + 7) / 8) xs.length) ∧ Below w.heap.size w w' := by
 have H := hide hcc
 have HX := hide hx
 obtain ⟨N, hN⟩ : ∃ N : Nat, (xs.length + 7) / 8 = N := ⟨_, rfl⟩
 have hN' : ((xs.length : Int) + 7) / 8 = (N : Int) := by omega
 have hN2 : N ≤ 250 := by omega
 have hN3 : 1 ≤ N := by omega
 rw [hN]
 have HN := hide hN
 have hmk := yK N (by omega)
 have HZ : Hid ((w.alloc (.cells ((List.replicate N (0 : Int)).map (Value.int .u8)).toArray 5)).heap[w.heap.size]? = some (.cells ((sumN xs N 0).map (Value.int .u8)).toArray 5 (0, 0))) := heap_alloc_new w _
 have HB0 : Hid (Below w.heap.size w (w.alloc (.cells ((List.replicate N (0 : Int)).map (Value.int .u8)).toArray 5))) := (Below.refl _ _).alloc (Nat.le_refl _) _
 generalize ((List.replicate N (0 : Int)).map (Value.int .u8)) = Z at hmk HB0 HZ
 clear hcc hx hN
 go_enter Tryz.func148, Tryz.ntmps148
 go_wp2
 go_loopw [6] (fun i wr => ∃ t : Nat, t ≤ xs.length ∧ i = .int .i64 t ∧ Hid (wr.heap[w.heap.size]? = some (.cells ((sumN xs N t).map (Value.int .u8)).toArray 5 (0, 0))) ∧ Hid (Below w.heap.size w wr)) (fun i _ => xs.length - (intOf i).toNat)
 case atStart => exact ⟨0, by omega, rfl, HZ, HB0⟩
 case round =>
  obtain ⟨t, ht, rfl, HR, HB⟩ := hrel
  by_cases hlt : t < xs.length
  ·have ck := ((aA HB).cell (by exact hb0)).trans (aA H t hlt)
   have hx01 := aA HX (xs.getD t 0) (by simp [List.getD, List.getElem?_eq_getElem hlt])
   obtain ⟨q, hq⟩ : ∃ q : Nat, t / 8 = q := ⟨_, rfl⟩
   obtain ⟨r, hr8⟩ : ∃ r : Nat, t % 8 = r := ⟨_, rfl⟩
   have hd : (t : Int) / 8 = (q : Int) := by omega
   have hm8 : (t : Int) % 8 = (r : Int) := by omega
   have hqN : (q : Int) < (N : Int) := by have := aA HN; omega
   have hr7 : (r : Int) ≤ 8 := by omega
   have hql : q < (sumN xs N t).length := by rw [uH]; omega
   have c2 : wr.cell? ⟨w.heap.size, q, none⟩ = some (.int .u8 ((sumN xs N t).getD q 0)) := by
    rw [cell_of_row _ _ _ _ _ _ (aA HR)]
    simp [List.getD, List.getElem?_eq_getElem hql]
   have f2 : wr.frozen? ⟨w.heap.size, q, none⟩ = false := frozen_of_row _ _ _ _ _ (aA HR)
   have HP : Hid (sumN xs N (t + 1) = (sumN xs N t).set q (((sumN xs N t).getD q 0 + xs.getD t 0 * 2 ^ r) % 256)) := by
    show sumN xs N (t + 1) = _
    rw [sumN, hq, hr8]
   have HS := hide (rZ (q := q) (x := ((sumN xs N t).getD q 0 + xs.getD t 0 * 2 ^ r) % 256) (aA HR))
   rw [← aA HP] at HS
   have HS2 := hide (gO (q := q) (v := .int .u8 (((sumN xs N t).getD q 0 + xs.getD t 0 * 2 ^ r) % 256)) (aA HB) (Nat.le_refl _))
   generalize (sumN xs N t).getD q 0 = y at c2 HP HS HS2
   generalize xs.getD t 0 = x0 at ck hx01 HP HS HS2
   have hlt' : (t : Int) < (xs.length : Int) := by omega
   have HWR : Hid ((y + wrap64 (x0 * 2 ^ r)) % 256 = (y + x0 * 2 ^ r) % 256) := by
    show _ = _
    generalize x0 * 2 ^ r = z
    unfold wrap64
    omega
   rw [← aA HWR] at HS HS2
   clear hq hr8 hql
   go_wp2_with fail
   go_region
   go_wp2
   go_roundw
   case rel => exact ⟨t + 1, by omega, by go_num, aA HS, (aA HS2).drew⟩
   case measure => simp [intOf]; omega
  ·obtain rfl : t = xs.length := by omega
   have hz := (aA HB).size
   have hlen := uH xs N xs.length
   obtain ⟨ws, hws⟩ : ∃ ws, sumN xs N xs.length = ws := ⟨_, rfl⟩
   rw [hws] at HR hlen
   have hwb : w.heap.size < wr.heap.size := (Array.getElem?_eq_some_iff.1 (aA HR)).1
   have hN8 : (N : Int) < 256 := by omega
   obtain ⟨W1, hW1⟩ : ∃ W1, wr.alloc (.cells #[.int .u8 f, .int .u8 (N : Int)] 5) = W1 := ⟨_, rfl⟩
   have HB1 : Hid (Below w.heap.size w W1) := by
    rw [← hW1]
    exact (aA HB).alloc hz _
   have HO1 : Hid (W1.ownsRow w.heap.size 5 1 (.slice (some ⟨wr.heap.size, 0, none⟩) 2 2) 2 [.int .u8 f, .int .u8 (N : Int)]) := by
    have hn := heap_alloc_new wr (.cells #[.int .u8 f, .int .u8 (N : Int)] 5)
    rw [hW1] at hn
    exact ⟨rfl, .inr ⟨wr.heap.size, 2, _, rfl, hz, hn, Nat.le_refl _, by unfold maxLen; omega, rfl, rfl⟩⟩
   have HNw : Hid (∀ j u, (ws.map (Value.int .u8))[j]? = some u → W1.cell? ((⟨w.heap.size, 0, none⟩ : Addr).add j) = some u) := kI fun i hi => by
    rw [← hW1]
    refine (((Below.refl wr.heap.size wr).alloc (Nat.le_refl _) _).cell (by exact hwb)).trans ?_
    rw [cell_of_row _ _ _ _ _ _ (aA HR)]
    simp [List.getD, List.getElem?_eq_getElem hi]
   have HOne := hide (iU ws)
   have HWL := hide hlen
   have HHW := hide hws
   clear hlen hws
   go_upto_region 13 with fail
   rename_i K hK
   obtain ⟨i0, hi, hz0, hz1, hz2⟩ := info_parts jS
   refine wp_region_lit (aG rfl (aC _) (aG rfl (aC _) ?_))
   refine aT W1 rfl (.tmp 58) (.tmp 59) 37 rfl w.heap.size 5 i0 (.int .u8 0) 1 1 Tryz.underlying37 hi hz0 hz1 hz2 rfl (by decide) _ 2 [.int .u8 f, .int .u8 (N : Int)] rfl (aA HO1) ⟨w.heap.size, 0, none⟩ N N (ws.map (Value.int .u8)) rfl (by rw [List.length_map, aA HWL, Nat.mul_one]) (aA HNw) (aA HOne) hN3 (by unfold maxLen; omega) (by omega) (aA HB1).size ?_
   intro v3 w3 r3 k3
   have hb3 : Below w.heap.size w w3 := bT (aA HB1) (fun j e => (World.ownsRow.lt (aA HO1) j e).1) k3
   refine aG rfl (aX _) (wpList_nil (hK _ _ (wp_ret ?_)))
   go_ret
   refine ⟨_, rfl, ?_, hb3⟩
   rw [aA HHW]
   unfold Owns
   rw [show (f :: (N : Int) :: ws).length = 2 + N by simp [aA HWL]; omega]
   exact r3
theorem aFm (c : Int) (r : Nat) (hr : r < 8) (h0 : 0 ≤ c) (h1 : c < 2 ^ r) : orB c r = (c + 1 * 2 ^ r) % 256 := by
 obtain ⟨c, rfl⟩ := Int.eq_ofNat_of_zero_le h0
 have hc : c < 2 ^ r := by
  have : ((c : Int)) < ((2 ^ r : Nat) : Int) := by
   rw [Int.natCast_pow]
   exact h1
  omega
 have hp : (2 : Nat) ^ r ≤ 128 := by
  have := Nat.pow_le_pow_right (n := 2) (by omega) (show r ≤ 7 by omega)
  simpa using this
 have e1 : c ||| 2 ^ r = c + 2 ^ r := by
  have := Nat.two_pow_add_eq_or_of_lt hc 1
  rw [Nat.mul_one] at this
  rw [Nat.or_comm, ← this, Nat.add_comm]
 have e2 : (2 : Int) ^ r % 256 = ((2 ^ r : Nat) : Int) := by
  rw [show (2 : Int) ^ r = ((2 ^ r : Nat) : Int) by rw [Int.natCast_pow]; rfl]
  omega
 have e3 : (c : Int) + 1 * 2 ^ r = ((c + 2 ^ r : Nat) : Int) := by
  rw [Int.natCast_add, Int.natCast_pow, Int.one_mul]
  rfl
 unfold orB
 rw [e2, e3]
 show IntKind.u8.wrap ((BitVec.ofInt 8 (c : Int) ||| BitVec.ofInt 8 ((2 ^ r : Nat) : Int)).toNat : Int) = _
 have q1 : (BitVec.ofInt 8 (c : Int)).toNat = c := by
  rw [BitVec.toNat_ofInt]
  omega
 have q2 : (BitVec.ofInt 8 ((2 ^ r : Nat) : Int)).toNat = 2 ^ r := by
  rw [BitVec.toNat_ofInt]
  omega
 rw [BitVec.toNat_or, q1, q2, e1]
 simp only [IntKind.wrap, IntKind.bits, IntKind.signed]
 simp
structure LowB (l : List Int) (k : Nat) : Prop where
 bd : ∀ q, 0 ≤ l.getD q 0 ∧ l.getD q 0 < 256
 cur : l.getD (k / 8) 0 < 2 ^ (k % 8)
 far : ∀ q, k / 8 < q → l.getD q 0 = 0
theorem aCc (xs : List Int) (N : Nat) (hx : ∀ x ∈ xs, x = 0 ∨ x = 1) (k : Nat) (hk : k ≤ xs.length) (hN : xs.length ≤ 8 * N) : sumN xs N k = cC xs N k ∧ LowB (cC xs N k) k := by
 induction k with
 | zero =>
  refine ⟨rfl, ⟨fun q => ?_, ?_, fun q _ => ?_⟩⟩
  ·have e : (cC xs N 0).getD q 0 = 0 := by
    rw [cC, List.getD_eq_getElem?_getD, List.getElem?_replicate]
    split <;> rfl
   rw [e]
   omega
  ·rw [cC, List.getD_eq_getElem?_getD, List.getElem?_replicate]
   split <;> simp
  ·rw [cC, List.getD_eq_getElem?_getD, List.getElem?_replicate]
   split <;> rfl
 | succ k ih =>
  obtain ⟨e, hb, hc, hf⟩ := ih (by omega)
  have hlen : (cC xs N k).length = N := eZ xs N k
  have hq : k / 8 < (cC xs N k).length := by omega
  have hxk := hx (xs.getD k 0) (by simp [List.getD, List.getElem?_eq_getElem (show k < xs.length by omega)])
  have hp0 : (0 : Int) < 2 ^ (k % 8) := Int.pow_pos (by omega)
  have hpow : (2 : Int) ^ (k % 8 + 1) = 2 * 2 ^ (k % 8) := by rw [Int.pow_succ, Int.mul_comm]
  have hle : (2 : Int) ^ (k % 8) ≤ 128 := by
   have := Nat.pow_le_pow_right (n := 2) (by omega) (show k % 8 ≤ 7 by omega)
   have h2 : (((2 ^ (k % 8) : Nat) : Int)) ≤ 128 := by omega
   rw [Int.natCast_pow] at h2
   exact h2
  have key : ∀ (y : Int), 0 ≤ y → y < 2 ^ (k % 8 + 1) → LowB ((cC xs N k).set (k / 8) y) (k + 1) := fun y y0 y1 => by
   have yb : y < 256 := by omega
   refine ⟨fun q => ?_, ?_, fun q hq2 => ?_⟩
   ·by_cases e : q = k / 8
    ·subst e
     rw [List.getD_eq_getElem?_getD, List.getElem?_set_self hq]
     exact ⟨y0, yb⟩
    ·rw [List.getD_eq_getElem?_getD, List.getElem?_set_ne (fun h => e h.symm), ← List.getD_eq_getElem?_getD]
     exact hb q
   ·by_cases e : (k + 1) / 8 = k / 8
    ·rw [e, List.getD_eq_getElem?_getD, List.getElem?_set_self hq, show (k + 1) % 8 = k % 8 + 1 by omega]
     exact y1
    ·rw [List.getD_eq_getElem?_getD, List.getElem?_set_ne (fun h => e h.symm), ← List.getD_eq_getElem?_getD, hf _ (by omega)]
     exact Int.pow_pos (by omega)
   ·rw [List.getD_eq_getElem?_getD, List.getElem?_set_ne (by omega), ← List.getD_eq_getElem?_getD]
    exact hf q (by omega)
  have hcur := hb (k / 8)
  rw [sumN, e]
  rcases hxk with h0 | h1
  ·have es : (cC xs N k).set (k / 8) (((cC xs N k).getD (k / 8) 0 + xs.getD k 0 * 2 ^ (k % 8)) % 256) = cC xs N k := by
    rw [h0, Int.zero_mul, Int.add_zero, Int.emod_eq_of_lt hcur.1 hcur.2]
    apply List.ext_getElem?
    intro i
    by_cases e : i = k / 8
    ·subst e
     rw [List.getElem?_set_self hq, List.getD_eq_getElem?_getD, List.getElem?_eq_getElem hq]
     rfl
    ·rw [List.getElem?_set_ne (fun h => e h.symm)]
   have ep : cC xs N (k + 1) = cC xs N k := by rw [cC, if_neg (by rw [h0]; decide)]
   rw [es, ep]
   refine ⟨rfl, ?_⟩
   have := key ((cC xs N k).getD (k / 8) 0) hcur.1 (by omega)
   rw [← es] 
   rw [h0, Int.zero_mul, Int.add_zero, Int.emod_eq_of_lt hcur.1 hcur.2]
   exact this
  ·have ep : cC xs N (k + 1) = (cC xs N k).set (k / 8) (orB ((cC xs N k).getD (k / 8) 0) (k % 8)) := by rw [cC, if_pos h1]
   rw [ep, aFm _ _ (by omega) hcur.1 hc, h1]
   refine ⟨rfl, key _ ?_ ?_⟩
   ·exact Int.emod_nonneg _ (by omega)
   ·rw [Int.emod_eq_of_lt (by omega) (by omega)]
    omega
theorem aAn (xs : List Int) (hx : ∀ x ∈ xs, x = 0 ∨ x = 1) : sumN xs ((xs.length + 7) / 8) xs.length = iD xs := (aCc xs _ hx _ (Nat.le_refl _) (by omega)).1
end Go.Proofs.YtfekelmldebplaaGreatDoor
