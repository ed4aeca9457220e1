import Derived.Test.YtfekelmldebplaaGreatDoorKb
import Derived.Test.YtfekelmldebplaaGreatDoorVh
import Derived.Test.YtfekelmldebplaaGreatDoorTr
import Derived.Test.YtfekelmldebplaaGreatDoorWd
import Derived.Test.YtfekelmldebplaaGreatDoorB
import Derived.Orders
namespace Go.Proofs.YtfekelmldebplaaGreatDoor
open Go.RowKit

/-! ### Bits -/
theorem or_u8 (b m : Nat) (hb : b < 256) (hm : m < 256) : bits BinOp.or IntKind.u8 (b : Int) (m : Int) = ((b ||| m : Nat) : Int) := by
  show IntKind.u8.wrap ((BitVec.ofInt 8 (b : Int) ||| BitVec.ofInt 8 (m : Int)).toNat : Int) = _
  have e : ∀ x : Nat, x < 256 → (BitVec.ofInt 8 (x : Int)).toNat = x := fun x hx => by
    rw [BitVec.toNat_ofInt]
    omega
  rw [BitVec.toNat_or, e b hb, e m hm]
  have := Nat.or_lt_two_pow (n := 8) hb hm
  simp [IntKind.wrap, IntKind.bits, IntKind.signed]
  omega
theorem bit_nat (x j : Nat) : (x : Int) / 2 ^ j % 2 = if x.testBit j then 1 else 0 := by
  rw [Nat.testBit_eq_decide_div_mod_eq]
  have e : (x : Int) / 2 ^ j % 2 = ((x / 2 ^ j % 2 : Nat) : Int) := by
    rw [Int.natCast_emod, Int.natCast_ediv, Int.natCast_pow]
    rfl
  rw [e]
  have := Nat.mod_lt (x / 2 ^ j) (show 0 < 2 by omega)
  by_cases h : x / 2 ^ j % 2 = 1
  · simp [h]
  · have h0 : x / 2 ^ j % 2 = 0 := by omega
    simp [h0]
/-- A bit of an or. -/
theorem bit_or (b m : Int) (j : Nat) (hb : 0 ≤ b ∧ b < 256) (hm : 0 ≤ m ∧ m < 256) : bits BinOp.or IntKind.u8 b m / 2 ^ j % 2 = if b / 2 ^ j % 2 = 1 ∨ m / 2 ^ j % 2 = 1 then 1 else 0 := by
  obtain ⟨b, rfl⟩ := Int.eq_ofNat_of_zero_le hb.1
  obtain ⟨m, rfl⟩ := Int.eq_ofNat_of_zero_le hm.1
  rw [or_u8 b m (by omega) (by omega), bit_nat, bit_nat, bit_nat, Nat.testBit_or]
  cases b.testBit j <;> cases m.testBit j <;> simp
theorem bit_pow (r j : Nat) (hr : r < 8) (hj : j < 8) : ((2 : Int) ^ r % 256) / 2 ^ j % 2 = if j = r then 1 else 0 := by
  have h1 : r = 0 ∨ r = 1 ∨ r = 2 ∨ r = 3 ∨ r = 4 ∨ r = 5 ∨ r = 6 ∨ r = 7 := by omega
  have h2 : j = 0 ∨ j = 1 ∨ j = 2 ∨ j = 3 ∨ j = 4 ∨ j = 5 ∨ j = 6 ∨ j = 7 := by omega
  rcases h1 with rfl | rfl | rfl | rfl | rfl | rfl | rfl | rfl <;> rcases h2 with rfl | rfl | rfl | rfl | rfl | rfl | rfl | rfl <;> rfl
theorem pow_bd (r : Nat) (hr : r < 8) : 0 ≤ (2 : Int) ^ r % 256 ∧ (2 : Int) ^ r % 256 < 256 := by
  have h1 : r = 0 ∨ r = 1 ∨ r = 2 ∨ r = 3 ∨ r = 4 ∨ r = 5 ∨ r = 6 ∨ r = 7 := by omega
  rcases h1 with rfl | rfl | rfl | rfl | rfl | rfl | rfl | rfl <;> decide
theorem pack_bd (xs : List Int) (N k : Nat) : ∀ y ∈ packN xs N k, 0 ≤ y ∧ y < 256 := by
  induction k with
  | zero =>
    intro y hy
    simp [packN] at hy
    omega
  | succ k ih =>
    intro y hy
    unfold packN at hy
    split at hy
    · rcases List.mem_or_eq_of_mem_set hy with h | rfl
      · exact ih y h
      · have : orB ((packN xs N k).getD (k / 8) 0) (k % 8) = IntKind.u8.wrap ((BitVec.ofInt 8 ((packN xs N k).getD (k / 8) 0) ||| BitVec.ofInt 8 (2 ^ (k % 8) % 256)).toNat : Int) := rfl
        rw [this]
        simp [IntKind.wrap, IntKind.bits, IntKind.signed]
        omega
    · exact ih y hy
theorem pack_at_bd (xs : List Int) (N k i : Nat) : 0 ≤ (packN xs N k).getD i 0 ∧ (packN xs N k).getD i 0 < 256 := by
  by_cases hi : i < (packN xs N k).length
  · exact pack_bd xs N k _ (by simp [List.getD, List.getElem?_eq_getElem hi])
  · simp [List.getD, List.getElem?_eq_none (Nat.le_of_not_lt hi)]
/-- Each bit, behind so many of them. -/
theorem pack_bit (xs : List Int) (N k i : Nat) (hk : k ≤ 8 * N) (hi : i < 8 * N) : (packN xs N k).getD (i / 8) 0 / 2 ^ (i % 8) % 2 = if i < k ∧ xs.getD i 0 = 1 then 1 else 0 := by
  induction k with
  | zero =>
    have : (packN xs N 0).getD (i / 8) 0 = 0 := by
      have hl : i / 8 < N := by omega
      simp [packN, List.getD, hl]
    rw [this]
    simp
  | succ k ih =>
    have ih := ih (by omega)
    unfold packN
    by_cases h1 : xs.getD k 0 = 1
    · rw [if_pos h1]
      by_cases h8 : k / 8 = i / 8
      · have hl : i / 8 < (packN xs N k).length := by rw [packN_len]; omega
        rw [h8]
        have e : ((packN xs N k).set (i / 8) (orB ((packN xs N k).getD (i / 8) 0) (k % 8))).getD (i / 8) 0 = orB ((packN xs N k).getD (i / 8) 0) (k % 8) := by
          simp [List.getD, List.getElem?_set_self hl]
        rw [e]
        unfold orB
        rw [bit_or _ _ _ (pack_at_bd xs N k _) (pow_bd _ (by omega)), ih, bit_pow _ _ (by omega) (by omega)]
        by_cases hik : i = k
        · subst hik
          rw [if_pos (.inr (by simp)), if_pos ⟨by omega, h1⟩]
        · have hm : i % 8 ≠ k % 8 := by omega
          have hlt : (i < k + 1) ↔ (i < k) := by omega
          simp only [hm, if_false, hlt]
          by_cases hc : i < k ∧ xs.getD i 0 = 1
          · rw [if_pos hc]; simp
          · rw [if_neg hc]; simp
      · have e : ((packN xs N k).set (k / 8) (orB ((packN xs N k).getD (k / 8) 0) (k % 8))).getD (i / 8) 0 = (packN xs N k).getD (i / 8) 0 := by
          simp only [List.getD]
          rw [List.getElem?_set_ne h8]
        rw [e, ih]
        have hlt : (i < k + 1) ↔ (i < k) := by omega
        simp only [hlt]
    · rw [if_neg h1, ih]
      by_cases hik : i = k
      · subst hik
        rw [if_neg (fun e => h1 e.2), if_neg (fun e => h1 e.2)]
      · have hlt : (i < k + 1) ↔ (i < k) := by omega
        simp only [hlt]
theorem packL_bit (xs : List Int) (i : Nat) (hi : i < xs.length) (hx : ∀ x ∈ xs, x = 0 ∨ x = 1) : (packL xs).getD (i / 8) 0 / 2 ^ (i % 8) % 2 = xs.getD i 0 := by
  unfold packL
  rw [pack_bit xs _ _ i (by omega) (by omega)]
  have := hx (xs.getD i 0) (by simp [List.getD, List.getElem?_eq_getElem hi])
  rcases this with h | h
  · rw [h, if_neg (fun e => by have := e.2; omega)]
  · rw [h, if_pos ⟨hi, rfl⟩]
/-- Bits that were packed, with whatever stands behind them in the last byte. -/
theorem unpack_pack (xs qs : List Int) (hx : ∀ x ∈ xs, x = 0 ∨ x = 1) (hq : ∀ i, i < xs.length → qs.getD (i / 8) 0 / 2 ^ (i % 8) % 2 = (packL xs).getD (i / 8) 0 / 2 ^ (i % 8) % 2) : ((List.range xs.length).map fun i => qs.getD (i / 8) 0 / 2 ^ (i % 8) % 2) = xs := by
  apply List.ext_getElem
  · simp
  · intro i h1 h2
    rw [List.getElem_map, List.getElem_range, hq i h2, packL_bit xs i h2 hx]
    simp [List.getD, List.getElem?_eq_getElem h2]
theorem shl_bit (more : Int) (r j : Nat) (hr : r < 8) (hj : j < r) : (more * 2 ^ r % 256) / 2 ^ j % 2 = 0 := by
  have h1 : r = 1 ∨ r = 2 ∨ r = 3 ∨ r = 4 ∨ r = 5 ∨ r = 6 ∨ r = 7 := by omega
  rcases h1 with rfl | rfl | rfl | rfl | rfl | rfl | rfl <;> (have h2 : j = 0 ∨ j = 1 ∨ j = 2 ∨ j = 3 ∨ j = 4 ∨ j = 5 ∨ j = 6 := by omega) <;> rcases h2 with rfl | rfl | rfl | rfl | rfl | rfl | rfl <;> simp only [Int.reducePow] <;> omega
end Go.Proofs.YtfekelmldebplaaGreatDoor

namespace Go.Proofs.YtfekelmldebplaaGreatDoor
open Go.RowKit Go.MuLone

/-- What is answered. -/
def ansL (t : T4) (q : Req) : List Int := toldL q (packT q.t (spanL (carryL (t.at q.t).L q) q.ra q.rc))

/-- 'done' of the client 0 of a bank that 'open' made, of a request that is done. -/
theorem done_q (B rb sb tb kb : Nat) (t : T4) (us : List Value) (u : Value) (f : Int) (v x : Value) (bs ws : List Int) (q : Req) (w : World) (Bv Bx : Nat) (h : BankAt w B rb sb tb kb t [allRules, []] us) (hu : us[0]? = some u)
    (hv : Owns w Bv v (f :: bs)) (hx : Owns w Bx x ws) (hws : Bys ws) (hb0 : bs ≠ []) (hlen : bs.length ≤ 252) (hbs : Bys bs) (hp : parseL f bs = .inr q) (hex : excL (t.at q.t).L.length allRules q = 0) (hL : ∀ y ∈ (t.at q.t).L, 0 ≤ y ∧ y ≤ topOf q.t) (hab : Bys (ansL t q))
    (HPf : ∀ rp v W, QNew W rp f → Lies W v bs → (∀ b, v.ownBlock = some b → b ≠ rp) → Calls Tryz.prog 188 #[.pointer (some ⟨rp, 0, none⟩), v] W fun e w' => PPost W rp f v (parseL f bs) e w') :
    Calls Tryz.prog 23 #[.pointer (some ⟨rb, 0, none⟩), .int .i64 0, v, x] w fun r w' => r = .returned (.bool (decide (ansL t q = ws))) ∧ BankAt w' B rb sb tb kb (t.put q.t (carryL (t.at q.t).L q)) [allRules, []] us ∧ Chg w w' (fun k => k = sb ∨ k = (t.at q.t).g) := by
  have hq := parseL_ok f bs hbs hlen q hp
  have h5v : ∀ b, v.ownBlock = some b → ∃ cs fr, w.heap[b]? = some (.cells cs 5 fr) := fun _ e => own_cells hv e
  have hans := answer_ok B rb sb tb kb t _ us allRules u f v bs q w h rfl hu (by simp [allRules]) hv.lies h5v hb0 hlen hbs hp hex hL HPf
  refine (done_ok rb v x ws w hx.lies hws (ansL t q) hab (fun _ w' => BankAt w' B rb sb tb kb (t.put q.t (carryL (t.at q.t).L q)) [allRules, []] us ∧ Chg w w' (fun k => k = sb ∨ k = (t.at q.t).g)) (hans.mono ?_) ?_).mono ?_
  · rintro r w' ⟨a, n, c, rfl, h9, hB9, hc9⟩
    refine ⟨⟨hB9, hc9⟩, a, n, c, rfl, h9.lies, hx.lies.chg hc9 (fun b e => ?_)⟩
    obtain ⟨cs, fr, q5⟩ := own_cells hx e
    intro e2
    rcases e2 with e2 | e2
    · exact rows_ne q5 h.st.row (by decide) e2
    · exact rows_ne q5 (h.tab q.t hq.t).2.1.ent (by decide) e2
  · obtain ⟨a, n, c, rfl⟩ := own_shape hv
    exact ⟨_, _, _, rfl⟩
  · rintro r w' ⟨rfl, r0, h1, h2⟩
    exact ⟨rfl, h1, h2⟩

/-! ### Requests as bytes -/
theorem wd_at (n : Nat) (hn : n ≤ 65535) : (256 * ((n : Int) / 256) + (n : Int) % 256).toNat = n := by omega
def b15 (a n : Nat) (qs : List Int) : List Int := wd (a : Int) ++ wd (n : Int) ++ ((qs.length : Nat) : Int) :: qs
def q15 (a : Nat) (xs : List Int) : Req := ⟨15, 0, 0, 0, a, xs.length, xs, 0, wd (a : Int) ++ wd (xs.length : Int)⟩
theorem parse_q15 (a : Nat) (xs qs : List Int) (ha : a ≤ 65535) (h1 : 1 ≤ xs.length) (h2 : xs.length ≤ 1968) (hl : qs.length = (xs.length + 7) / 8) (hu : unpackB qs xs.length = xs) : parseL 15 (b15 a xs.length qs) = .inr (q15 a xs) := by
  have w0 : wAt (b15 a xs.length qs) 0 = a := wd_at a ha
  have w1 : wAt (b15 a xs.length qs) 1 = xs.length := wd_at xs.length (by omega)
  have hc : countB xs.length 1968 = true := by simp [countB]; omega
  have hlen : (b15 a xs.length qs).length = 5 + qs.length := by simp [b15, wd]; omega
  have hd : (b15 a xs.length qs).drop 5 = qs := rfl
  have ht : (b15 a xs.length qs).take 4 = wd (a : Int) ++ wd (xs.length : Int) := rfl
  have h4 : (b15 a xs.length qs).getD 4 0 = ((qs.length : Nat) : Int) := rfl
  show parse15 15 _ = _
  unfold parse15
  rw [if_pos ⟨by rw [hlen]; omega, by rw [w1]; exact hc, by rw [hlen, w1, hl], by rw [h4, w1, hl]⟩, w0, w1, hd, hu, ht]
  rfl
def b5 (a : Nat) (y : Int) : List Int := wd (a : Int) ++ [255 * y, 0]
def q5 (a : Nat) (y : Int) : Req := ⟨5, 0, 0, 0, a, 1, [y], 0, b5 a y⟩
theorem parse_q5 (a : Nat) (y : Int) (ha : a ≤ 65535) (hy : y = 0 ∨ y = 1) : parseL 5 (b5 a y) = .inr (q5 a y) := by
  have w0 : wAt (b5 a y) 0 = a := wd_at a ha
  show parse5 5 _ = _
  unfold parse5
  rcases hy with rfl | rfl
  · have w1 : wAt (b5 a 0) 1 = 0 := rfl
    rw [if_pos ⟨rfl, .inl w1⟩, w0, w1]
    rfl
  · have w1 : wAt (b5 a 1) 1 = 65280 := rfl
    rw [if_pos ⟨rfl, .inr w1⟩, w0, w1]
    rfl
end Go.Proofs.YtfekelmldebplaaGreatDoor

namespace Go.Proofs.YtfekelmldebplaaGreatDoor
open Go.RowKit

/-- What the client 0 of 'open' asks within the table is done. -/
theorem exc_all (N : Nat) (q : Req) (ht : q.t < 4) (hN : N ≤ 65536) (hr : q.ra + q.rc ≤ N) (hw : q.wa + q.wc ≤ N) : excL N allRules q = 0 := by
  have h1 : hasB N (q.ra : Int) (q.rc : Int) = true := by
    simp only [hasB, Bool.and_eq_true, decide_eq_true_eq]
    omega
  have h2 : hasB N (q.wa : Int) (q.wc : Int) = true := by
    simp only [hasB, Bool.and_eq_true, decide_eq_true_eq]
    omega
  unfold excL
  rw [h1, h2, mayAll false q.t q.ra q.rc ht (by omega), mayAll true q.t q.wa q.wc ht (by omega)]
  rfl
theorem written_zero (old vals : List Int) (hl : old.length = vals.length) (ho : ∀ x ∈ old, 0 ≤ x ∧ x ≤ 65535) (hv : ∀ x ∈ vals, 0 ≤ x ∧ x ≤ 65535) : writtenL old vals 0 = vals := by
  unfold writtenL
  apply List.ext_getElem
  · simp [hl]
  · intro i h1 h2
    have hi : i < old.length := by omega
    rw [List.getElem_map, List.getElem_range]
    have e1 : old.getD i 0 = old[i] := by simp [List.getD, List.getElem?_eq_getElem hi]
    have e2 : vals.getD i 0 = vals[i] := by simp [List.getD, List.getElem?_eq_getElem h2]
    rw [e1, e2]
    exact maskI_zero _ _ (ho _ (List.getElem_mem hi)) (hv _ (List.getElem_mem h2))
/-- What is written without a mask. -/
theorem carry_write (L : List Int) (q : Req) (hk : q.keep = 0) (hl : q.vals.length = q.wc) (hw : q.wa + q.wc ≤ L.length) (ho : ∀ x ∈ L, 0 ≤ x ∧ x ≤ 65535) (hv : ∀ x ∈ q.vals, 0 ≤ x ∧ x ≤ 65535) : carryL L q = setL L q.wa q.vals := by
  unfold carryL
  rw [hk, written_zero _ _ (by rw [spanL_len L _ _ hw, hl]) (fun x hx => ho x (spanL_in hx)) hv]
end Go.Proofs.YtfekelmldebplaaGreatDoor

namespace Go.Proofs.YtfekelmldebplaaGreatDoor
open Go.RowKit

/-- 'join' of lists that lie in a row of their own. -/
theorem join_row (J n : Nat) (vs : List Value) (xss : List (List Int)) (T : TypeId) (W0 W : World) (hb : Below W0.heap.size W0 W) (hJ : W.heap[J]? = some (.cells vs.toArray T (0, 0))) (hv : vs.length = n) (hx : xss.length = n) (hl : ∀ i, i < n → Lies W (vs.getD i undef) (xss.getD i []) ∧ xss.getD i [] ≠ []) (hn : n ≤ 1000) (ht : xss.flatten.length ≤ 1000000) :
    Calls Tryz.prog 24 #[.slice (some ⟨J, 0, none⟩) n n] W fun e w' => ∃ a m c, e = .returned (.slice a m c) ∧ Owns w' W0.heap.size (.slice a m c) xss.flatten ∧ Below W0.heap.size W0 w' := by
  refine (join_any J vs xss n W (Array.getElem?_eq_some_iff.1 hJ).1 hv hx (fun i hi => ?_) (fun i hi => (hl i hi).1) (fun i hi => (hl i hi).2) hn ht).mono ?_
  · rw [cell_of_row _ _ _ _ _ _ hJ]
    have : i < vs.length := by omega
    simp [List.getD, List.getElem?_eq_getElem this]
  · rintro e w' ⟨v, rfl, ho, hb'⟩
    obtain ⟨a, m, c, rfl⟩ := own_shape ho
    exact ⟨a, m, c, rfl, ho.weak hb.size, bl_trans hb hb'⟩
/-- One byte ahead of a list. -/
theorem join_cons (f : Int) (a : Option Addr) (m c : Nat) (hs : List Int) (w : World) (h : Lies w (.slice a m c) hs) (h0 : hs ≠ []) (hl : hs.length ≤ 1000) :
    Calls Tryz.prog 24 #[.slice (some ⟨w.heap.size + 1, 0, none⟩) 2 2]
      ((w.alloc (.cells #[.int .u8 f] 5)).alloc (.cells #[.slice (some ⟨w.heap.size, 0, none⟩) 1 1, .slice a m c] 37))
      fun e w' => ∃ a m c, e = .returned (.slice a m c) ∧ Owns w' w.heap.size (.slice a m c) (f :: hs) ∧ Below w.heap.size w w' := by
  have hb : Below w.heap.size w ((w.alloc (.cells #[.int .u8 f] 5)).alloc (.cells #[.slice (some ⟨w.heap.size, 0, none⟩) 1 1, .slice a m c] 37)) := bl_trans (rule_new w _) (rule_new _ _)
  have a1 : ((w.alloc (.cells #[.int .u8 f] 5)).alloc (.cells #[.slice (some ⟨w.heap.size, 0, none⟩) 1 1, .slice a m c] 37)).heap[w.heap.size]? = some (.cells #[.int .u8 f] 5 (0, 0)) := ((rule_new (w.alloc (.cells #[.int .u8 f] 5)) (.cells #[.slice (some ⟨w.heap.size, 0, none⟩) 1 1, .slice a m c] 37)).block w.heap.size (by simp)).trans (heap_alloc_new w _)
  have a2 : ((w.alloc (.cells #[.int .u8 f] 5)).alloc (.cells #[.slice (some ⟨w.heap.size, 0, none⟩) 1 1, .slice a m c] 37)).heap[w.heap.size + 1]? = some (.cells [Value.slice (some ⟨w.heap.size, 0, none⟩) 1 1, .slice a m c].toArray 37 (0, 0)) := by
    have := heap_alloc_new (w.alloc (.cells #[.int .u8 f] 5)) (.cells #[.slice (some ⟨w.heap.size, 0, none⟩) 1 1, .slice a m c] 37)
    simp only [World.size_alloc] at this
    exact this
  have := join_row (w.heap.size + 1) 2 [.slice (some ⟨w.heap.size, 0, none⟩) 1 1, .slice a m c] [[f], hs] _ w _ hb a2 rfl rfl (fun i hi => by
    match i, hi with
    | 0, _ => exact ⟨lies_block a1 [f] rfl, by simp⟩
    | 1, _ => exact ⟨h.below hb, h0⟩) (by omega) (by simp; omega)
  have e : [[f], hs].flatten = f :: hs := by simp
  rw [e] at this
  exact this
end Go.Proofs.YtfekelmldebplaaGreatDoor

namespace Go.Proofs.YtfekelmldebplaaGreatDoor
open Go.RowKit

/-- A list of bytes that was just laid. -/
theorem lies_fresh (w : World) (xs : List Int) : Lies (w.alloc (.cells (xs.map (Value.int .u8)).toArray 5)) (.slice (some ⟨w.heap.size, 0, none⟩) xs.length xs.length) xs :=
  lies_block (heap_alloc_new w _) xs rfl
/-- 'join' of lists, whose row was just laid. -/
theorem join_last (W0 V : World) (vs : List Value) (xss : List (List Int)) (T : TypeId) (J n : Nat) (hJ : J = V.heap.size) (hb : Below W0.heap.size W0 V) (hv : vs.length = n) (hx : xss.length = n) (hl : ∀ i, i < n → Lies V (vs.getD i undef) (xss.getD i []) ∧ xss.getD i [] ≠ []) (hn : n ≤ 1000) (ht : xss.flatten.length ≤ 1000000) (out : List Int) (ho : xss.flatten = out) :
    Calls Tryz.prog 24 #[.slice (some ⟨J, 0, none⟩) n n] (V.alloc (.cells vs.toArray T)) fun e w' => ∃ a m c, e = .returned (.slice a m c) ∧ Owns w' W0.heap.size (.slice a m c) out ∧ Below W0.heap.size W0 w' := by
  subst hJ ho
  exact join_row _ n vs xss T W0 _ (bl_trans hb (rule_new V _)) (heap_alloc_new V _) hv hx (fun i hi => ⟨(hl i hi).1.below (rule_new V _), (hl i hi).2⟩) hn ht
/-- The place and the number. -/
theorem join_head (p n : Int) (w : World) :
    Calls Tryz.prog 24 #[.slice (some ⟨w.heap.size + 1 + 1, 0, none⟩) 2 2]
      (((w.alloc (.cells #[.int .u8 (p / 256), .int .u8 (p % 256)] 5)).alloc (.cells #[.int .u8 (n / 256), .int .u8 (n % 256)] 5)).alloc
        (.cells #[.slice (some ⟨w.heap.size, 0, none⟩) 2 2, .slice (some ⟨w.heap.size + 1, 0, none⟩) 2 2] 37))
      fun e w' => ∃ a m c, e = .returned (.slice a m c) ∧ Owns w' w.heap.size (.slice a m c) (wd p ++ wd n) ∧ Below w.heap.size w w' := by
  have h1 := lies_fresh w (wd p)
  have h2 := lies_fresh (w.alloc (.cells #[.int .u8 (p / 256), .int .u8 (p % 256)] 5)) (wd n)
  rw [World.size_alloc] at h2
  exact join_last w _ [.slice (some ⟨w.heap.size, 0, none⟩) 2 2, .slice (some ⟨w.heap.size + 1, 0, none⟩) 2 2] [wd p, wd n] _ _ 2 (by simp) (bl_trans (rule_new _ _) (rule_new _ _)) rfl rfl (fun i hi => by
    match i, hi with
    | 0, _ => exact ⟨h1.below (rule_new _ _), by simp [wd]⟩
    | 1, _ => exact ⟨h2, by simp [wd]⟩) (by omega) (by simp [wd]) _ (by simp)
/-- A function, what stands ahead, how many bytes, and the bytes. -/
theorem join_four (f k : Int) (ah aq : Option Addr) (mh ch mq cq : Nat) (hs qs : List Int) (w : World) (hh : Lies w (.slice ah mh ch) hs) (hq : Lies w (.slice aq mq cq) qs) (h0 : hs ≠ []) (q0 : qs ≠ []) (hl : hs.length ≤ 1000) (ql : qs.length ≤ 1000) :
    Calls Tryz.prog 24 #[.slice (some ⟨w.heap.size + 1 + 1, 0, none⟩) 4 4]
      (((w.alloc (.cells #[.int .u8 f] 5)).alloc (.cells #[.int .u8 k] 5)).alloc
        (.cells #[.slice (some ⟨w.heap.size, 0, none⟩) 1 1, .slice ah mh ch, .slice (some ⟨w.heap.size + 1, 0, none⟩) 1 1, .slice aq mq cq] 37))
      fun e w' => ∃ a m c, e = .returned (.slice a m c) ∧ Owns w' w.heap.size (.slice a m c) (f :: (hs ++ k :: qs)) ∧ Below w.heap.size w w' := by
  have h1 := lies_fresh w [f]
  have h2 := lies_fresh (w.alloc (.cells #[.int .u8 f] 5)) [k]
  rw [World.size_alloc] at h2
  have hb := bl_trans (rule_new w (.cells #[.int .u8 f] 5)) (rule_new (w.alloc (.cells #[.int .u8 f] 5)) (.cells #[.int .u8 k] 5))
  exact join_last w _ [.slice (some ⟨w.heap.size, 0, none⟩) 1 1, .slice ah mh ch, .slice (some ⟨w.heap.size + 1, 0, none⟩) 1 1, .slice aq mq cq] [[f], hs, [k], qs] _ _ 4 (by simp) hb rfl rfl (fun i hi => by
    match i, hi with
    | 0, _ => exact ⟨h1.below (rule_new _ _), by simp⟩
    | 1, _ => exact ⟨hh.below hb, h0⟩
    | 2, _ => exact ⟨h2, by simp⟩
    | 3, _ => exact ⟨hq.below hb, q0⟩) (by omega) (by simp; omega) _ (by simp)
/-- A function, an address and a list. -/
theorem join_set (f p : Int) (aq : Option Addr) (mq cq : Nat) (qs : List Int) (w : World) (hq : Lies w (.slice aq mq cq) qs) (q0 : qs ≠ []) (ql : qs.length ≤ 1000) :
    Calls Tryz.prog 24 #[.slice (some ⟨w.heap.size + 1 + 1, 0, none⟩) 3 3]
      (((w.alloc (.cells #[.int .u8 f] 5)).alloc (.cells #[.int .u8 (p / 256), .int .u8 (p % 256)] 5)).alloc
        (.cells #[.slice (some ⟨w.heap.size, 0, none⟩) 1 1, .slice (some ⟨w.heap.size + 1, 0, none⟩) 2 2, .slice aq mq cq] 37))
      fun e w' => ∃ a m c, e = .returned (.slice a m c) ∧ Owns w' w.heap.size (.slice a m c) (f :: (wd p ++ qs)) ∧ Below w.heap.size w w' := by
  have h1 := lies_fresh w [f]
  have h2 := lies_fresh (w.alloc (.cells #[.int .u8 f] 5)) (wd p)
  rw [World.size_alloc] at h2
  have hb := bl_trans (rule_new w (.cells #[.int .u8 f] 5)) (rule_new (w.alloc (.cells #[.int .u8 f] 5)) (.cells #[.int .u8 (p / 256), .int .u8 (p % 256)] 5))
  exact join_last w _ [.slice (some ⟨w.heap.size, 0, none⟩) 1 1, .slice (some ⟨w.heap.size + 1, 0, none⟩) 2 2, .slice aq mq cq] [[f], wd p, qs] _ _ 3 (by simp) hb rfl rfl (fun i hi => by
    match i, hi with
    | 0, _ => exact ⟨h1.below (rule_new _ _), by simp⟩
    | 1, _ => exact ⟨h2, by simp [wd]⟩
    | 2, _ => exact ⟨hq.below hb, q0⟩) (by omega) (by simp [wd]; omega) _ (by simp)
end Go.Proofs.YtfekelmldebplaaGreatDoor

namespace Go.Proofs.YtfekelmldebplaaGreatDoor
open Go.RowKit Go.MuLone

/-! ### Lists -/
theorem setL_get (L xs : List Int) (a : Nat) (h : a + xs.length ≤ L.length) (i : Nat) : (setL L a xs).getD i 0 = if a ≤ i ∧ i < a + xs.length then xs.getD (i - a) 0 else L.getD i 0 := by
  have hl : (L.take a).length = a := by rw [List.length_take]; omega
  unfold setL
  simp only [List.getD_eq_getElem?_getD]
  by_cases h1 : i < a
  · rw [List.getElem?_append_left (by simp; omega), List.getElem?_append_left (by omega), List.getElem?_take, if_pos h1, if_neg (by omega)]
  · by_cases h2 : i < a + xs.length
    · rw [List.getElem?_append_left (by simp; omega), List.getElem?_append_right (by omega), hl, if_pos ⟨by omega, h2⟩]
    · rw [List.getElem?_append_right (by simp; omega), List.getElem?_drop, if_neg (by omega)]
      congr 2
      simp
      omega
theorem getD_ext (A B : List Int) (hl : A.length = B.length) (h : ∀ i, i < A.length → A.getD i 0 = B.getD i 0) : A = B := by
  apply List.ext_getElem hl
  intro i h1 h2
  have := h i h1
  simpa [List.getD_eq_getElem?_getD, List.getElem?_eq_getElem h1, List.getElem?_eq_getElem h2] using this
theorem set_set (L xs : List Int) (a k : Nat) (y : Int) (h : a + xs.length ≤ L.length) (hk : k < xs.length) : setL (setL L a xs) (a + k) [y] = setL L a (xs.set k y) := by
  have h1 : (setL L a xs).length = L.length := setL_len L a xs h
  refine getD_ext _ _ ?_ fun i hi => ?_
  · rw [setL_len _ _ _ (by rw [h1]; simp; omega), h1, setL_len _ _ _ (by simpa using h)]
  · rw [setL_get _ _ _ (by rw [h1]; simp; omega), setL_get _ _ _ h, setL_get _ _ _ (by simpa using h)]
    simp only [List.length_singleton, List.length_set]
    by_cases e : i = a + k
    · rw [if_pos (by omega), if_pos (by omega), show i - (a + k) = 0 by omega, show i - a = k by omega]
      simp [hk]
    · rw [if_neg (by omega)]
      by_cases e2 : a ≤ i ∧ i < a + xs.length
      · rw [if_pos e2, if_pos e2]
        simp only [List.getD_eq_getElem?_getD]
        rw [List.getElem?_set_ne (by omega)]
      · rw [if_neg e2, if_neg e2]
theorem rep_get (N i : Nat) : (List.replicate N (0 : Int)).getD i 0 = 0 := by
  simp only [List.getD_eq_getElem?_getD, List.getElem?_replicate]
  split <;> rfl
theorem span_set_in (L xs : List Int) (a : Nat) : ∀ x ∈ setL L a xs, x ∈ L ∨ x ∈ xs := fun x hx => by
  unfold setL at hx
  rcases List.mem_append.1 hx with hx | hx
  · rcases List.mem_append.1 hx with hx | hx
    · exact .inl (List.mem_of_mem_take hx)
    · exact .inr hx
  · exact .inl (List.mem_of_mem_drop hx)

/-! ### What is answered -/
/-- 'done', where what is wanted is what is answered. -/
theorem done_t (B rb sb tb kb : Nat) (t : T4) (us : List Value) (f : Int) (v x : Value) (bs ws : List Int) (q : Req) (w : World) (Bv Bx : Nat) (h : BankAt w B rb sb tb kb t [allRules, []] us)
    (hv : Owns w Bv v (f :: bs)) (hx : Owns w Bx x ws) (hws : Bys ws) (hb0 : bs ≠ []) (hlen : bs.length ≤ 252) (hbs : Bys bs) (hp : parseL f bs = .inr q) (N : Nat) (hN : (t.at q.t).L.length = N) (hN1 : N ≤ 200) (hr : q.ra + q.rc ≤ N) (hw : q.wa + q.wc ≤ N) (hL : ∀ y ∈ (t.at q.t).L, 0 ≤ y ∧ y ≤ topOf q.t) (he : ansL t q = ws)
    (HPf : ∀ rp v W, QNew W rp f → Lies W v bs → (∀ b, v.ownBlock = some b → b ≠ rp) → Calls Tryz.prog 188 #[.pointer (some ⟨rp, 0, none⟩), v] W fun e w' => PPost W rp f v (parseL f bs) e w') :
    Calls Tryz.prog 23 #[.pointer (some ⟨rb, 0, none⟩), .int .i64 0, v, x] w fun r w' => r = .returned (.bool true) ∧ BankAt w' B rb sb tb kb (t.put q.t (carryL (t.at q.t).L q)) [allRules, []] us ∧ Chg w w' (fun k => k = sb ∨ k = (t.at q.t).g) := by
  have hus : ∃ u, us[0]? = some u := by
    have hl := h.st.cl.len
    cases us with
    | nil => simp at hl
    | cons u _ => exact ⟨u, rfl⟩
  obtain ⟨u, hu⟩ := hus
  have hq := parseL_ok f bs hbs hlen q hp
  have := done_q B rb sb tb kb t us u f v x bs ws q w Bv Bx h hu hv hx hws hb0 hlen hbs hp (by rw [hN]; exact exc_all N q hq.t (by omega) hr hw) hL (by rw [he]; exact hws) HPf
  rw [he, decide_eq_true (rfl : ws = ws)] at this
  exact this
/-- Reading. -/
theorem done_read (B rb sb tb kb : Nat) (t : T4) (us : List Value) (i a n : Nat) (v x : Value) (L : List Int) (w : World) (Bv Bx : Nat) (h : BankAt w B rb sb tb kb t [allRules, []] us) (hi : i < 4) (hLe : (t.at i).L = L) (hN : L.length ≤ 200) (hn1 : 1 ≤ n) (hn : n ≤ 125) (han : a + n ≤ L.length) (hL : ∀ y ∈ L, 0 ≤ y ∧ y ≤ topOf i)
    (hv : Owns w Bv v (fnOf i :: readB a n)) (hx : Owns w Bx x (fnOf i :: ((packT i (spanL L a n)).length : Int) :: packT i (spanL L a n))) (hws : Bys (fnOf i :: ((packT i (spanL L a n)).length : Int) :: packT i (spanL L a n))) :
    Calls Tryz.prog 23 #[.pointer (some ⟨rb, 0, none⟩), .int .i64 0, v, x] w fun r w' => r = .returned (.bool true) ∧ BankAt w' B rb sb tb kb t [allRules, []] us ∧ Chg w w' (fun k => k = sb ∨ k = (t.at i).g) := by
  have := done_t B rb sb tb kb t us (fnOf i) v x (readB a n) _ (readQ i a n) w Bv Bx h hv hx hws (by simp [readB, wd]) (by rw [readB_len]; omega) (readB_bys a n (by omega) (by omega)) (parse_readQ i a n hi (by omega) hn1 hn) L.length (by rw [show (readQ i a n).t = i from rfl, hLe]) hN han (Nat.zero_le _) (by rw [show (readQ i a n).t = i from rfl, hLe]; exact hL) (by
    unfold ansL
    rw [show (readQ i a n).t = i from rfl, hLe, carry_read, told_read]
    rfl) (fun rp v W hr hl _ => parse_fn i hi rp v _ W hr hl (readB_bys a n (by omega) (by omega)) (by rw [readB_len]; omega))
  rw [show (readQ i a n).t = i from rfl, carry_read, put_same t i hi] at this
  exact this
theorem b15_bys (a n : Nat) (qs : List Int) (ha : a ≤ 65535) (hn : n ≤ 65535) (hq : Bys qs) (hl : qs.length ≤ 255) : Bys (b15 a n qs) := by
  refine ((Bys.wd (by omega) (by omega)).append (Bys.wd (by omega) (by omega))).append ?_
  intro x hx
  rcases List.mem_cons.1 hx with rfl | hx
  · omega
  · exact hq x hx
theorem echo_told (q : Req) (p : List Int) (h : q.echo ≠ []) : toldL q p = q.f :: q.echo := by
  unfold toldL
  rw [if_neg h]
/-- Coils that are written. -/
theorem done_15 (B rb sb tb kb : Nat) (t : T4) (us : List Value) (a : Nat) (xs qs : List Int) (v x : Value) (L : List Int) (w : World) (Bv Bx : Nat) (h : BankAt w B rb sb tb kb t [allRules, []] us) (hLe : (t.at 0).L = L) (hN : L.length ≤ 200) (h1 : 1 ≤ xs.length) (h2 : xs.length ≤ 100) (han : a + xs.length ≤ L.length) (hL : ∀ y ∈ L, 0 ≤ y ∧ y ≤ 1) (hxs : ∀ y ∈ xs, 0 ≤ y ∧ y ≤ 1)
    (hl : qs.length = (xs.length + 7) / 8) (hu : unpackB qs xs.length = xs) (hq : Bys qs) (hv : Owns w Bv v (15 :: b15 a xs.length qs)) (hx : Owns w Bx x (15 :: (wd (a : Int) ++ wd (xs.length : Int)))) :
    Calls Tryz.prog 23 #[.pointer (some ⟨rb, 0, none⟩), .int .i64 0, v, x] w fun r w' => r = .returned (.bool true) ∧ BankAt w' B rb sb tb kb (t.put 0 (setL L a xs)) [allRules, []] us ∧ Chg w w' (fun k => k = sb ∨ k = (t.at 0).g) := by
  have hbys := b15_bys a xs.length qs (by omega) (by omega) hq (by omega)
  have hlen : (b15 a xs.length qs).length = 5 + qs.length := by simp [b15, wd]; omega
  have hws : Bys (15 :: (wd (a : Int) ++ wd (xs.length : Int))) := by
    intro y hy
    rcases List.mem_cons.1 hy with rfl | hy
    · omega
    · exact ((Bys.wd (by omega) (by omega)).append (Bys.wd (by omega) (by omega))) y hy
  have := done_t B rb sb tb kb t us 15 v x _ _ (q15 a xs) w Bv Bx h hv hx hws (by simp [b15, wd]) (by rw [hlen]; omega) hbys (parse_q15 a xs qs (by omega) h1 (by omega) hl hu) L.length (by rw [show (q15 a xs).t = 0 from rfl, hLe]) hN (Nat.zero_le _) han (by rw [show (q15 a xs).t = 0 from rfl, hLe]; exact hL) (by
    unfold ansL
    rw [echo_told _ _ (by simp [q15, wd])]
    rfl) (fun rp v W hr hl hd => parse_15 rp v _ W hr hl hbys (by rw [hlen]; omega) hd)
  rw [show (q15 a xs).t = 0 from rfl, hLe, carry_write L (q15 a xs) rfl rfl han (fun y hy => by have := hL y hy; omega) (fun y hy => by have := hxs y hy; omega)] at this
  exact this
/-- One coil. -/
theorem done_5 (B rb sb tb kb : Nat) (t : T4) (us : List Value) (a : Nat) (y : Int) (v x : Value) (L : List Int) (w : World) (Bv Bx : Nat) (h : BankAt w B rb sb tb kb t [allRules, []] us) (hLe : (t.at 0).L = L) (hN : L.length ≤ 200) (han : a + 1 ≤ L.length) (hL : ∀ y ∈ L, 0 ≤ y ∧ y ≤ 1) (hy : y = 0 ∨ y = 1)
    (hv : Owns w Bv v (5 :: b5 a y)) (hx : Owns w Bx x (5 :: b5 a y)) :
    Calls Tryz.prog 23 #[.pointer (some ⟨rb, 0, none⟩), .int .i64 0, v, x] w fun r w' => r = .returned (.bool true) ∧ BankAt w' B rb sb tb kb (t.put 0 (setL L a [y])) [allRules, []] us ∧ Chg w w' (fun k => k = sb ∨ k = (t.at 0).g) := by
  have hbys : Bys (b5 a y) := (Bys.wd (by omega) (by omega)).append (fun z hz => by
    rcases List.mem_cons.1 hz with rfl | hz
    · omega
    · rcases List.mem_singleton.1 hz with rfl
      omega)
  have hws : Bys (5 :: b5 a y) := by
    intro z hz
    rcases List.mem_cons.1 hz with rfl | hz
    · omega
    · exact hbys z hz
  have := done_t B rb sb tb kb t us 5 v x _ _ (q5 a y) w Bv Bx h hv hx hws (by simp [b5, wd]) (by simp [b5, wd]) hbys (parse_q5 a y (by omega) hy) L.length (by rw [show (q5 a y).t = 0 from rfl, hLe]) hN (Nat.zero_le _) han (by rw [show (q5 a y).t = 0 from rfl, hLe]; exact hL) (by
    unfold ansL
    rw [echo_told _ _ (by simp [q5, b5, wd])]
    rfl) (fun rp v W hr hl hd => parse_5 rp v _ W hr hl hbys (by simp [b5, wd]) hd)
  rw [show (q5 a y).t = 0 from rfl, hLe, carry_write L (q5 a y) rfl rfl han (fun y hy => by have := hL y hy; omega) (fun z hz => by
    rcases List.mem_singleton.1 hz with rfl
    omega)] at this
  exact this
end Go.Proofs.YtfekelmldebplaaGreatDoor

namespace Go.Proofs.YtfekelmldebplaaGreatDoor
open Go.RowKit Go.MuLone

theorem wrap64_byte (z : Int) : wrap64 z % 256 = z % 256 := by
  unfold wrap64
  omega
theorem or_byte (b m : Int) (hb : 0 ≤ b ∧ b < 256) (hm : 0 ≤ m ∧ m < 256) : 0 ≤ bits BinOp.or IntKind.u8 b m ∧ bits BinOp.or IntKind.u8 b m < 256 := by
  obtain ⟨x, rfl⟩ := Int.eq_ofNat_of_zero_le hb.1
  obtain ⟨y, rfl⟩ := Int.eq_ofNat_of_zero_le hm.1
  have h1 : x < 256 := by omega
  have h2 : y < 256 := by omega
  rw [or_u8 x y h1 h2]
  have := Nat.or_lt_two_pow (n := 8) h1 h2
  omega
/-- The bits that are left over. -/
theorem left_bits (xs : List Int) (hx : ∀ x ∈ xs, x = 0 ∨ x = 1) (m r8 : Nat) (mo : Int) (hm : (packL xs).length = m + 1) (hr : r8 = xs.length % 8) (h0 : r8 ≠ 0) :
    ((packL xs).set m (bits BinOp.or IntKind.u8 ((packL xs).getD m 0) (mo * 2 ^ r8 % 256))).length = m + 1 ∧ Bys ((packL xs).set m (bits BinOp.or IntKind.u8 ((packL xs).getD m 0) (mo * 2 ^ r8 % 256))) ∧ unpackB ((packL xs).set m (bits BinOp.or IntKind.u8 ((packL xs).getD m 0) (mo * 2 ^ r8 % 256))) xs.length = xs := by
  have hpl : (packL xs).length = (xs.length + 7) / 8 := packN_len _ _ _
  have hb : 0 ≤ (packL xs).getD m 0 ∧ (packL xs).getD m 0 < 256 := pack_at_bd _ _ _ _
  have ho : 0 ≤ mo * 2 ^ r8 % 256 ∧ mo * 2 ^ r8 % 256 < 256 := ⟨Int.emod_nonneg _ (by omega), Int.emod_lt_of_pos _ (by omega)⟩
  refine ⟨by simpa using hm, fun y hy => ?_, ?_⟩
  · rcases List.mem_or_eq_of_mem_set hy with hy | rfl
    · exact packN_bd _ _ _ y hy
    · exact or_byte _ _ hb ho
  · refine unpack_pack xs _ hx fun i hi => ?_
    by_cases e : i / 8 = m
    · have hlt : m < (packL xs).length := by omega
      have e1 : ((packL xs).set m (bits BinOp.or IntKind.u8 ((packL xs).getD m 0) (mo * 2 ^ r8 % 256))).getD (i / 8) 0 = bits BinOp.or IntKind.u8 ((packL xs).getD m 0) (mo * 2 ^ r8 % 256) := by
        rw [e, List.getD_eq_getElem?_getD, List.getElem?_set_self hlt]
        rfl
      rw [e1, bit_or _ _ _ hb ho, shl_bit mo r8 (i % 8) (by omega) (by omega), e]
      have h01 : (packL xs).getD m 0 / 2 ^ (i % 8) % 2 = 0 ∨ (packL xs).getD m 0 / 2 ^ (i % 8) % 2 = 1 := by omega
      rcases h01 with h01 | h01 <;> rw [h01] <;> rfl
    · rw [List.getD_eq_getElem?_getD, List.getElem?_set_ne (fun h => e h.symm), ← List.getD_eq_getElem?_getD]
theorem Owns.store {w : World} {B bb c : Nat} {xs : List Int} (h : Owns w B (.slice (some ⟨bb, 0, none⟩) xs.length c) xs) (i : Nat) (y : Int) : Owns (w.setCell ⟨bb, i, none⟩ (.int .u8 y)) B (.slice (some ⟨bb, 0, none⟩) (xs.set i y).length c) (xs.set i y) := by
  unfold Owns at h ⊢
  rcases h with ⟨h1, h2⟩
  refine ⟨by simp, ?_⟩
  rcases h2 with ⟨e, _⟩ | ⟨g, cap, cur, e, p1, p2, p3, p4, p5, p6⟩
  · cases e
  · cases e
    refine .inr ⟨bb, c, cur.setIfInBounds i (.int .u8 y), by simp, p1, heap_setCell_same w bb i _ _ _ p2, by simpa using p3, p4, by simpa using p5, ?_⟩
    rw [Nat.mul_one] at p6 ⊢
    simp only [List.length_set, Array.toList_setIfInBounds, List.map_set]
    rw [List.take_set, p6]
theorem Owns.cells {w : World} {B g c : Nat} {xs : List Int} (h : Owns w B (.slice (some ⟨g, 0, none⟩) xs.length c) xs) : ∀ i, i < xs.length → w.cell? ⟨g, i, none⟩ = some (.int .u8 (xs.getD i 0)) := fun i hi => by
  have := World.ownsRow.cellAt h i (by simpa using hi)
  rw [this]
  simp [List.getD, List.getElem?_eq_getElem hi]
theorem Owns.unfrozen {w : World} {B g c n : Nat} {xs : List Int} (h : Owns w B (.slice (some ⟨g, 0, none⟩) n c) xs) (i : Nat) : w.frozen? ⟨g, i, none⟩ = false := by
  rcases h.2 with ⟨e, _⟩ | ⟨g2, cap, cur, e, _, hh, _⟩
  · cases e
  · cases e
    exact frozen_of_row _ _ i _ _ hh
theorem Owns.bank {w w' : World} {B0 : Nat} {v : Value} {xs : List Int} {B rb sb tb kb : Nat} {t : T4} {LL : List (List Rule)} {us : List Value} (h : Owns w B0 v xs) (hB : BankAt w B rb sb tb kb t LL us) (i : Nat) (hi : i < 4) (c : Chg w w' (fun k => k = sb ∨ k = (t.at i).g)) : Owns w' B0 v xs :=
  ownsRow_keep h fun k _ h2 e => c.block k h2 (fun e2 => by
    obtain ⟨cs, fr, q⟩ := own_cells h e
    rcases e2 with e2 | e2
    · exact rows_ne q hB.st.row (by decide) e2
    · exact rows_ne q (hB.tab i hi).2.1.ent (by decide) e2)
theorem OwnsI.bank {w w' : World} {B0 B bb n c0 : Nat} {xs : List Int} {rb sb tb kb : Nat} {t : T4} {LL : List (List Rule)} {us : List Value} (h : OwnsI w B0 (.slice (some ⟨bb, 0, none⟩) n c0) xs) (hB : BankAt w B rb sb tb kb t LL us) (i : Nat) (hb : bb < B) (c : Chg w w' (fun k => k = sb ∨ k = (t.at i).g)) : OwnsI w' B0 (.slice (some ⟨bb, 0, none⟩) n c0) xs := by
  have h1 := hB.glo i
  have h2 := hB.st.lo
  exact OwnsI.keep h c (fun b e => by simp [Value.ownBlock] at e; subst e; intro e2; rcases e2 with e2 | e2 <;> omega)
theorem Below.bank {w W W' : World} {B rb sb tb kb : Nat} {t : T4} {LL : List (List Rule)} {us : List Value} (h : Below w.heap.size w W) (hB : BankAt W B rb sb tb kb t LL us) (hw : w.heap.size ≤ B) (i : Nat) (c : Chg W W' (fun k => k = sb ∨ k = (t.at i).g)) : Below w.heap.size w W' := by
  have h1 := hB.glo i
  have h2 := hB.st.lo
  exact below_chg h c (fun k e => by rcases e with e | e <;> omega)
theorem BankAt.keep5 {w w' : World} {B rb sb tb kb : Nat} {t : T4} {LL : List (List Rule)} {us : List Value} {D : Nat → Prop} (h : BankAt w B rb sb tb kb t LL us) (c : Chg w w' D) (hD : ∀ k, D k → ∃ cs fr, w.heap[k]? = some (.cells cs 5 fr)) : BankAt w' B rb sb tb kb t LL us := by
  have nd : ∀ {g : Nat} {cs : Array Value} {T : TypeId} {fr : Nat × Nat}, w.heap[g]? = some (.cells cs T fr) → T ≠ 5 → ¬ D g := fun q n e => by
    obtain ⟨cs, fr, q5⟩ := hD _ e
    exact rows_ne q q5 n rfl
  have b : ∀ {g : Nat} {cs : Array Value} {T : TypeId} {fr : Nat × Nat}, w.heap[g]? = some (.cells cs T fr) → T ≠ 5 → w'.heap[g]? = some (.cells cs T fr) := fun q n => (c.block _ (Array.getElem?_eq_some_iff.1 q).1 (nd q n)).trans q
  have tt := h.st.tabs
  refine ⟨b h.row (by decide), ⟨b h.st.row (by decide), ⟨b tt.row (by decide), tt.a0.chg c (nd tt.a0.row (by decide)) (nd tt.a0.ent (by decide)), tt.a1.chg c (nd tt.a1.row (by decide)) (nd tt.a1.ent (by decide)), tt.a2.chg c (nd tt.a2.row (by decide)) (nd tt.a2.ent (by decide)), tt.a3.chg c (nd tt.a3.row (by decide)) (nd tt.a3.ent (by decide)), tt.nd, tt.lo⟩, ⟨b h.st.cl.row (by decide), h.st.cl.len, h.st.cl.lo, fun i rs u h1 h2 => (h.st.cl.at_ i rs u h1 h2).chg c fun g e => ?_⟩, h.st.lo⟩, h.lo⟩
  obtain ⟨cs, fr, q⟩ := ((h.st.cl.at_ i rs u h1 h2).2 g e).2
  exact nd q (by decide)

/-- In the midst: the bank, the numbers, a list of bytes. -/
structure CS (w W : World) (B rb sb tb kb : Nat) (t : T4) (us : List Value) (bb cv : Nat) (xs : List Int) (hv : Value) (hs : List Int) : Prop where
  bel : Below w.heap.size w W
  bk : BankAt W B rb sb tb kb t [allRules, []] us
  own : OwnsI W w.heap.size (.slice (some ⟨bb, 0, none⟩) xs.length cv) xs
  head : Owns W w.heap.size hv hs
  lo : w.heap.size ≤ B
  bb : bb < B
theorem CS.below {w W W' : World} {B rb sb tb kb : Nat} {t : T4} {us : List Value} {bb cv : Nat} {xs : List Int} {hv : Value} {hs : List Int} (h : CS w W B rb sb tb kb t us bb cv xs hv hs) (hb : Below W.heap.size W W') : CS w W' B rb sb tb kb t us bb cv xs hv hs :=
  ⟨bl_trans h.bel hb, h.bk.below hb, OwnsI.keep h.own (Chg.of_below hb (fun _ => False)) (fun _ _ e => e), h.head.kept hb, h.lo, h.bb⟩
theorem CS.done {w W W' : World} {B rb sb tb kb : Nat} {t t' : T4} {us : List Value} {bb cv : Nat} {xs : List Int} {hv : Value} {hs : List Int} (h : CS w W B rb sb tb kb t us bb cv xs hv hs) (i : Nat) (hi : i < 4) (c : Chg W W' (fun k => k = sb ∨ k = (t.at i).g)) (hb : BankAt W' B rb sb tb kb t' [allRules, []] us) : CS w W' B rb sb tb kb t' us bb cv xs hv hs :=
  ⟨Below.bank h.bel h.bk h.lo i c, hb, h.own.bank h.bk i h.bb c, h.head.bank h.bk i hi c, h.lo, h.bb⟩
theorem CS.got {w W W' : World} {B rb sb tb kb : Nat} {t t' : T4} {us : List Value} {bb cv : Nat} {xs : List Int} {hv : Value} {hs : List Int} (h : CS w W B rb sb tb kb t us bb cv xs hv hs) (c : Chg W W' (fun k => k = sb)) (hb : BankAt W' B rb sb tb kb t' [allRules, []] us) : CS w W' B rb sb tb kb t' us bb cv xs hv hs :=
  h.done 0 (by omega) (c.mono (fun _ _ e => .inl e)) hb
end Go.Proofs.YtfekelmldebplaaGreatDoor

namespace Go.Proofs.YtfekelmldebplaaGreatDoor
open Go.RowKit

/-! ### A region that draws its order, by what each of its operations leaves -/

/-- Each slot of the row holds what 'u' says. -/
def over (a : Act) : List (Option Nat) → (Nat → Value) → Act
  | [], _ => a
  | d :: ds, u => over (match d with | some k => a.put (some k) (u k) | none => a) ds u
def upd (u : Nat → Value) (d : Option Nat) (v : Value) : Nat → Value := match d with | some k => fun j => if j = k then v else u j | none => u
/-- What was written. -/
def wrote (d : Option Nat) (v : Value) : Value := match d with | some _ => v | none => undef
def valOf (u : Nat → Value) (d : Option Nat) : Value := match d with | some k => u k | none => undef

theorem act_ext {a b : Act} (h1 : a.tmps = b.tmps) (h2 : a.defers = b.defers) : a = b := by
  cases a; cases b; simp at h1 h2; simp [h1, h2]
theorem over_defers (u : Nat → Value) : ∀ (ds : List (Option Nat)) (a : Act), (over a ds u).defers = a.defers
  | [], _ => rfl
  | none :: ds, a => over_defers u ds a
  | some k :: ds, a => (over_defers u ds (a.put (some k) (u k))).trans rfl
theorem over_size (u : Nat → Value) : ∀ (ds : List (Option Nat)) (a : Act), (over a ds u).tmps.size = a.tmps.size
  | [], _ => rfl
  | none :: ds, a => over_size u ds a
  | some k :: ds, a => (over_size u ds (a.put (some k) (u k))).trans (by simp [Act.put])
theorem over_get (u : Nat → Value) (j : Nat) : ∀ (ds : List (Option Nat)) (a : Act), j < a.tmps.size → (over a ds u).tmps[j]? = if some j ∈ ds then some (u j) else a.tmps[j]?
  | [], _, _ => by simp [over]
  | none :: ds, a, h => by
    show (over a ds u).tmps[j]? = _
    rw [over_get u j ds a h]
    simp
  | some k :: ds, a, h => by
    show (over (a.put (some k) (u k)) ds u).tmps[j]? = _
    rw [over_get u j ds _ (by simpa [Act.put] using h)]
    by_cases e : some j ∈ ds
    · simp [e]
    · by_cases e2 : j = k
      · subst e2
        simp [e, Act.put, h]
      · have e3 : k ≠ j := fun e => e2 e.symm
        simp [e, e2, Act.put, Array.getElem?_setIfInBounds_ne e3]
theorem over_put (a : Act) (ds : List (Option Nat)) (u : Nat → Value) (d : Option Nat) (v : Value) (hd : d = none ∨ d ∈ ds) : (over a ds u).put d v = over a ds (upd u d v) := by
  cases d with
  | none => rfl
  | some k =>
    have hk : some k ∈ ds := by
      rcases hd with hd | hd
      · cases hd
      · exact hd
    refine act_ext ?_ ?_
    · apply Array.ext_getElem?
      intro j
      by_cases hj : j < a.tmps.size
      · rw [over_get _ _ _ _ hj]
        show ((over a ds u).tmps.setIfInBounds k v)[j]? = _
        by_cases e : j = k
        · subst e
          simp [upd, hk, over_size, hj]
        · have e3 : k ≠ j := fun e' => e e'.symm
          rw [Array.getElem?_setIfInBounds_ne e3, over_get _ _ _ _ hj]
          simp [upd, e]
      · rw [Array.getElem?_eq_none (by show ((over a ds u).tmps.setIfInBounds k v).size ≤ j; simp [over_size]; omega), Array.getElem?_eq_none (by rw [over_size]; omega)]
    · rw [over_defers]
      show (over a ds u).defers = _
      rw [over_defers]
theorem over_self (a : Act) (ds : List (Option Nat)) : over a ds (fun k => a.tmps.getD k undef) = a := by
  refine act_ext ?_ (over_defers _ _ _)
  apply Array.ext_getElem?
  intro j
  by_cases hj : j < a.tmps.size
  · rw [over_get _ _ _ _ hj]
    split
    · simp [hj]
    · rfl
  · rw [Array.getElem?_eq_none (by rw [over_size]; omega), Array.getElem?_eq_none (by omega)]

/-- What an operation's forerunners left. -/
def Deps (ds : List (Option Nat)) (R : Nat → Value → World → Prop) (u : Nat → Value) (w : World) : List Edge → Prop
  | [] => True
  | e :: l => R e.on (valOf u (ds.getD e.on none)) w ∧ Deps ds R u w l
/-- An operation does its part (a structure, so that nothing lays it open by itself). -/
structure Does (P : Program) (o : Oper) (A : Act) (w : World) (R : Value → World → Prop) (Le : World → World → Prop) (S : World → Prop) (Q : Exit → Act → World → Prop) : Prop where
  go : o.wp P A w (fun a' w' => ∃ v, a' = A.put o.dst v ∧ R (wrote o.dst v) w' ∧ Le w w' ∧ S w') Q
/-- Each operation does its part. -/
def StepAll (P : Program) (Q : Exit → Act → World → Prop) (a : Act) (ds : List (Option Nat)) (S : World → Prop) (Le : World → World → Prop) (R : Nat → Value → World → Prop) : Nat → List Oper → Prop
  | _, [] => True
  | i, o :: l => (o.guard = none ∧ o.dst = ds.getD i none ∧ (∀ u w, S w → Deps ds R u w o.after.toList → Does P o (over a ds u) w (R i) Le S Q)) ∧ StepAll P Q a ds S Le R (i + 1) l
/-- Edges go back. -/
def BackAll : Nat → List Oper → Bool
  | _, [] => true
  | i, o :: l => (o.after.toList.all fun e => decide (e.on < i) && Region.binds .any e) && BackAll (i + 1) l
theorem StepAll.at {P : Program} {Q : Exit → Act → World → Prop} {a : Act} {ds : List (Option Nat)} {S : World → Prop} {Le : World → World → Prop} {R : Nat → Value → World → Prop} : ∀ (l : List Oper) (k i : Nat) (o : Oper), StepAll P Q a ds S Le R k l → l[i]? = some o → (o.guard = none ∧ o.dst = ds.getD (k + i) none ∧ (∀ u w, S w → Deps ds R u w o.after.toList → Does P o (over a ds u) w (R (k + i)) Le S Q))
  | [], _, _, _, _, e => by simp at e
  | x :: l, k, 0, o, h, e => by
    simp at e
    subst e
    exact h.1
  | x :: l, k, i + 1, o, h, e => by
    have := StepAll.at l (k + 1) i o h.2 (by simpa using e)
    rw [show k + 1 + i = k + (i + 1) by omega] at this
    exact this
theorem BackAll.at : ∀ (l : List Oper) (k i : Nat) (o : Oper), BackAll k l = true → l[i]? = some o → ∀ e ∈ o.after, e.on < k + i ∧ Region.binds .any e = true
  | [], _, _, _, _, e => by simp at e
  | x :: l, k, 0, o, h, e => by
    simp at e
    subst e
    intro e he
    simp only [BackAll, Bool.and_eq_true, List.all_eq_true] at h
    have := h.1 e (by simpa using he)
    simp at this
    exact this
  | x :: l, k, i + 1, o, h, e => by
    simp only [BackAll, Bool.and_eq_true] at h
    have := BackAll.at l (k + 1) i o h.2 (by simpa using e)
    intro e he
    have := this e he
    exact ⟨by omega, this.2⟩

theorem count_less {p q : Nat → Bool} {i : Nat} (h1 : ∀ x, q x = true → p x = true) (hp : p i = true) (hq : q i = false) : ∀ l : List Nat, i ∈ l → l.countP q < l.countP p
  | [], h => by simp at h
  | x :: l, h => by
    have mono : l.countP q ≤ l.countP p := List.countP_mono_left (fun x _ => h1 x)
    rcases List.mem_cons.1 h with rfl | h
    · rw [List.countP_cons_of_pos hp, List.countP_cons_of_neg (by simp [hq])]
      omega
    · have ih := count_less h1 hp hq l h
      by_cases e : q x = true
      · rw [List.countP_cons_of_pos e, List.countP_cons_of_pos (h1 x e)]
        omega
      · rw [List.countP_cons_of_neg e]
        have := List.countP_le_length (p := p) (l := l)
        by_cases e2 : p x = true
        · rw [List.countP_cons_of_pos e2]
          omega
        · rw [List.countP_cons_of_neg e2]
          exact ih

/-- No slot is written twice. -/
def ndB : List (Option Nat) → Bool
  | [] => true
  | none :: l => ndB l
  | some k :: l => !l.contains (some k) && ndB l
theorem ndB.spec : ∀ (ds : List (Option Nat)), ndB ds = true → ∀ (i j k : Nat), ds[i]? = some (some k) → ds[j]? = some (some k) → i = j
  | [], _, i, _, _, h, _ => by simp at h
  | none :: l, h, i, j, k, h1, h2 => by
    cases i with
    | zero => simp at h1
    | succ i =>
      cases j with
      | zero => simp at h2
      | succ j => rw [ndB.spec l h i j k (by simpa using h1) (by simpa using h2)]
  | some m :: l, h, i, j, k, h1, h2 => by
    simp only [ndB, Bool.and_eq_true, Bool.not_eq_true'] at h
    cases i with
    | zero =>
      cases j with
      | zero => rfl
      | succ j =>
        simp at h1 h2
        subst h1
        have := List.mem_of_getElem? h2
        simp [this] at h
    | succ i =>
      cases j with
      | zero =>
        simp at h1 h2
        subst h2
        have := List.mem_of_getElem? h1
        simp [this] at h
      | succ j => rw [ndB.spec l h.2 i j k (by simpa using h1) (by simpa using h2)]

theorem wpAny_facts {P : Program} {Q : Exit → Act → World → Prop} {a : Act} {ds : List (Option Nat)} {S : World → Prop} {Le : World → World → Prop} {R : Nat → Value → World → Prop} {ops : List Oper}
    (nd : ∀ (i j k : Nat), ds[i]? = some (some k) → ds[j]? = some (some k) → i = j) (hlen : ds.length = ops.length)
    (hback : BackAll 0 ops = true) (hst : ∀ i v w w', R i v w → Le w w' → R i v w') (hstep : StepAll P Q a ds S Le R 0 ops)
    (hend : ∀ u w, S w → (∀ i, i < ops.length → R i (valOf u (ds.getD i none)) w) → Q .normal (over a ds u) w) :
    ∀ (fuel : Nat) (listed : Array Bool) (u : Nat → Value) (w : World), S w → listed.size = ops.length → (List.range ops.length).countP (fun i => !listed.getD i true) ≤ fuel → (∀ i, listed.getD i false = true → R i (valOf u (ds.getD i none)) w) →
      wpAny P .any ops.toArray Q fuel listed (over a ds u) w := by
  -- where nothing is ready, all are listed
  have hall : ∀ (listed : Array Bool), listed.size = ops.length → Region.ready .any ops.toArray listed = [] → ∀ i, i < ops.length → listed.getD i false = true := by
    intro listed hs hr i
    induction i using Nat.strongRecOn with
    | _ i ih =>
      intro hi
      cases hb : listed.getD i false with
      | true => rfl
      | false =>
        exfalso
        have hlt : i < listed.size := by omega
        have hb' : listed.getD i true = false := by
          simp only [Array.getD, hlt, dite_true] at hb ⊢
          exact hb
        have : i ∈ Region.ready .any ops.toArray listed := by
          unfold Region.ready
          rw [List.mem_filter]
          refine ⟨by simpa using hi, ?_⟩
          have ho : ops.toArray[i]? = some ops[i] := by simp [hi]
          rw [hb', ho]
          simp only [Bool.not_false, Option.map_some, Option.getD_some, Bool.true_and]
          rw [Array.all_eq_true]
          intro k hk
          have he := BackAll.at ops 0 i ops[i] hback (by simp [hi]) _ (Array.getElem_mem hk)
          rw [he.2, ih _ (by omega) (by omega)]
          rfl
        rw [hr] at this
        simp at this
  have hnorm : ∀ (listed : Array Bool) (u : Nat → Value) (w : World), S w → listed.size = ops.length → Region.ready .any ops.toArray listed = [] → (∀ i, listed.getD i false = true → R i (valOf u (ds.getD i none)) w) → Q .normal (over a ds u) w := fun listed u w hS hs hr hf => hend u w hS (fun i hi => hf i (hall listed hs hr i hi))
  intro fuel
  induction fuel with
  | zero =>
    intro listed u w hS hs hc hf
    have hr : Region.ready .any ops.toArray listed = [] := by
      unfold Region.ready
      rw [List.filter_eq_nil_iff]
      intro i hi
      have h0 : (List.range ops.length).countP (fun i => !listed.getD i true) = 0 := by omega
      rw [List.countP_eq_zero] at h0
      have := h0 i (by simpa using hi)
      simp only [Bool.and_eq_true, _root_.not_and]
      intro h
      exact absurd h this
    exact ⟨hr, hnorm listed u w hS hs hr hf⟩
  | succ fuel ih =>
    intro listed u w hS hs hc hf
    refine ⟨fun hr => hnorm listed u w hS hs hr hf, fun i hi => ?_⟩
    unfold Region.ready at hi
    rw [List.mem_filter] at hi
    obtain ⟨hi, hp⟩ := hi
    have hi' : i < ops.length := by simpa using hi
    have ho : ops.toArray[i]? = some ops[i] := by simp [hi']
    have hol : ops[i]? = some ops[i] := by simp [hi']
    rw [ho] at hp
    simp only [Option.map_some, Option.getD_some, Bool.and_eq_true, Bool.not_eq_true'] at hp
    obtain ⟨hpl, hpa⟩ := hp
    rw [Array.all_eq_true] at hpa
    obtain ⟨s1, s2, s3⟩ := StepAll.at ops 0 i ops[i] hstep hol
    rw [Nat.zero_add] at s2 s3
    have hdi : ds[i]? = some (ds.getD i none) := by
      have : i < ds.length := by omega
      simp [List.getD, List.getElem?_eq_getElem this]
    have hdm : (ops[i]).dst = none ∨ (ops[i]).dst ∈ ds := by
      rw [s2]
      exact .inr (List.mem_of_getElem? hdi)
    have hdeps : Deps ds R u w (ops[i]).after.toList := by
      have : ∀ l : List Edge, (∀ e ∈ l, e ∈ (ops[i]).after) → Deps ds R u w l := by
        intro l
        induction l with
        | nil => intro _; trivial
        | cons e l ihl =>
          intro h
          have he := h e (List.mem_cons_self ..)
          obtain ⟨k, hk, rfl⟩ := Array.getElem_of_mem he
          have hb := (BackAll.at ops 0 i ops[i] hback hol _ he).2
          have := hpa k hk
          rw [hb] at this
          refine ⟨hf _ (by simpa using this), ihl (fun e he => h e (List.mem_cons_of_mem _ he))⟩
      exact this _ (fun e he => by simpa using he)
    have hw : Region.wanted ops[i] (yielded ops.toArray (over a ds u).tmps) = true := by
      unfold Region.wanted
      rw [s1]
    unfold wpOp
    rw [ho]
    simp only [hw, if_true]
    refine .inl (Oper.wp_mono ?_ (s3 u w hS hdeps).go)
    rintro a' w' ⟨v, rfl, hR, hLe, hS'⟩
    rw [over_put a ds u _ v hdm]
    have hil : i < listed.size := by omega
    refine ih _ _ _ hS' (by simpa using hs) ?_ ?_
    · have := count_less (p := fun x => !listed.getD x true) (q := fun x => !(listed.setIfInBounds i true).getD x true) (i := i) (fun x hx => by
        by_cases e : x = i
        · subst e
          simp [Array.getD, hil] at hx
        · have e' : i ≠ x := fun h => e h.symm
          by_cases hxl : x < listed.size
          · simp only [Array.getD, Array.size_setIfInBounds, hxl, dite_true, Array.getInternal_eq_getElem, Array.getElem_setIfInBounds_ne hxl e'] at hx ⊢
            exact hx
          · simp [Array.getD, hxl] at hx) (by rw [hpl]; rfl) (by simp [Array.getD, hil]) (List.range ops.length) (by simpa using hi')
      omega
    · intro j hj
      by_cases e : j = i
      · subst e
        rw [← s2]
        have hv : valOf (upd u (ops[j]).dst v) (ops[j]).dst = wrote (ops[j]).dst v := by
          cases (ops[j]).dst with
          | none => rfl
          | some k => simp [valOf, upd, wrote]
        rw [hv]
        exact hR
      · have e' : i ≠ j := fun h => e h.symm
        have hj' : listed.getD j false = true := by
          by_cases hxl : j < listed.size
          · simp only [Array.getD, Array.size_setIfInBounds, hxl, dite_true, Array.getInternal_eq_getElem, Array.getElem_setIfInBounds_ne hxl e'] at hj ⊢
            exact hj
          · simp [Array.getD, hxl] at hj
        have h1 := hst _ _ _ _ (hf j hj') hLe
        have hv : valOf (upd u (ops[i]).dst v) (ds.getD j none) = valOf u (ds.getD j none) := by
          cases hdj : ds.getD j none with
          | none => rfl
          | some k =>
            cases hdi2 : (ops[i]).dst with
            | none => rfl
            | some k2 =>
              have hne : k ≠ k2 := by
                intro hk
                subst hk
                refine e (nd j i k ?_ ?_)
                · have hjl : j < ds.length := by
                    by_cases hjl : j < ds.length
                    · exact hjl
                    · simp [List.getD, List.getElem?_eq_none (Nat.le_of_not_lt hjl)] at hdj
                  simp [List.getD, List.getElem?_eq_getElem hjl] at hdj
                  rw [List.getElem?_eq_getElem hjl, hdj]
                · rw [hdi, ← s2, hdi2]
              simp [valOf, upd, hne]
        rw [hv]
        exact h1

theorem wp_region_facts {P : Program} {Q : Exit → Act → World → Prop} {a : Act} {w : World} {id : Nat} {ops : List Oper} (ds : List (Option Nat)) (S : World → Prop) (Le : World → World → Prop) (R : Nat → Value → World → Prop)
    (hm : P.follows .mixedOrders = true) (nd : ndB ds = true) (hlen : ds.length = ops.length)
    (hback : BackAll 0 ops = true) (hst : ∀ i v w w', R i v w → Le w w' → R i v w') (hS : S w.drew) (hstep : StepAll P Q a ds S Le R 0 ops)
    (hend : ∀ u w, S w → (∀ i, i < ops.length → R i (valOf u (ds.getD i none)) w) → Q .normal (over a ds u) w) : (Code.region id ops.toArray true).wp P Q a w := by
  refine wp_region_any hm ?_
  have := wpAny_facts (ndB.spec ds nd) hlen hback hst hstep hend ops.length (Array.replicate ops.length false) (fun k => a.tmps.getD k undef) w.drew hS (by simp) (by
    refine Nat.le_trans List.countP_le_length ?_
    simp) (fun i hi => by
    exfalso
    by_cases h : i < ops.length
    · simp [Array.getD, h] at hi
    · simp [Array.getD, h] at hi)
  rw [over_self] at this
  simpa using this
end Go.Proofs.YtfekelmldebplaaGreatDoor

namespace Go.Proofs.YtfekelmldebplaaGreatDoor
open Go.RowKit

theorem wp_value {P : Program} {o : Oper} {A : Act} {w w' : World} {K : Act → World → Prop} {Q : Exit → Act → World → Prop} {v : Value} (hr : (execOp A.eval o).run P w = .ok (.value v) w') (h : K (A.put o.dst v) w') : o.wp P A w K Q := by
  unfold Oper.wp
  rw [hr]
  exact h
theorem wp_enter {P : Program} {o : Oper} {A : Act} {w w' : World} {K : Act → World → Prop} {Q : Exit → Act → World → Prop} {f : FuncId} {args : Array Value} (hr : (execOp A.eval o).run P w = .ok (.enter f args) w') (R : Ending → World → Prop) (hc : Calls P f args w' R) (h : ∀ e w'', R e w'' → ∃ r, e = .returned r ∧ K (A.put o.dst r) w'') : o.wp P A w K Q := by
  unfold Oper.wp
  rw [hr]
  refine hc.mono ?_
  intro e w'' he
  obtain ⟨r, rfl, hk⟩ := h e w'' he
  exact hk
theorem StepAll.cons {P : Program} {Q : Exit → Act → World → Prop} {a : Act} {ds : List (Option Nat)} {S : World → Prop} {Le : World → World → Prop} {R : Nat → Value → World → Prop} {i : Nat} {o : Oper} {l : List Oper} (h1 : o.guard = none) (h2 : o.dst = ds.getD i none)
    (h3 : ∀ u w, S w → Deps ds R u w o.after.toList → Does P o (over a ds u) w (R i) Le S Q) (h4 : StepAll P Q a ds S Le R (i + 1) l) : StepAll P Q a ds S Le R i (o :: l) := ⟨⟨h1, h2, h3⟩, h4⟩
/-- An operation that yields. -/
theorem step_value {P : Program} {o : Oper} {A : Act} {w w' : World} {Q : Exit → Act → World → Prop} {R : Value → World → Prop} {Le : World → World → Prop} {S : World → Prop} {v : Value} (d : Nat) (hd : o.dst = some d) (hr : (execOp A.eval o).run P w = .ok (.value v) w') (hR : R v w') (hL : Le w w') (hS : S w') :
    Does P o A w R Le S Q := ⟨wp_value hr ⟨v, rfl, by rw [hd]; exact hR, hL, hS⟩⟩
/-- An operation that calls. -/
theorem step_enter {P : Program} {o : Oper} {A : Act} {w w' : World} {Q : Exit → Act → World → Prop} {R : Value → World → Prop} {Le : World → World → Prop} {S : World → Prop} {f : FuncId} {args : Array Value} (d : Nat) (hd : o.dst = some d) (hr : (execOp A.eval o).run P w = .ok (.enter f args) w') (C : Ending → World → Prop) (hc : Calls P f args w' C) (h : ∀ e w'', C e w'' → ∃ v, e = .returned v ∧ R v w'' ∧ Le w w'' ∧ S w'') :
    Does P o A w R Le S Q := ⟨wp_enter hr C hc fun e w'' he => by
  obtain ⟨v, rfl, h1, h2, h3⟩ := h e w'' he
  exact ⟨v, rfl, v, rfl, by rw [hd]; exact h1, h2, h3⟩⟩
theorem eval_in (a : Act) (ds : List (Option Nat)) (u : Nat → Value) (k : Nat) (hk : some k ∈ ds) (hs : k < a.tmps.size) : (over a ds u).eval (.tmp k) = u k := by
  simp [Act.eval, over_get u k ds a hs, hk]
theorem eval_out (a : Act) (ds : List (Option Nat)) (u : Nat → Value) (k : Nat) (hk : some k ∉ ds) (hs : k < a.tmps.size) : (over a ds u).eval (.tmp k) = a.eval (.tmp k) := by
  simp [Act.eval, over_get u k ds a hs, hk]
def inS (ds : List (Option Nat)) (n k : Nat) : Bool := ds.contains (some k) && Nat.blt k n
def outS (ds : List (Option Nat)) (n k : Nat) : Bool := !ds.contains (some k) && Nat.blt k n
theorem eval_inS (a : Act) (ds : List (Option Nat)) (n : Nat) (hs : n ≤ a.tmps.size) (u : Nat → Value) (k : Nat) (h : inS ds n k = true) : (over a ds u).eval (.tmp k) = u k := by
  unfold inS at h
  rw [Bool.and_eq_true] at h
  have : k < n := by have := h.2; rwa [Nat.blt_eq] at this
  exact eval_in a ds u k (by simpa using h.1) (by omega)
theorem eval_outS (a : Act) (ds : List (Option Nat)) (n : Nat) (hs : n ≤ a.tmps.size) (u : Nat → Value) (k : Nat) (h : outS ds n k = true) : (over a ds u).eval (.tmp k) = a.eval (.tmp k) := by
  unfold outS at h
  rw [Bool.and_eq_true] at h
  have : k < n := by have := h.2; rwa [Nat.blt_eq] at this
  exact eval_out a ds u k (by simpa using h.1) (by omega)
section
variable {ev : Operand → Value} {w : World} {dst : Option Tmp} {T : TypeId} {p : String} {af : Array Edge} {g : Option (Nat × Bool)}
theorem run_move (x : Operand) : (execOp ev { dst := dst, op := .move x, type := T, pos := p, after := af, guard := g }).run Tryz.prog w = .ok (.value (ev x)) w := by
  simp [go_sem]
theorem run_assign (x : Operand) : (execOp ev { dst := dst, op := .assign x, type := T, pos := p, after := af, guard := g }).run Tryz.prog w = .ok (.value (ev x)) w := by
  simp [go_sem]
theorem run_bytes1 (x : Operand) (f : Int) (hx : ev x = .int .u8 f) : (execOp ev { dst := dst, op := .buildSlice 37 1 #[(0, x)], type := T, pos := p, after := af, guard := g }).run Tryz.prog w = .ok (.value (.slice (some ⟨w.heap.size, 0, none⟩) 1 1)) (w.alloc (.cells #[.int .u8 f] 5)) := by
  simp [go_sem, hx]
theorem run_bytes2 (x y : Operand) (f k : Int) (hx : ev x = .int .u8 f) (hy : ev y = .int .u8 k) : (execOp ev { dst := dst, op := .buildSlice 37 2 #[(0, x), (1, y)], type := T, pos := p, after := af, guard := g }).run Tryz.prog w = .ok (.value (.slice (some ⟨w.heap.size, 0, none⟩) 2 2)) (w.alloc (.cells #[.int .u8 f, .int .u8 k] 5)) := by
  simp [go_sem, hx, hy]
theorem run_call1 (f : FuncId) (x : Operand) (ts : Array TypeId) (hf : ev (.func f) = .func (.func f) #[] #[]) (hc : ∀ args w, (callFunc f args).run Tryz.prog w = .ok (.enter f args) w) : (execOp ev { dst := dst, op := .call { callee := .value (.func f), args := #[x], argTypes := ts }, type := T, pos := p, after := af, guard := g }).run Tryz.prog w = .ok (.enter f #[ev x]) w := by
  simp [go_sem, hf, hc]
theorem run_call4 (f : FuncId) (x y z t : Operand) (ts : Array TypeId) (hf : ev (.func f) = .func (.func f) #[] #[]) (hc : ∀ args w, (callFunc f args).run Tryz.prog w = .ok (.enter f args) w) : (execOp ev { dst := dst, op := .call { callee := .value (.func f), args := #[x, y, z, t], argTypes := ts }, type := T, pos := p, after := af, guard := g }).run Tryz.prog w = .ok (.enter f #[ev x, ev y, ev z, ev t]) w := by
  simp [go_sem, hf, hc]
theorem run_row2 (x y : Operand) (a1 a2 : Option Addr) (n1 c1 n2 c2 : Nat) (hx : ev x = .slice a1 n1 c1) (hy : ev y = .slice a2 n2 c2) : (execOp ev { dst := dst, op := .buildSlice 45 2 #[(0, x), (1, y)], type := T, pos := p, after := af, guard := g }).run Tryz.prog w = .ok (.value (.slice (some ⟨w.heap.size, 0, none⟩) 2 2)) (w.alloc (.cells #[.slice a1 n1 c1, .slice a2 n2 c2] 37)) := by
  simp [go_sem, hx, hy]
theorem callf_join (args : Array Value) (w : World) : (callFunc 24 args).run Tryz.prog w = .ok (.enter 24 args) w := by
  simp [go_sem]
theorem callf_done (args : Array Value) (w : World) : (callFunc 23 args).run Tryz.prog w = .ok (.enter 23 args) w := by
  simp [go_sem]
theorem run_len (x : Operand) (a : Option Addr) (n c : Nat) (hx : ev x = .slice a n c) : (execOp ev { dst := dst, op := .call { callee := .builtin .len, args := #[x], argTypes := #[37] }, type := 3, pos := p, after := af, guard := g }).run Tryz.prog w = .ok (.value (.int .i64 n)) w := by
  simp [go_sem, hx]
theorem run_byte (x : Operand) (n : Int) (hx : ev x = .int .i64 n) (h0 : 0 ≤ n) (h1 : n < 256) : (execOp ev { dst := dst, op := .convert 3 5 x, type := T, pos := p, after := af, guard := g }).run Tryz.prog w = .ok (.value (.int .u8 n)) w := by
  have : IntKind.u8.wrap n = n := by
    rw [IntKind.wrap_u8]
    omega
  simp [go_sem, hx, this]
theorem run_make (x : Operand) (n : Nat) (hx : ev x = .int .i64 n) (hn : n ≤ 1000000) : (execOp ev { dst := dst, op := .makeSlice 37 x x, type := T, pos := p, after := af, guard := g }).run Tryz.prog w = .ok (.value (.slice (some ⟨w.heap.size, 0, none⟩) n n)) (w.alloc (.cells ((List.replicate n (0 : Int)).map (Value.int .u8)).toArray 5)) := by
  have := makesB n hn w
  simp [go_sem, hx, this]
end
end Go.Proofs.YtfekelmldebplaaGreatDoor

namespace Go.Proofs.YtfekelmldebplaaGreatDoor
open Go.RowKit Go.MuLone

/-! ### Steps of a region that draws: lists of bytes, and rows of them -/
/-- Bytes and rows of lists of bytes are as they were. -/
def LeB (w w' : World) : Prop := ∀ (k : Nat) (cs : Array Value) (T : TypeId) (fr : Nat × Nat), T = 5 ∨ T = 37 → w.heap[k]? = some (.cells cs T fr) → w'.heap[k]? = some (.cells cs T fr)
theorem LeB.refl (w : World) : LeB w w := fun _ _ _ _ _ h => h
theorem LeB.of_below {w w' : World} (hb : Below w.heap.size w w') : LeB w w' := fun k _ _ _ _ h => (hb.block k (Array.getElem?_eq_some_iff.1 h).1).trans h
theorem LeB.new (w : World) (o : Obj) : LeB w (w.alloc o) := LeB.of_below (rule_new w o)
theorem LeB.bank {w w' : World} {B rb sb tb kb : Nat} {t : T4} {LL : List (List Rule)} {us : List Value} (hB : BankAt w B rb sb tb kb t LL us) (i : Nat) (hi : i < 4) (c : Chg w w' (fun k => k = sb ∨ k = (t.at i).g)) : LeB w w' := fun k cs T fr hT h => by
  refine (c.block k (Array.getElem?_eq_some_iff.1 h).1 (fun e => ?_)).trans h
  rcases e with e | e
  · rcases hT with rfl | rfl
    · exact rows_ne h hB.st.row (by decide) e
    · exact rows_ne h hB.st.row (by decide) e
  · rcases hT with rfl | rfl
    · exact rows_ne h (hB.tab i hi).2.1.ent (by decide) e
    · exact rows_ne h (hB.tab i hi).2.1.ent (by decide) e
theorem Owns.leB {w w' : World} {B : Nat} {v : Value} {xs : List Int} (h : Owns w B v xs) (l : LeB w w') : Owns w' B v xs :=
  ownsRow_keep h fun k _ _ e => by
    obtain ⟨cs, fr, q⟩ := own_cells h e
    rw [q, l k cs 5 fr (.inl rfl) q]
theorem owns_fresh (w : World) (xs : List Int) (B : Nat) (hB : B ≤ w.heap.size) (hn : xs.length ≤ 1000000) : Owns (w.alloc (.cells (xs.map (Value.int .u8)).toArray 5)) B (.slice (some ⟨w.heap.size, 0, none⟩) xs.length xs.length) xs := by
  refine ⟨by simp, .inr ⟨w.heap.size, xs.length, (xs.map (Value.int .u8)).toArray, rfl, hB, heap_alloc_new w _, Nat.le_refl _, by unfold maxLen; omega, by simp, ?_⟩⟩
  simp [List.take_of_length_le]
/-- 'join' of two lists whose row lies somewhere. -/
theorem join_two (W : World) (J B : Nat) (x y : Value) (xs ys : List Int) (hB : B ≤ W.heap.size) (hJ : W.heap[J]? = some (.cells #[x, y] 37 (0, 0))) (hx : Lies W x xs) (hy : Lies W y ys) (x0 : xs ≠ []) (y0 : ys ≠ []) (hn : xs.length + ys.length ≤ 1000000) :
    Calls Tryz.prog 24 #[.slice (some ⟨J, 0, none⟩) 2 2] W fun e w' => ∃ a m c, e = .returned (.slice a m c) ∧ Owns w' B (.slice a m c) (xs ++ ys) ∧ Below W.heap.size W w' := by
  refine (join_row J 2 [x, y] [xs, ys] _ W W (Below.refl _ _) hJ rfl rfl (fun i hi => by
    match i, hi with
    | 0, _ => exact ⟨hx, x0⟩
    | 1, _ => exact ⟨hy, y0⟩) (by omega) (by simp; omega)).mono ?_
  rintro e w' ⟨a, m, c, rfl, ho, hb⟩
  refine ⟨a, m, c, rfl, ?_, hb⟩
  have e : [xs, ys].flatten = xs ++ ys := by simp
  rw [e] at ho
  exact ho.weak hB

/-! ### Coils, the region at which the switches are read -/
def ops24 : List Oper := [
  { dst := some 175, op := Op.move (Operand.tmp 11), type := 28, pos := "keeps.go:189", after := #[], guard := none },
  { dst := some 176, op := Op.buildSlice 37 1 #[(0, Operand.const (Value.int IntKind.u8 2))], type := 37, pos := "keeps.go:189", after := #[], guard := none },
  { dst := some 177, op := Op.move (Operand.tmp 15), type := 37, pos := "keeps.go:189", after := #[], guard := none },
  { dst := some 178, op := Op.buildSlice 45 2 #[(0, Operand.tmp 176), (1, Operand.tmp 177)], type := 45, pos := "keeps.go:189", after := #[{ on := 1, ground := Ground.data }, { on := 2, ground := Ground.data }], guard := none },
  { dst := some 179, op := Op.call { callee := Callee.value (Operand.func 24), args := #[Operand.tmp 178], argTypes := #[45] }, type := 37, pos := "keeps.go:189", after := #[{ on := 3, ground := Ground.data }], guard := none },
  { dst := some 180, op := Op.move (Operand.tmp 13), type := 37, pos := "keeps.go:189", after := #[], guard := none },
  { dst := some 181, op := Op.call { callee := Callee.builtin Builtin.len, args := #[Operand.tmp 180], argTypes := #[37] }, type := 3, pos := "keeps.go:189", after := #[{ on := 5, ground := Ground.data }], guard := none },
  { dst := some 182, op := Op.convert 3 5 (Operand.tmp 181), type := 5, pos := "keeps.go:189", after := #[{ on := 6, ground := Ground.data }], guard := none },
  { dst := some 183, op := Op.buildSlice 37 2 #[(0, Operand.const (Value.int IntKind.u8 2)), (1, Operand.tmp 182)], type := 37, pos := "keeps.go:189", after := #[{ on := 7, ground := Ground.data }], guard := none },
  { dst := some 184, op := Op.move (Operand.tmp 13), type := 37, pos := "keeps.go:189", after := #[], guard := none },
  { dst := some 185, op := Op.call { callee := Callee.builtin Builtin.len, args := #[Operand.tmp 184], argTypes := #[37] }, type := 3, pos := "keeps.go:189", after := #[{ on := 9, ground := Ground.data }], guard := none },
  { dst := some 186, op := Op.makeSlice 37 (Operand.tmp 185) (Operand.tmp 185), type := 37, pos := "keeps.go:189", after := #[{ on := 10, ground := Ground.data }, { on := 10, ground := Ground.data }], guard := none },
  { dst := some 187, op := Op.buildSlice 45 2 #[(0, Operand.tmp 183), (1, Operand.tmp 186)], type := 45, pos := "keeps.go:189", after := #[{ on := 8, ground := Ground.data }, { on := 11, ground := Ground.data }], guard := none },
  { dst := some 188, op := Op.call { callee := Callee.value (Operand.func 24), args := #[Operand.tmp 187], argTypes := #[45] }, type := 37, pos := "keeps.go:189", after := #[{ on := 12, ground := Ground.data }, { on := 4, ground := Ground.chain }], guard := none },
  { dst := some 189, op := Op.call { callee := Callee.value (Operand.func 23), args := #[Operand.tmp 175, Operand.const (Value.int IntKind.i64 0), Operand.tmp 179, Operand.tmp 188], argTypes := #[28, 3, 37, 37] }, type := 4, pos := "keeps.go:189", after := #[{ on := 0, ground := Ground.data }, { on := 4, ground := Ground.data }, { on := 13, ground := Ground.data }, { on := 13, ground := Ground.chain }], guard := none },
  { dst := some 24, op := Op.assign (Operand.tmp 189), type := 4, pos := "keeps.go:189", after := #[{ on := 14, ground := Ground.data }, { on := 14, ground := Ground.chain }, { on := 0, ground := Ground.phase }, { on := 1, ground := Ground.phase }, { on := 2, ground := Ground.phase }, { on := 3, ground := Ground.phase }, { on := 4, ground := Ground.phase }, { on := 5, ground := Ground.phase }, { on := 6, ground := Ground.phase }, { on := 7, ground := Ground.phase }, { on := 8, ground := Ground.phase }, { on := 9, ground := Ground.phase }, { on := 10, ground := Ground.phase }, { on := 11, ground := Ground.phase }, { on := 12, ground := Ground.phase }, { on := 13, ground := Ground.phase }, { on := 14, ground := Ground.phase }], guard := none }]
def ds24 : List (Option Nat) := [some 175, some 176, some 177, some 178, some 179, some 180, some 181, some 182, some 183, some 184, some 185, some 186, some 187, some 188, some 189, some 24]
/-- What each leaves. -/
def R24 (B rb m : Nat) (hv pv : Value) (hs : List Int) : Nat → Value → World → Prop
  | 0, v, _ => v = .pointer (some ⟨rb, 0, none⟩)
  | 1, v, w => (∃ a n c, v = .slice a n c) ∧ Owns w B v [2]
  | 2, v, _ => v = hv
  | 3, v, w => ∃ J x, v = .slice (some ⟨J, 0, none⟩) 2 2 ∧ w.heap[J]? = some (.cells #[x, hv] 37 (0, 0)) ∧ Owns w B x [2]
  | 4, v, w => (∃ a n c, v = .slice a n c) ∧ Owns w B v (2 :: hs)
  | 5, v, _ => v = pv
  | 6, v, _ => v = .int .i64 ((m + 1 : Nat) : Int)
  | 7, v, _ => v = .int .u8 ((m + 1 : Nat) : Int)
  | 8, v, w => (∃ a n c, v = .slice a n c) ∧ Owns w B v [2, ((m + 1 : Nat) : Int)]
  | 9, v, _ => v = pv
  | 10, v, _ => v = .int .i64 ((m + 1 : Nat) : Int)
  | 11, v, w => (∃ a n c, v = .slice a n c) ∧ Owns w B v (List.replicate (m + 1) 0)
  | 12, v, w => ∃ J x y, v = .slice (some ⟨J, 0, none⟩) 2 2 ∧ w.heap[J]? = some (.cells #[x, y] 37 (0, 0)) ∧ Owns w B x [2, ((m + 1 : Nat) : Int)] ∧ Owns w B y (List.replicate (m + 1) 0)
  | 13, v, w => (∃ a n c, v = .slice a n c) ∧ Owns w B v (2 :: ((m + 1 : Nat) : Int) :: List.replicate (m + 1) 0)
  | 14, v, _ => v = .bool true
  | 15, v, _ => v = .bool true
  | _, _, _ => True
theorem R24.keep {B rb m : Nat} {hv pv : Value} {hs : List Int} : ∀ (i : Nat) (v : Value) (w w' : World), R24 B rb m hv pv hs i v w → LeB w w' → R24 B rb m hv pv hs i v w'
  | 0, _, _, _, h, _ => h
  | 1, _, _, _, h, l => ⟨h.1, h.2.leB l⟩
  | 2, _, _, _, h, _ => h
  | 3, _, _, _, ⟨J, x, e, q, o⟩, l => ⟨J, x, e, l J _ _ _ (.inr rfl) q, o.leB l⟩
  | 4, _, _, _, h, l => ⟨h.1, h.2.leB l⟩
  | 5, _, _, _, h, _ => h
  | 6, _, _, _, h, _ => h
  | 7, _, _, _, h, _ => h
  | 8, _, _, _, h, l => ⟨h.1, h.2.leB l⟩
  | 9, _, _, _, h, _ => h
  | 10, _, _, _, h, _ => h
  | 11, _, _, _, h, l => ⟨h.1, h.2.leB l⟩
  | 12, _, _, _, ⟨J, x, y, e, q, o, o2⟩, l => ⟨J, x, y, e, l J _ _ _ (.inr rfl) q, o.leB l, o2.leB l⟩
  | 13, _, _, _, h, l => ⟨h.1, h.2.leB l⟩
  | 14, _, _, _, h, _ => h
  | 15, _, _, _, h, _ => h
  | _ + 16, _, _, _, _, _ => trivial

set_option maxRecDepth 10000 in
set_option maxHeartbeats 1000000 in
theorem coils_r24 (a : Act) (Q : Exit → Act → World → Prop) (w w0 : World) (id : Nat) (S : World → Prop) (rb m : Nat) (ah ap : Option Addr) (nh ch cp : Nat) (hs : List Int) (hsz : 190 ≤ a.tmps.size) (hm12 : m ≤ 12)
    (h11 : a.eval (.tmp 11) = .pointer (some ⟨rb, 0, none⟩)) (h13 : a.eval (.tmp 13) = .slice ap (m + 1) cp) (h15 : a.eval (.tmp 15) = .slice ah nh ch)
    (hS0 : S w.drew) (hSb : ∀ W W', S W → Below W.heap.size W W' → S W') (hSz : ∀ W, S W → w0.heap.size ≤ W.heap.size) (hSh : ∀ W, S W → Lies W (.slice ah nh ch) hs) (hs0 : hs ≠ []) (hsl : hs.length ≤ 1000)
    (hdone : ∀ W v x Bv, S W → Owns W Bv v (2 :: hs) → Owns W Bv x (2 :: ((m + 1 : Nat) : Int) :: List.replicate (m + 1) 0) → Calls Tryz.prog 23 #[.pointer (some ⟨rb, 0, none⟩), .int .i64 0, v, x] W fun r w' => r = .returned (.bool true) ∧ S w' ∧ LeB W w')
    (hend : ∀ u W, S W → u 24 = .bool true → Q .normal (over a ds24 u) W) : (Code.region id ops24.toArray true).wp Tryz.prog Q a w := by
  have ein : ∀ u k, some k ∈ ds24 → k < 190 → (over a ds24 u).eval (.tmp k) = u k := fun u k h1 h2 => eval_in a ds24 u k h1 (by omega)
  have eout : ∀ u k, some k ∉ ds24 → k < 190 → (over a ds24 u).eval (.tmp k) = a.eval (.tmp k) := fun u k h1 h2 => eval_out a ds24 u k h1 (by omega)
  have ef : ∀ u f, (over a ds24 u).eval (.func f) = .func (.func f) #[] #[] := fun u f => by simp [Act.eval]
  refine wp_region_facts ds24 S LeB (R24 w0.heap.size rb m (.slice ah nh ch) (.slice ap (m + 1) cp) hs) (by kernel_rfl) (by decide) rfl (by decide) R24.keep hS0 ?_ (fun u W hS hR => hend u W hS (hR 15 (by decide)))
  unfold ops24
  refine StepAll.cons rfl rfl (fun u W hS hd => ?_) (StepAll.cons rfl rfl (fun u W hS hd => ?_) (StepAll.cons rfl rfl (fun u W hS hd => ?_) (StepAll.cons rfl rfl (fun u W hS hd => ?_) (StepAll.cons rfl rfl (fun u W hS hd => ?_) (StepAll.cons rfl rfl (fun u W hS hd => ?_) (StepAll.cons rfl rfl (fun u W hS hd => ?_) (StepAll.cons rfl rfl (fun u W hS hd => ?_) (StepAll.cons rfl rfl (fun u W hS hd => ?_) (StepAll.cons rfl rfl (fun u W hS hd => ?_) (StepAll.cons rfl rfl (fun u W hS hd => ?_) (StepAll.cons rfl rfl (fun u W hS hd => ?_) (StepAll.cons rfl rfl (fun u W hS hd => ?_) (StepAll.cons rfl rfl (fun u W hS hd => ?_) (StepAll.cons rfl rfl (fun u W hS hd => ?_) (StepAll.cons rfl rfl (fun u W hS hd => ?_) (trivial))))))))))))))))
  · exact step_value (R := R24 w0.heap.size rb m (.slice ah nh ch) (.slice ap (m + 1) cp) hs _) _ rfl (run_move _) ((eout u 11 (by decide) (by omega)).trans h11) (LeB.refl _) hS
  · exact step_value (R := R24 w0.heap.size rb m (.slice ah nh ch) (.slice ap (m + 1) cp) hs _) _ rfl (run_bytes1 _ 2 rfl) ⟨⟨_, _, _, rfl⟩, owns_fresh W [2] _ (hSz W hS) (by simp)⟩ (LeB.new _ _) (hSb _ _ hS (rule_new _ _))
  · exact step_value (R := R24 w0.heap.size rb m (.slice ah nh ch) (.slice ap (m + 1) cp) hs _) _ rfl (run_move _) ((eout u 15 (by decide) (by omega)).trans h15) (LeB.refl _) hS
  · obtain ⟨⟨⟨a1, n1, c1, e1⟩, o1⟩, e2, _⟩ := hd
    have e1' : u 176 = .slice a1 n1 c1 := e1
    have e2' : u 177 = .slice ah nh ch := e2
    have o1' : Owns W w0.heap.size (u 176) [2] := o1
    rw [e1'] at o1'
    exact step_value (R := R24 w0.heap.size rb m (.slice ah nh ch) (.slice ap (m + 1) cp) hs _) _ rfl (run_row2 _ _ a1 ah n1 c1 nh ch ((ein u 176 (by decide) (by omega)).trans e1') ((ein u 177 (by decide) (by omega)).trans e2')) ⟨_, _, rfl, heap_alloc_new W _, o1'.leB (LeB.new _ _)⟩ (LeB.new _ _) (hSb _ _ hS (rule_new _ _))
  · obtain ⟨⟨J, x, e1, q, o⟩, _⟩ := hd
    have e1' : u 178 = .slice (some ⟨J, 0, none⟩) 2 2 := e1
    have hj := join_two W J w0.heap.size x (.slice ah nh ch) [2] hs (hSz W hS) q o.lies (hSh W hS) (by simp) hs0 (by simp; omega)
    rw [← e1', ← ein u 178 (by decide) (by omega)] at hj
    refine step_enter (R := R24 w0.heap.size rb m (.slice ah nh ch) (.slice ap (m + 1) cp) hs _) _ rfl (run_call1 _ _ _ (ef u _) callf_join) _ hj ?_
    rintro e w' ⟨a', m', c', rfl, ho, hb⟩
    exact ⟨_, rfl, ⟨⟨_, _, _, rfl⟩, ho⟩, LeB.of_below hb, hSb _ _ hS hb⟩
  · exact step_value (R := R24 w0.heap.size rb m (.slice ah nh ch) (.slice ap (m + 1) cp) hs _) _ rfl (run_move _) ((eout u 13 (by decide) (by omega)).trans h13) (LeB.refl _) hS
  · obtain ⟨e1, _⟩ := hd
    have e1' : u 180 = .slice ap (m + 1) cp := e1
    exact step_value (R := R24 w0.heap.size rb m (.slice ah nh ch) (.slice ap (m + 1) cp) hs _) _ rfl (run_len _ ap (m + 1) cp ((ein u 180 (by decide) (by omega)).trans e1')) rfl (LeB.refl _) hS
  · obtain ⟨e1, _⟩ := hd
    have e1' : u 181 = .int .i64 ((m + 1 : Nat) : Int) := e1
    exact step_value (R := R24 w0.heap.size rb m (.slice ah nh ch) (.slice ap (m + 1) cp) hs _) _ rfl (run_byte _ _ ((ein u 181 (by decide) (by omega)).trans e1') (by omega) (by omega)) rfl (LeB.refl _) hS
  · obtain ⟨e1, _⟩ := hd
    have e1' : u 182 = .int .u8 ((m + 1 : Nat) : Int) := e1
    exact step_value (R := R24 w0.heap.size rb m (.slice ah nh ch) (.slice ap (m + 1) cp) hs _) _ rfl (run_bytes2 _ _ 2 _ rfl ((ein u 182 (by decide) (by omega)).trans e1')) ⟨⟨_, _, _, rfl⟩, owns_fresh W [2, ((m + 1 : Nat) : Int)] _ (hSz W hS) (by simp)⟩ (LeB.new _ _) (hSb _ _ hS (rule_new _ _))
  · exact step_value (R := R24 w0.heap.size rb m (.slice ah nh ch) (.slice ap (m + 1) cp) hs _) _ rfl (run_move _) ((eout u 13 (by decide) (by omega)).trans h13) (LeB.refl _) hS
  · obtain ⟨e1, _⟩ := hd
    have e1' : u 184 = .slice ap (m + 1) cp := e1
    exact step_value (R := R24 w0.heap.size rb m (.slice ah nh ch) (.slice ap (m + 1) cp) hs _) _ rfl (run_len _ ap (m + 1) cp ((ein u 184 (by decide) (by omega)).trans e1')) rfl (LeB.refl _) hS
  · obtain ⟨e1, _⟩ := hd
    have e1' : u 185 = .int .i64 ((m + 1 : Nat) : Int) := e1
    have ho := owns_fresh W (List.replicate (m + 1) 0) _ (hSz W hS) (by simp; omega)
    rw [List.length_replicate] at ho
    exact step_value (R := R24 w0.heap.size rb m (.slice ah nh ch) (.slice ap (m + 1) cp) hs _) _ rfl (run_make _ (m + 1) ((ein u 185 (by decide) (by omega)).trans e1') (by omega)) ⟨⟨_, _, _, rfl⟩, ho⟩ (LeB.new _ _) (hSb _ _ hS (rule_new _ _))
  · obtain ⟨⟨⟨a1, n1, c1, e1⟩, o1⟩, ⟨⟨a2, n2, c2, e2⟩, o2⟩, _⟩ := hd
    have e1' : u 183 = .slice a1 n1 c1 := e1
    have e2' : u 186 = .slice a2 n2 c2 := e2
    have o1' : Owns W w0.heap.size (u 183) _ := o1
    have o2' : Owns W w0.heap.size (u 186) _ := o2
    rw [e1'] at o1'
    rw [e2'] at o2'
    exact step_value (R := R24 w0.heap.size rb m (.slice ah nh ch) (.slice ap (m + 1) cp) hs _) _ rfl (run_row2 _ _ a1 a2 n1 c1 n2 c2 ((ein u 183 (by decide) (by omega)).trans e1') ((ein u 186 (by decide) (by omega)).trans e2')) ⟨_, _, _, rfl, heap_alloc_new W _, o1'.leB (LeB.new _ _), o2'.leB (LeB.new _ _)⟩ (LeB.new _ _) (hSb _ _ hS (rule_new _ _))
  · obtain ⟨⟨J, x, y, e1, q, o, o2⟩, _⟩ := hd
    have e1' : u 187 = .slice (some ⟨J, 0, none⟩) 2 2 := e1
    have hj := join_two W J w0.heap.size x y [2, ((m + 1 : Nat) : Int)] (List.replicate (m + 1) 0) (hSz W hS) q o.lies o2.lies (by simp) (by simp) (by simp; omega)
    rw [← e1', ← ein u 187 (by decide) (by omega)] at hj
    refine step_enter (R := R24 w0.heap.size rb m (.slice ah nh ch) (.slice ap (m + 1) cp) hs _) _ rfl (run_call1 _ _ _ (ef u _) callf_join) _ hj ?_
    rintro e w' ⟨a', m', c', rfl, ho, hb⟩
    exact ⟨_, rfl, ⟨⟨_, _, _, rfl⟩, ho⟩, LeB.of_below hb, hSb _ _ hS hb⟩
  · obtain ⟨e0, ⟨_, o1⟩, ⟨_, o2⟩, _⟩ := hd
    have e0' : u 175 = .pointer (some ⟨rb, 0, none⟩) := e0
    have hj := hdone W (u 179) (u 188) w0.heap.size hS o1 o2
    rw [← e0', ← ein u 175 (by decide) (by omega), ← ein u 179 (by decide) (by omega), ← ein u 188 (by decide) (by omega)] at hj
    refine step_enter (R := R24 w0.heap.size rb m (.slice ah nh ch) (.slice ap (m + 1) cp) hs _) _ rfl (run_call4 _ _ _ _ _ _ (ef u _) callf_done) _ hj ?_
    rintro e w' ⟨rfl, hS', hL⟩
    exact ⟨_, rfl, rfl, hL, hS'⟩
  · obtain ⟨e1, _⟩ := hd
    exact step_value (R := R24 w0.heap.size rb m (.slice ah nh ch) (.slice ap (m + 1) cp) hs _) _ rfl (run_assign _) ((ein u 189 (by decide) (by omega)).trans e1) (LeB.refl _) hS
end Go.Proofs.YtfekelmldebplaaGreatDoor
