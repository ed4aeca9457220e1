import Derived.Test.YtfekelmldebplaaGreatDoorKa
import Derived.Test.YtfekelmldebplaaGreatDoorTa
namespace Go.Proofs.YtfekelmldebplaaGreatDoor
open Go.RowKit

theorem OwnsI.lies {w : World} {B : Nat} {v : Value} {xs : List Int} (h : OwnsI w B v xs) : LiesI w v xs := by
  obtain ⟨a, c, rfl, h1, h2⟩ := ownsRow_opt h
  refine ⟨a, c, rfl, ?_⟩
  cases a with
  | none => exact .inl (List.eq_nil_of_length_eq_zero (h1 rfl))
  | some y =>
    obtain ⟨g, rfl, _⟩ := h2 y rfl
    exact .inr ⟨g, 0, rfl, (World.ownsRow.lt h g rfl).2, fun i hi => by rw [Nat.zero_add]; exact h.cells i hi⟩
theorem LiesI.below {w w' : World} {v : Value} {xs : List Int} (h : LiesI w v xs) (hb : Below w.heap.size w w') : LiesI w' v xs := by
  obtain ⟨a, c, rfl, h⟩ := h
  refine ⟨a, c, rfl, h.imp id fun ⟨b, o, e, hl, hc⟩ => ⟨b, o, e, Nat.lt_of_lt_of_le hl hb.size, fun i hi => (hb.cell (by exact hl)).trans (hc i hi)⟩⟩

theorem take_eq_next (xs ys : List Int) (t : Nat) (h1 : t < xs.length) (h2 : t < ys.length) (e : xs.take t = ys.take t) : xs.getD t 0 = ys.getD t 0 ↔ xs.take (t + 1) = ys.take (t + 1) := by
  have g1 : xs.getD t 0 = xs[t] := by simp [List.getD, List.getElem?_eq_getElem h1]
  have g2 : ys.getD t 0 = ys[t] := by simp [List.getD, List.getElem?_eq_getElem h2]
  have e1 : xs.take (t + 1) = xs.take t ++ [xs[t]] := by rw [List.take_add_one, List.getElem?_eq_getElem h1, Option.toList_some]
  have e2 : ys.take (t + 1) = ys.take t ++ [ys[t]] := by rw [List.take_add_one, List.getElem?_eq_getElem h2, Option.toList_some]
  rw [g1, g2, e1, e2, e]
  constructor
  · intro h; rw [h]
  · intro h
    have := List.append_cancel_left h
    simpa using this

set_option maxRecDepth 10000 in
set_option maxHeartbeats 1000000 in
theorem sameInts_any (v u : Value) (xs ys : List Int) (w : World) (h : LiesI w v xs) (k : LiesI w u ys) (hn : xs.length ≤ 1000000000) :
    Calls Tryz.prog 20 #[v, u] w fun e w' => e = .returned (.bool (decide (xs = ys))) ∧ Below w.heap.size w w' := by
  obtain ⟨a, c, rfl, h⟩ := h
  obtain ⟨b, d, rfl, k⟩ := k
  have H := hide h
  have K := hide k
  clear h k
  by_cases hl : xs.length = ys.length
  · have HL := hide hl
    clear hl
    have hle : ((xs.length : Int) != (ys.length : Int)) = false := by simp [unhide HL]
    go_enter Tryz.func20, Tryz.ntmps20
    go_wp2
    go_loopw [5] (fun i wr => ∃ t : Nat, t ≤ xs.length ∧ i = .int .i64 t ∧ Hid (xs.take t = ys.take t) ∧ Below w.heap.size w wr) (fun i _ => xs.length - (intOf i).toNat)
    case atStart => exact ⟨0, by omega, rfl, rfl, Below.refl _ _⟩
    case round =>
      obtain ⟨t, ht, rfl, HT, hb⟩ := hrel
      by_cases hlt : t < xs.length
      · obtain ⟨ba, oa, rfl, hla, hca⟩ := (unhide H).resolve_left (fun e => by rw [e] at hlt; simp at hlt)
        have hlt2 : t < ys.length := by have := unhide HL; omega
        obtain ⟨bb, ob, rfl, hlb, hcb⟩ := (unhide K).resolve_left (fun e => by rw [e] at hlt2; simp at hlt2)
        have c1 := (hb.cell (by exact hla)).trans (hca t hlt)
        have c2 := (hb.cell (by exact hlb)).trans (hcb t hlt2)
        have HN : Hid (xs.getD t 0 = ys.getD t 0 ↔ xs.take (t + 1) = ys.take (t + 1)) := take_eq_next xs ys t hlt hlt2 (unhide HT)
        have HG : Hid (xs.getD t 0 ≠ ys.getD t 0 → xs ≠ ys) := fun h e => h (by rw [e])
        have hlt2' : (t : Int) < (ys.length : Int) := by omega
        clear hca hcb
        generalize xs.getD t 0 = p at c1 HN HG
        generalize ys.getD t 0 = q at c2 HN HG
        by_cases hpq : p = q
        · have HE := hide ((unhide HN).1 hpq)
          subst hpq
          go_wp2
          go_region
          go_wp2
          go_roundw
          case rel => exact ⟨t + 1, by omega, by go_num, HE, by first | exact hb | exact hb.drew⟩
          case measure => simp [intOf]; omega
        · have HE := hide (unhide HG hpq)
          have hpq' : (p != q) = true := by simpa using hpq
          go_wp2
          go_region
          go_wp2
          go_ret
          exact ⟨ret_bool (by simp [unhide HE]), by first | exact hb | exact hb.drew⟩
      · obtain rfl : t = xs.length := by omega
        have HE : Hid (xs = ys) := by
          have := unhide HT
          rw [List.take_length, unhide HL, List.take_length] at this
          exact this
        go_wp2
        go_ret
        exact ⟨ret_bool (by simp [unhide HE]), by first | exact hb | exact hb.drew⟩
  · have hl' : ((xs.length : Int) != (ys.length : Int)) = true := by simp; omega
    have hne : Hid (xs ≠ ys) := fun e => hl (by rw [e])
    go_enter Tryz.func20, Tryz.ntmps20
    go_wp2
    go_ret
    exact ⟨ret_bool (by simp [unhide hne]), Below.refl _ _⟩

theorem makesB (n : Nat) (hn : n ≤ 1000000) (u : World) : (Instr.makeSlice 37 (.int .i64 (n : Int)) (.int .i64 (n : Int))).run Tryz.prog u = .ok (.slice (some ⟨u.heap.size, 0, none⟩) n n) (u.alloc (.cells ((List.replicate n (0 : Int)).map (Value.int .u8)).toArray 5)) := by
  obtain ⟨i0, hi, hz0, hz1, hz2⟩ := info_parts info5
  have h := run_make (P := Tryz.prog) (w := u) 37 5 i0 (.int .u8 0) Tryz.underlying37 hi hz0 .i64 .i64 (n : Int) (n : Int) (by omega) (by omega) (by rw [hz2]; omega) (by omega)
  have e : madeCells #[.int .u8 0] n = ((List.replicate n (0 : Int)).map (Value.int .u8)).toArray := by
    apply Array.ext
    · simp [madeCells]
    · intro i h1 h2
      simp [madeCells, Nat.mod_one]
  rw [← e]
  simpa [hz1, Value.cells] using h

/-- A byte with one bit more. -/
def orB (b : Int) (r : Nat) : Int := bits BinOp.or IntKind.u8 b (2 ^ r % 256)
/-- Bytes, behind so many of the bits. -/
def packN (xs : List Int) (N : Nat) : Nat → List Int
  | 0 => List.replicate N 0
  | k + 1 => if xs.getD k 0 = 1 then (packN xs N k).set (k / 8) (orB ((packN xs N k).getD (k / 8) 0) (k % 8)) else packN xs N k
def packL (xs : List Int) : List Int := packN xs ((xs.length + 7) / 8) xs.length
theorem packN_len (xs : List Int) (N k : Nat) : (packN xs N k).length = N := by
  induction k with
  | zero => simp [packN]
  | succ k ih =>
    unfold packN
    split
    · simp [ih]
    · exact ih
theorem row_set {w : World} {g q : Nat} {bs : List Int} {x : Int} (h : w.heap[g]? = some (.cells (bs.map (Value.int .u8)).toArray 5 (0, 0))) : (w.setCell ⟨g, q, none⟩ (.int .u8 x)).heap[g]? = some (.cells ((bs.set q x).map (Value.int .u8)).toArray 5 (0, 0)) := by
  rw [heap_setCell_same w g q _ 5 _ h, List.map_set]
  simp
theorem below_set {w0 w : World} {g q : Nat} {v : Value} (h : Below w0.heap.size w0 w) (hg : w0.heap.size ≤ g) : Below w0.heap.size w0 (w.setCell ⟨g, q, none⟩ v) :=
  ⟨h.os, h.tape, h.output, by have := h.size; simpa [World.setCell] using this, fun k p => (heap_setCell_other _ _ _ _ (fun e => by have : k = g := e; omega)).trans (h.block k p)⟩

set_option maxRecDepth 10000 in
set_option maxHeartbeats 1000000 in
theorem packed_any (v : Value) (xs : List Int) (w : World) (h : LiesI w v xs) (hn : xs.length ≤ 2000) :
    Calls Tryz.prog 21 #[v] w fun e w' => ∃ v', e = .returned v' ∧ Owns w' w.heap.size v' (packL xs) ∧ Below w.heap.size w w' := by
  obtain ⟨a, c, rfl, h⟩ := h
  have H := hide h
  clear h
  obtain ⟨N, hN⟩ : ∃ N : Nat, (xs.length + 7) / 8 = N := ⟨_, rfl⟩
  have hN' : ((xs.length : Int) + 7) / 8 = (N : Int) := by omega
  have HN := hide hN
  have hm := makesB N (by omega)
  have HZ : Hid ((w.alloc (.cells ((List.replicate N (0 : Int)).map (Value.int .u8)).toArray 5)).heap[w.heap.size]? = some (.cells ((packN xs N 0).map (Value.int .u8)).toArray 5 (0, 0))) := heap_alloc_new w _
  have HB0 : Hid (Below w.heap.size w (w.alloc (.cells ((List.replicate N (0 : Int)).map (Value.int .u8)).toArray 5))) := (Below.refl _ _).alloc (Nat.le_refl _) _
  generalize ((List.replicate N (0 : Int)).map (Value.int .u8)) = Z at hm HZ HB0
  go_enter Tryz.func21, Tryz.ntmps21
  go_wp2
  go_loopw [4] (fun i wr => ∃ t : Nat, t ≤ xs.length ∧ i = .int .i64 t ∧ Hid (wr.heap[w.heap.size]? = some (.cells ((packN xs N t).map (Value.int .u8)).toArray 5 (0, 0))) ∧ Hid (Below w.heap.size w wr)) (fun i _ => xs.length - (intOf i).toNat)
  case atStart => exact ⟨0, by omega, rfl, HZ, HB0⟩
  case round =>
    obtain ⟨t, ht, rfl, HR, HB⟩ := hrel
    by_cases hlt : t < xs.length
    · obtain ⟨ba, oa, rfl, hla, hca⟩ := (unhide H).resolve_left (fun e => by rw [e] at hlt; simp at hlt)
      have c1 := ((unhide HB).cell (by exact hla)).trans (hca t hlt)
      obtain ⟨q, hq⟩ : ∃ q : Nat, t / 8 = q := ⟨_, rfl⟩
      obtain ⟨r, hr8⟩ : ∃ r : Nat, t % 8 = r := ⟨_, rfl⟩
      have hd : (t : Int) / 8 = (q : Int) := by omega
      have hm8 : (t : Int) % 8 = (r : Int) := by omega
      have hqN : (q : Int) < (N : Int) := by omega
      have hr7 : (r : Int) ≤ 8 := by omega
      have c2 : wr.cell? ⟨w.heap.size, q, none⟩ = some (.int .u8 ((packN xs N t).getD q 0)) := by
        rw [cell_of_row _ _ _ _ _ _ (unhide HR)]
        have : q < (packN xs N t).length := by rw [packN_len]; omega
        simp [List.getD, List.getElem?_eq_getElem this]
      have f2 : wr.frozen? ⟨w.heap.size, q, none⟩ = false := frozen_of_row _ _ _ _ _ (unhide HR)
      have HP1 : Hid (xs.getD t 0 = 1 → packN xs N (t + 1) = (packN xs N t).set q (bits BinOp.or IntKind.u8 ((packN xs N t).getD q 0) (2 ^ r % 256))) := fun e => by
        show packN xs N (t + 1) = _
        rw [packN, if_pos e, hq, hr8]
        rfl
      have HP2 : Hid (xs.getD t 0 ≠ 1 → packN xs N (t + 1) = packN xs N t) := fun e => by
        show packN xs N (t + 1) = _
        rw [packN, if_neg e]
      clear hca hN hN' hq hr8
      generalize hx : xs.getD t 0 = x at c1 HP1 HP2
      clear hx
      generalize hbb : (packN xs N t).getD q 0 = bb at c2 HP1
      clear hbb
      by_cases h1 : x = 1
      · subst h1
        have HS := hide (row_set (q := q) (x := bits BinOp.or IntKind.u8 bb (2 ^ r % 256)) (unhide HR))
        rw [← unhide HP1 rfl] at HS
        have HS2 := hide (below_set (q := q) (v := .int .u8 (bits BinOp.or IntKind.u8 bb (2 ^ r % 256))) (unhide HB) (Nat.le_refl _))
        clear HP1 HP2
        go_wp2
        go_region
        go_wp2
        go_roundw
        case rel => exact ⟨t + 1, by omega, by go_num, unhide HS, (unhide HS2).drew⟩
        case measure => simp [intOf]; omega
      · have h1' : (x == 1) = false := by simpa using h1
        have HE := hide (unhide HP2 h1)
        clear HP1 HP2
        go_wp2
        go_roundw
        case rel => exact ⟨t + 1, by omega, by go_num, by show _ = _; rw [unhide HE]; exact unhide HR, unhide HB⟩
        case measure => simp [intOf]; omega
    · obtain rfl : t = xs.length := by omega
      go_wp2
      go_ret
      refine ⟨_, rfl, ?_, unhide HB⟩
      unfold packL Owns
      rw [unhide HN, packN_len]
      exact ⟨by simp [packN_len], .inr ⟨w.heap.size, N, _, rfl, Nat.le_refl _, unhide HR, Nat.le_refl _, by have := unhide HN; unfold maxLen; omega, by simp [packN_len], by rw [Nat.mul_one]; exact List.take_of_length_le (by simp [packN_len])⟩⟩
end Go.Proofs.YtfekelmldebplaaGreatDoor
