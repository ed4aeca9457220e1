import Derived.Test.YtfekelmldebplaaGreatDoorProg
import Derived.WalkKit
import Derived.WalkSpells
import Derived.WalkLawsBesides
import Derived.Deep.DeepAppendRoom
import Derived.Deep.AppendLies
namespace Go.Proofs.YtfekelmldebplaaGreatDoor
open Go.RowKit

theorem ret_int {k : IntKind} {a b : Int} (h : a = b) : Ending.returned (.int k a) = .returned (.int k b) := by rw [h]
theorem ret_bool {a b : Bool} (h : a = b) : Ending.returned (.bool a) = .returned (.bool b) := by rw [h]

/-- 'within', as a plain function. -/
def inB (lo n hi : Int) : Bool := decide (lo ≤ n) && decide (n ≤ hi)
theorem inB_true {lo n hi : Int} (h1 : lo ≤ n) (h2 : n ≤ hi) : inB lo n hi = true := by simp [inB, h1, h2]
theorem inB_iff {lo n hi : Int} : inB lo n hi = true ↔ lo ≤ n ∧ n ≤ hi := by simp [inB]

set_option maxHeartbeats 400000 in
theorem within_any (n lo hi : Int) (w : World) :
    Calls Tryz.prog 137 #[.int .i64 n, .int .i64 lo, .int .i64 hi] w fun e w' => e = .returned (.bool (inB lo n hi)) ∧ w' = w := by
  by_cases h1 : lo ≤ n
  · by_cases h2 : n ≤ hi
    · go_enter Tryz.func137, Tryz.ntmps137
      go_wp2
      go_ret
      exact ⟨ret_bool (by simp [inB, h1, h2]), rfl⟩
    · have h2' : decide (n ≤ hi) = false := by simpa using h2
      go_enter Tryz.func137, Tryz.ntmps137
      go_wp2
      go_ret
      exact ⟨ret_bool (by simp [inB]; omega), rfl⟩
  · have h1' : decide (lo ≤ n) = false := by simpa using h1
    go_enter Tryz.func137, Tryz.ntmps137
    go_wp2
    go_ret
    exact ⟨ret_bool (by simp [inB]; omega), rfl⟩

theorem or_bytes (h l : Int) (h0 : 0 ≤ h) (h1 : h < 256) (l0 : 0 ≤ l) (l1 : l < 256) : bits BinOp.or IntKind.i64 (h * 256) l = 256 * h + l := by
  obtain ⟨h, rfl⟩ := Int.eq_ofNat_of_zero_le h0
  obtain ⟨l, rfl⟩ := Int.eq_ofNat_of_zero_le l0
  have e : (h * 256) ||| l = 256 * h + l := by
    have := Nat.two_pow_add_eq_or_of_lt (i := 8) (b := l) (by omega) h
    rw [Nat.mul_comm h 256]
    exact this.symm
  show IntKind.i64.wrap ((BitVec.ofInt 64 ((h : Int) * 256) ||| BitVec.ofInt 64 (l : Int)).toNat : Int) = _
  rw [show ((h : Int) * 256) = ((h * 256 : Nat) : Int) by omega, BitVec.toNat_or, ofInt_u64 (h * 256) (by omega), ofInt_u64 l (by omega), e]
  simp [IntKind.wrap, IntKind.bits, IntKind.signed]
  omega

set_option maxHeartbeats 400000 in
theorem fword_any (h l : Int) (w : World) (h0 : 0 ≤ h) (h1 : h < 256) (l0 : 0 ≤ l) (l1 : l < 256) :
    Calls Tryz.prog 199 #[.int .u8 h, .int .u8 l] w fun e w' => e = .returned (.int .i64 (256 * h + l)) ∧ w' = w := by
  go_enter Tryz.func199, Tryz.ntmps199
  go_wp2
  go_ret
  exact ⟨ret_int (or_bytes h l h0 h1 l0 l1), rfl⟩

/-- 'pick', as a plain function. -/
def pickI (c n : Int) : Int := (if c < 0 then -(c + 1) else c) % n
theorem pickI_bd (c n : Int) (h : 0 < n) : 0 ≤ pickI c n ∧ pickI c n < n := by
  unfold pickI
  exact ⟨Int.emod_nonneg _ (by omega), Int.emod_lt_of_pos _ h⟩

set_option maxHeartbeats 400000 in
theorem pick_any (c n : Int) (w : World) (h0 : 0 < n) (hn : n ≤ 65536) (c0 : -9223372036854775808 ≤ c) (c1 : c ≤ 9223372036854775807) :
    Calls Tryz.prog 15 #[.int .i64 c, .int .i64 n] w fun e w' => e = .returned (.int .i64 (pickI c n)) ∧ w' = w := by
  by_cases h1 : c < 0
  · go_enter Tryz.func15, Tryz.ntmps15
    go_wp2
    go_ret
    exact ⟨ret_int (by unfold pickI; rw [if_pos h1]; rw [← Int.neg_tmod]; exact Int.tmod_eq_emod_of_nonneg (a := -(c + 1)) (by omega)), rfl⟩
  · go_enter Tryz.func15, Tryz.ntmps15
    go_wp2
    go_ret
    exact ⟨ret_int (by unfold pickI; rw [if_neg (by omega)]), rfl⟩

/-! ### Bytes under a slice -/
/-- The bytes 'xs' lie under the slice 'v'. -/
def Lies (w : World) (v : Value) (xs : List Int) : Prop :=
  (∃ a c, v = .slice a 0 c ∧ xs = []) ∨ ∃ b o c, v = .slice (some ⟨b, o, none⟩) xs.length c ∧ xs.length ≤ c ∧ (xs = [] ∨ b < w.heap.size) ∧ ∀ i, i < xs.length → w.cell? ⟨b, o + i, none⟩ = some (.int .u8 (xs.getD i 0))
/-- Each is a byte. -/
def Bys (xs : List Int) : Prop := ∀ x ∈ xs, 0 ≤ x ∧ x < 256

theorem Bys.append {xs ys : List Int} (h : Bys xs) (k : Bys ys) : Bys (xs ++ ys) := fun x hx => by
  rcases List.mem_append.1 hx with hx | hx
  · exact h x hx
  · exact k x hx
theorem Bys.take {xs : List Int} (h : Bys xs) (n : Nat) : Bys (xs.take n) := fun x hx => h x (List.mem_of_mem_take hx)
theorem Bys.drop {xs : List Int} (h : Bys xs) (n : Nat) : Bys (xs.drop n) := fun x hx => h x (List.mem_of_mem_drop hx)
theorem Bys.at {xs : List Int} (h : Bys xs) (i : Nat) : 0 ≤ xs.getD i 0 ∧ xs.getD i 0 < 256 := by
  by_cases hi : i < xs.length
  · have := h xs[i] (List.getElem_mem hi)
    simpa [List.getD, List.getElem?_eq_getElem hi] using this
  · simp [List.getD, List.getElem?_eq_none (Nat.le_of_not_lt hi)]

/-- What was lies there still where the old blocks are as they were. -/
theorem Lies.kept {w w' : World} {v : Value} {xs : List Int} (h : Lies w v xs) (hs : w.heap.size ≤ w'.heap.size) (hk : ∀ k, k < w.heap.size → v.ownBlock = some k → w'.heap[k]? = w.heap[k]?) : Lies w' v xs := by
  rcases h with h | ⟨b, o, c, hv, hl, hb, hc⟩
  · exact .inl h
  · refine .inr ⟨b, o, c, hv, hl, hb.imp id (by omega), fun i hi => ?_⟩
    have hb' : b < w.heap.size := by
      rcases hb with rfl | hb
      · simp at hi
      · exact hb
    rw [← hc i hi]
    exact World.cell?_of_block (hk b hb' (by rw [hv]; rfl))
theorem Lies.below {w w' : World} {v : Value} {xs : List Int} (h : Lies w v xs) (hb : Below w.heap.size w w') : Lies w' v xs := h.kept hb.size fun k hk _ => hb.block k hk

theorem strOfNums_inj {xs ys : List Int} (hx : Bys xs) (hy : Bys ys) : strOfNums xs = strOfNums ys ↔ xs = ys := by
  refine ⟨fun h => ?_, fun h => by rw [h]⟩
  have e : (strOfNums xs).data.toList = (strOfNums ys).data.toList := by rw [h]
  rw [strOfNums_data, strOfNums_data] at e
  have inj : ∀ (p q : List Int), Bys p → Bys q → (p.map fun n => UInt8.ofNat n.toNat) = (q.map fun n => UInt8.ofNat n.toNat) → p = q := by
    intro p
    induction p with
    | nil => intro q _ _ h; cases q with
      | nil => rfl
      | cons b q => simp at h
    | cons a p ih => intro q ha hb h; cases q with
      | nil => simp at h
      | cons b q =>
        simp only [List.map_cons, List.cons.injEq] at h
        have h1 := ha a (by simp)
        have h2 := hb b (by simp)
        have e1 := congrArg UInt8.toNat h.1
        simp only [UInt8.toNat_ofNat'] at e1
        have : a = b := by omega
        rw [this, ih q (fun x hx => ha x (by simp [hx])) (fun x hx => hb x (by simp [hx])) h.2]
  exact inj xs ys hx hy e

theorem conv_lies {w : World} {v : Value} {xs : List Int} (h : Lies w v xs) : (convert 37 9 v).run Tryz.prog w = .ok (.string (strOfNums xs)) w := by
  rcases h with ⟨a, c, rfl, rfl⟩ | ⟨b, o, c, rfl, _, _, hc⟩
  · cases a with
    | none => exact run_convert_bytes_nil (P := Tryz.prog) w 37 5 Tryz.underlying37 Tryz.underlying5 0 c 9 Tryz.underlying9
    | some a =>
      rw [run_convert_bytes_string w 37 9 5 _ 0 c Tryz.underlying37 Tryz.underlying5 Tryz.underlying9, run_bytesToString w a 0 c [] (by simp [loadCells, loadCellsFrom])]
      rfl
  · exact run_convert_bytes_arg (P := Tryz.prog) w 37 5 Tryz.underlying37 Tryz.underlying5 b o _ c xs rfl hc 9 Tryz.underlying9

set_option maxHeartbeats 400000 in
theorem same_any (va vb : Value) (xs ys : List Int) (w : World) (ha : Lies w va xs) (hb : Lies w vb ys) (bx : Bys xs) (by_ : Bys ys) :
    Calls Tryz.prog 38 #[va, vb] w fun e w' => e = .returned (.bool (decide (xs = ys))) ∧ w' = w := by
  have h1 := conv_lies ha
  have h2 := conv_lies hb
  have HI : Hid (strOfNums xs = strOfNums ys ↔ xs = ys) := strOfNums_inj bx by_
  clear ha hb bx by_
  go_enter Tryz.func38, Tryz.ntmps38
  go_wp2
  go_ret
  exact ⟨ret_bool (by
    have k := HI.out
    rw [ByteArray.toList_eq, ByteArray.toList_eq]
    by_cases e : xs = ys
    · subst e; simp
    · have ne : strOfNums xs ≠ strOfNums ys := fun h => e (k.1 h)
      simp only [e, decide_false, beq_eq_false_iff_ne, ne_eq]
      exact fun h => ne (by
        have : (strOfNums xs).data = (strOfNums ys).data := Array.ext' h
        cases hx : strOfNums xs
        cases hy : strOfNums ys
        rw [hx, hy] at this
        simpa using this)), rfl⟩

end Go.Proofs.YtfekelmldebplaaGreatDoor

namespace Go.Proofs.YtfekelmldebplaaGreatDoor
open Go.RowKit

theorem info5 : (Tryz.prog.info? 5).map (fun i => (i.zero, i.size, i.bytes)) = some (some (.int .u8 0), 1, 1) := by kernel_rfl
theorem ret_slice {a : Option Addr} {m n c : Nat} (h : m = n) : Ending.returned (.slice a m c) = .returned (.slice a n c) := by rw [h]

/-- The two bytes of a word. -/
def wd (n : Int) : List Int := [n / 256, n % 256]
theorem wd_len (n : Int) : (wd n).length = 2 := rfl
theorem Bys.wd {n : Int} (h0 : 0 ≤ n) (h1 : n ≤ 65535) : Bys (wd n) := fun x hx => by
  simp only [YtfekelmldebplaaGreatDoor.wd, List.mem_cons, List.not_mem_nil, or_false] at hx
  omega
theorem Bys.one {n : Int} (h0 : 0 ≤ n) (h1 : n < 256) : Bys [n] := fun x hx => by
  simp only [List.mem_cons, List.not_mem_nil, or_false] at hx
  omega
theorem Bys.nil : Bys [] := fun x hx => by cases hx

/-- A new block of bytes, under a slice. -/
theorem lies_new (w : World) (cs : Array Value) (xs : List Int) (h : cs.toList = xs.map (Value.int .u8)) : Lies (w.alloc (.cells cs 5)) (.slice (some ⟨w.heap.size, 0, none⟩) xs.length xs.length) xs := by
  refine .inr ⟨w.heap.size, 0, xs.length, rfl, Nat.le_refl _, .inr (by simp), fun i hi => ?_⟩
  rw [cell_of_row _ _ _ _ _ _ (heap_alloc_new w _), ← Array.getElem?_toList, h]
  simp [List.getD, List.getElem?_eq_getElem hi]

set_option maxHeartbeats 400000 in
theorem word_any (n : Int) (w : World) (h0 : 0 ≤ n) (h1 : n ≤ 65535) :
    Calls Tryz.prog 25 #[.int .i64 n] w fun e w' => e = .returned (.slice (some ⟨w.heap.size, 0, none⟩) 2 2) ∧ w' = w.alloc (.cells #[.int .u8 (n / 256), .int .u8 (n % 256)] 5) := by
  go_enter Tryz.func25, Tryz.ntmps25
  go_wp2
  go_ret
  exact ⟨rfl, rfl⟩

/-- What 'data' gives. -/
def sdata (m : Int) (xs : List Int) : List Int := if xs = [] then [m % 256] else xs.take 253
theorem sdata_len (m : Int) (xs : List Int) : 1 ≤ (sdata m xs).length ∧ (sdata m xs).length ≤ 253 := by
  unfold sdata
  by_cases h : xs = []
  · simp [h]
  · have : 0 < xs.length := List.length_pos_iff.2 h
    simp [h]; omega
theorem sdata_bys (m : Int) (xs : List Int) (h : Bys xs) : Bys (sdata m xs) := by
  unfold sdata
  split
  · exact Bys.one (by omega) (by omega)
  · exact h.take _

/-- Bytes that the call owns. -/
def Owns (w : World) (base : Nat) (v : Value) (xs : List Int) : Prop := w.ownsRow base 5 1 v xs.length (xs.map (Value.int .u8))
theorem Owns.lies {w : World} {base : Nat} {v : Value} {xs : List Int} (h : Owns w base v xs) : Lies w v xs := by
  have h' := h
  rcases h.2 with ⟨hv, h0⟩ | ⟨g, cap, cur, hv, hg, hh, hle, hm, hs, hx⟩
  · exact .inl ⟨none, 0, hv, List.length_eq_zero_iff.1 h0⟩
  · refine .inr ⟨g, 0, cap, hv, hle, .inr (Array.getElem?_eq_some_iff.1 hh).1, fun i hi => ?_⟩
    subst hv
    rw [Nat.zero_add, h'.cellAt i (by omega)]
    simp [List.getD, List.getElem?_eq_getElem hi]

theorem news_lies {w : World} {b o : Nat} {xs : List Int} (hc : ∀ i, i < xs.length → w.cell? ⟨b, o + i, none⟩ = some (.int .u8 (xs.getD i 0))) :
    ∀ j u, (xs.map (Value.int .u8))[j]? = some u → w.cell? ((⟨b, o, none⟩ : Addr).add j) = some u := fun j u hu => by
  have hj : j < xs.length := by
    rcases Nat.lt_or_ge j xs.length with h | h
    · exact h
    · simp [List.getElem?_eq_none h] at hu
  have e : (⟨b, o, none⟩ : Addr).add j = ⟨b, o + j, none⟩ := by unfold Addr.add; split <;> simp_all
  rw [e, hc j hj, ← hu]
  simp [List.getD, List.getElem?_eq_getElem hj]
theorem one_bytes (xs : List Int) : ∀ u ∈ xs.map (Value.int .u8), u.oneCell' = true := fun u hu => by
  obtain ⟨_, _, rfl⟩ := List.mem_map.1 hu
  rfl

set_option maxHeartbeats 400000 in
theorem appendWord_any (g n cap : Nat) (xs : List Int) (base : Nat) (x : Int) (w : World) (h0 : 0 ≤ x) (h1 : x ≤ 65535) (hn : n = xs.length) (hown : Owns w base (.slice (some ⟨g, 0, none⟩) n cap) xs) (hroom : n + 2 ≤ cap) :
    Calls Tryz.prog 138 #[.slice (some ⟨g, 0, none⟩) n cap, .int .i64 x] w fun e w' => e = .returned (.slice (some ⟨g, 0, none⟩) (n + 2) cap) ∧
      Owns w' base (.slice (some ⟨g, 0, none⟩) (n + 2) cap) (xs ++ wd x) ∧ w.grownBy w' (some g) := by
  obtain ⟨i0, hi, hz0, hz1, hz2⟩ := info_parts info5
  subst hn
  have hown' := hown
  unfold Owns at hown'
  have hg := (hown'.lt g rfl).2
  go_enter Tryz.func138, Tryz.ntmps138
  go_wp2_with (at_builtin; refine wpList_append_own_spare _ rfl _ _ 37 rfl base 5 i0 1 Tryz.underlying37 hi hz1 g _ cap _ rfl (hown'.alloc _) ⟨w.heap.size, 0, none⟩ 2 2 ((wd x).map (Value.int .u8)) rfl rfl ?c1 (one_bytes _) hroom ?_)
  case c1 =>
    intro j u hj
    match j, hj with
    | 0, hj => simp [wd] at hj; subst hj; simp [Addr.add]
    | 1, hj => simp [wd] at hj; subst hj; simp [Addr.add]
  intro w1 h1 h2
  clear hown'
  go_wp2
  go_ret
  refine ⟨rfl, ?_, ?_⟩
  · unfold Owns
    simpa [wd] using h1
  · exact (World.grownBy_alloc _ _ _).trans h2
end Go.Proofs.YtfekelmldebplaaGreatDoor
