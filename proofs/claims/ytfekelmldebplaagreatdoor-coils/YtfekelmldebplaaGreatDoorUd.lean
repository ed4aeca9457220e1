import Derived.Test.YtfekelmldebplaaGreatDoorKb
import Derived.Test.YtfekelmldebplaaGreatDoorTq
namespace Go.Proofs.YtfekelmldebplaaGreatDoor
open Go.RowKit

def maskN (k o v : Nat) : Nat := (o &&& k) ||| (v &&& (65535 - k))
theorem not_and (v k : Nat) (hv : v < 65536) (hk : k < 65536) : v &&& (18446744073709551615 - k) = v &&& (65535 - k) := by
  apply Nat.eq_of_testBit_eq
  intro i
  rw [Nat.testBit_and, Nat.testBit_and]
  have e1 := Nat.testBit_two_pow_sub_succ (n := 64) (x := k) (by omega) i
  have e2 := Nat.testBit_two_pow_sub_succ (n := 16) (x := k) (by omega) i
  rw [show (2 : Nat) ^ 64 - (k + 1) = 18446744073709551615 - k by omega] at e1
  rw [show (2 : Nat) ^ 16 - (k + 1) = 65535 - k by omega] at e2
  rw [e1, e2]
  by_cases hi : i < 16
  · simp [hi, show i < 64 by omega]
  · have : v.testBit i = false := Nat.testBit_lt_two_pow (Nat.lt_of_lt_of_le hv (by rw [show 65536 = 2 ^ 16 from rfl]; exact Nat.pow_le_pow_right (by omega) (by omega)))
    simp [this]
theorem ofInt64 (n : Nat) (h : n < 65536) : (BitVec.ofInt 64 (n : Int)).toNat = n := by
  rw [BitVec.toNat_ofInt]
  omega
theorem small_wrap (n : Nat) (h : n < 65536) : IntKind.i64.wrap (n : Int) = (n : Int) := by
  simp [IntKind.wrap, IntKind.bits, IntKind.signed]
  omega
theorem and_i64 (o k : Nat) (ho : o < 65536) (hk : k < 65536) : bits BinOp.and IntKind.i64 (o : Int) (k : Int) = ((o &&& k : Nat) : Int) := by
  show IntKind.i64.wrap ((BitVec.ofInt 64 (o : Int) &&& BitVec.ofInt 64 (k : Int)).toNat : Int) = _
  rw [BitVec.toNat_and, ofInt64 o (by omega), ofInt64 k (by omega)]
  exact small_wrap _ (Nat.lt_of_le_of_lt Nat.and_le_left ho)
theorem or_i64 (o k : Nat) (ho : o < 65536) (hk : k < 65536) : bits BinOp.or IntKind.i64 (o : Int) (k : Int) = ((o ||| k : Nat) : Int) := by
  show IntKind.i64.wrap ((BitVec.ofInt 64 (o : Int) ||| BitVec.ofInt 64 (k : Int)).toNat : Int) = _
  rw [BitVec.toNat_or, ofInt64 o (by omega), ofInt64 k (by omega)]
  exact small_wrap _ (Nat.or_lt_two_pow (n := 16) ho hk)
theorem andNot_i64 (v k : Nat) (hv : v < 65536) (hk : k < 65536) : bits BinOp.andNot IntKind.i64 (v : Int) (k : Int) = ((v &&& (65535 - k) : Nat) : Int) := by
  show IntKind.i64.wrap ((BitVec.ofInt 64 (v : Int) &&& ~~~ BitVec.ofInt 64 (k : Int)).toNat : Int) = _
  rw [BitVec.toNat_and, BitVec.toNat_not, ofInt64 v (by omega), ofInt64 k (by omega), show 2 ^ 64 - 1 - k = 18446744073709551615 - k by omega, not_and v k hv hk]
  exact small_wrap _ (Nat.lt_of_le_of_lt Nat.and_le_left hv)
theorem maskN_lt (k o v : Nat) (ho : o < 65536) (hv : v < 65536) : maskN k o v < 65536 := Nat.or_lt_two_pow (n := 16) (Nat.lt_of_le_of_lt Nat.and_le_left ho) (Nat.lt_of_le_of_lt Nat.and_le_left hv)
theorem maskN_zero (o v : Nat) (hv : v < 65536) : maskN 0 o v = v := by
  unfold maskN
  rw [Nat.and_zero, Nat.zero_or, show 65535 - 0 = 2 ^ 16 - 1 from rfl, Nat.and_two_pow_sub_one_eq_mod, Nat.mod_eq_of_lt hv]
theorem maskN_twice (k o v : Nat) (hk : k < 65536) : maskN k (maskN k o v) v = maskN k o v := by
  unfold maskN
  apply Nat.eq_of_testBit_eq
  intro i
  have e2 := Nat.testBit_two_pow_sub_succ (n := 16) (x := k) (by omega) i
  rw [show (2 : Nat) ^ 16 - (k + 1) = 65535 - k by omega] at e2
  simp only [Nat.testBit_or, Nat.testBit_and, e2]
  cases o.testBit i <;> cases k.testBit i <;> cases v.testBit i <;> cases decide (i < 16) <;> rfl
/-- What an entry becomes. -/
def maskI (k o v : Int) : Int := bits BinOp.or IntKind.i64 (bits BinOp.and IntKind.i64 o k) (bits BinOp.andNot IntKind.i64 v k)
theorem maskI_nat (k o v : Nat) (hk : k < 65536) (ho : o < 65536) (hv : v < 65536) : maskI (k : Int) (o : Int) (v : Int) = (maskN k o v : Int) := by
  unfold maskI maskN
  rw [and_i64 o k ho hk, andNot_i64 v k hv hk]
  exact or_i64 _ _ (Nat.lt_of_le_of_lt Nat.and_le_left ho) (Nat.lt_of_le_of_lt Nat.and_le_left hv)
theorem maskI_zero (o v : Int) (ho : 0 ≤ o ∧ o ≤ 65535) (hv : 0 ≤ v ∧ v ≤ 65535) : maskI 0 o v = v := by
  obtain ⟨o, rfl⟩ := Int.eq_ofNat_of_zero_le ho.1
  obtain ⟨v, rfl⟩ := Int.eq_ofNat_of_zero_le hv.1
  have := maskI_nat 0 o v (by omega) (by omega) (by omega)
  rw [maskN_zero o v (by omega)] at this
  exact this
theorem maskI_bd (k o v : Int) (hk : 0 ≤ k ∧ k ≤ 65535) (ho : 0 ≤ o ∧ o ≤ 65535) (hv : 0 ≤ v ∧ v ≤ 65535) : 0 ≤ maskI k o v ∧ maskI k o v ≤ 65535 := by
  obtain ⟨o, rfl⟩ := Int.eq_ofNat_of_zero_le ho.1
  obtain ⟨v, rfl⟩ := Int.eq_ofNat_of_zero_le hv.1
  obtain ⟨k, rfl⟩ := Int.eq_ofNat_of_zero_le hk.1
  rw [maskI_nat k o v (by omega) (by omega) (by omega)]
  have := maskN_lt k o v (by omega) (by omega)
  omega

/-- A request that is taken apart. -/
structure Req where
  f : Int
  t : Nat
  ra : Nat
  rc : Nat
  wa : Nat
  wc : Nat
  vals : List Int
  keep : Nat
  echo : List Int

def wAt (bs : List Int) (i : Nat) : Nat := (256 * bs.getD (2 * i) 0 + bs.getD (2 * i + 1) 0).toNat
def unpackW (bs : List Int) (n : Nat) : List Int := (List.range n).map fun i => (wAt bs i : Int)
def unpackB (bs : List Int) (n : Nat) : List Int := (List.range n).map fun i => bs.getD (i / 8) 0 / 2 ^ (i % 8) % 2
def countB (n most : Nat) : Bool := decide (1 ≤ n) && decide (n ≤ most)

def parseRead (f : Int) (bs : List Int) (t most : Nat) : Int ⊕ Req :=
  if bs.length = 4 ∧ countB (wAt bs 1) most = true then .inr ⟨f, t, wAt bs 0, wAt bs 1, 0, 0, [], 0, []⟩ else .inl 3
def parse5 (f : Int) (bs : List Int) : Int ⊕ Req :=
  if bs.length = 4 ∧ (wAt bs 1 = 0 ∨ wAt bs 1 = 65280) then .inr ⟨f, 0, 0, 0, wAt bs 0, 1, [((wAt bs 1 / 65280 : Nat) : Int)], 0, bs⟩ else .inl 3
def parse6 (f : Int) (bs : List Int) : Int ⊕ Req :=
  if bs.length = 4 then .inr ⟨f, 3, 0, 0, wAt bs 0, 1, [(wAt bs 1 : Int)], 0, bs⟩ else .inl 3
def parse15 (f : Int) (bs : List Int) : Int ⊕ Req :=
  if 4 ≤ bs.length ∧ countB (wAt bs 1) 1968 = true ∧ bs.length = 5 + (wAt bs 1 + 7) / 8 ∧ bs.getD 4 0 = (((wAt bs 1 + 7) / 8 : Nat) : Int) then .inr ⟨f, 0, 0, 0, wAt bs 0, wAt bs 1, unpackB (bs.drop 5) (wAt bs 1), 0, bs.take 4⟩ else .inl 3
def parse16 (f : Int) (bs : List Int) : Int ⊕ Req :=
  if 4 ≤ bs.length ∧ countB (wAt bs 1) 123 = true ∧ bs.length = 5 + 2 * wAt bs 1 ∧ bs.getD 4 0 = ((2 * wAt bs 1 : Nat) : Int) then .inr ⟨f, 3, 0, 0, wAt bs 0, wAt bs 1, unpackW (bs.drop 5) (wAt bs 1), 0, bs.take 4⟩ else .inl 3
def parse22 (f : Int) (bs : List Int) : Int ⊕ Req :=
  if bs.length = 6 then .inr ⟨f, 3, wAt bs 0, 1, wAt bs 0, 1, [(wAt bs 2 : Int)], wAt bs 1, bs⟩ else .inl 3
def parse23 (f : Int) (bs : List Int) : Int ⊕ Req :=
  if 8 ≤ bs.length ∧ countB (wAt bs 1) 125 = true ∧ countB (wAt bs 3) 121 = true ∧ bs.length = 9 + 2 * wAt bs 3 ∧ bs.getD 8 0 = ((2 * wAt bs 3 : Nat) : Int) then .inr ⟨f, 3, wAt bs 0, wAt bs 1, wAt bs 2, wAt bs 3, unpackW (bs.drop 9) (wAt bs 3), 0, []⟩ else .inl 3
def parseL (f : Int) (bs : List Int) : Int ⊕ Req :=
  if f = 1 then parseRead f bs 0 2000 else if f = 2 then parseRead f bs 1 2000 else if f = 3 then parseRead f bs 3 125 else if f = 4 then parseRead f bs 2 125
  else if f = 5 then parse5 f bs else if f = 6 then parse6 f bs else if f = 15 then parse15 f bs else if f = 16 then parse16 f bs
  else if f = 22 then parse22 f bs else if f = 23 then parse23 f bs else .inl 1

theorem wAt_lt (bs : List Int) (h : Bys bs) (i : Nat) : wAt bs i < 65536 := by
  have a := h.at (2 * i)
  have b := h.at (2 * i + 1)
  unfold wAt
  omega
theorem wAt_eq (bs : List Int) (h : Bys bs) (i : Nat) : ((wAt bs i : Nat) : Int) = 256 * bs.getD (2 * i) 0 + bs.getD (2 * i + 1) 0 := by
  have a := h.at (2 * i)
  have b := h.at (2 * i + 1)
  unfold wAt
  omega

/-- What a request that was taken apart may be. -/
structure Req.Ok (q : Req) : Prop where
  t : q.t < 4
  ra : q.ra < 65536
  rc : q.rc ≤ 2000
  wa : q.wa < 65536
  wc : q.wc ≤ 1968
  len : q.vals.length = q.wc
  vals : ∀ x ∈ q.vals, 0 ≤ x ∧ x ≤ (if q.t ≤ 1 then 1 else 65535)
  keep : q.keep < 65536
  bit : q.t ≤ 1 → q.keep = 0
  echo : Bys q.echo
  elen : q.echo.length ≤ 300
theorem unpackW_len (bs : List Int) (n : Nat) : (unpackW bs n).length = n := by simp [unpackW]
theorem unpackB_len (bs : List Int) (n : Nat) : (unpackB bs n).length = n := by simp [unpackB]
theorem unpackW_in (bs : List Int) (h : Bys bs) (n : Nat) : ∀ x ∈ unpackW bs n, 0 ≤ x ∧ x ≤ 65535 := fun x hx => by
  obtain ⟨i, _, rfl⟩ := List.mem_map.1 hx
  have := wAt_lt bs h i
  omega
theorem unpackB_in (bs : List Int) (n : Nat) : ∀ x ∈ unpackB bs n, 0 ≤ x ∧ x ≤ 1 := fun x hx => by
  obtain ⟨i, _, rfl⟩ := List.mem_map.1 hx
  have : 0 ≤ bs.getD (i / 8) 0 / 2 ^ (i % 8) % 2 := Int.emod_nonneg _ (by omega)
  have : bs.getD (i / 8) 0 / 2 ^ (i % 8) % 2 < 2 := Int.emod_lt_of_pos _ (by omega)
  omega
theorem parseL_ok (f : Int) (bs : List Int) (h : Bys bs) (hl : bs.length ≤ 252) (q : Req) (e : parseL f bs = .inr q) : q.Ok := by
  have w0 := wAt_lt bs h 0
  have w1 := wAt_lt bs h 1
  have w2 := wAt_lt bs h 2
  have w3 := wAt_lt bs h 3
  have rd : ∀ t m, t < 4 → m ≤ 2000 → parseRead f bs t m = .inr q → q.Ok := fun t m ht hm e => by
    unfold parseRead at e
    split at e
    · rename_i hc
      have hc2 := hc.2
      simp [countB] at hc2
      cases e
      exact ⟨ht, w0, by simp; omega, by simp, by simp, rfl, by simp, by simp, fun _ => rfl, Bys.nil, by simp⟩
    · cases e
  unfold parseL at e
  split at e
  · exact rd _ _ (by omega) (by omega) e
  split at e
  · exact rd _ _ (by omega) (by omega) e
  split at e
  · exact rd _ _ (by omega) (by omega) e
  split at e
  · exact rd _ _ (by omega) (by omega) e
  split at e
  · unfold parse5 at e
    split at e
    · cases e
      exact ⟨by simp, by simp, by simp, w0, by simp, rfl, by simp; omega, by simp, fun _ => rfl, h, by simp; omega⟩
    · cases e
  split at e
  · unfold parse6 at e
    split at e
    · cases e
      exact ⟨by simp, by simp, by simp, w0, by simp, rfl, by simp; omega, by simp, fun _ => rfl, h, by simp; omega⟩
    · cases e
  split at e
  · unfold parse15 at e
    split at e
    · rename_i hc
      have hc2 := hc.2.1
      simp [countB] at hc2
      cases e
      exact ⟨by simp, by simp, by simp, w0, by simp; omega, unpackB_len _ _, fun x hx => by simpa using unpackB_in _ _ x hx, by simp, fun _ => rfl, h.take 4, by simp; omega⟩
    · cases e
  split at e
  · unfold parse16 at e
    split at e
    · rename_i hc
      have hc2 := hc.2.1
      simp [countB] at hc2
      cases e
      exact ⟨by simp, by simp, by simp, w0, by simp; omega, unpackW_len _ _, fun x hx => by simpa using unpackW_in _ (h.drop 5) _ x hx, by simp, fun _ => rfl, h.take 4, by simp; omega⟩
    · cases e
  split at e
  · unfold parse22 at e
    split at e
    · cases e
      exact ⟨by simp, w0, by simp, w0, by simp, rfl, by simp; omega, w1, fun e => by simp at e, h, by simp; omega⟩
    · cases e
  split at e
  · unfold parse23 at e
    split at e
    · rename_i hc
      have hc1 := hc.2.1
      have hc2 := hc.2.2.1
      simp [countB] at hc1 hc2
      cases e
      exact ⟨by simp, w0, by simp; omega, w2, by simp; omega, unpackW_len _ _, fun x hx => by simpa using unpackW_in _ (h.drop 9) _ x hx, by simp, fun _ => rfl, Bys.nil, by simp⟩
    · cases e
  · cases e

/-- What the entries that are written become. -/
def writtenL (old vals : List Int) (keep : Nat) : List Int := (List.range old.length).map fun i => maskI (keep : Int) (old.getD i 0) (vals.getD i 0)
theorem writtenL_len (old vals : List Int) (keep : Nat) : (writtenL old vals keep).length = old.length := by simp [writtenL]
def packT (t : Nat) (xs : List Int) : List Int := if t ≤ 1 then packL xs else wordsL xs
def spanL (L : List Int) (a n : Nat) : List Int := (L.drop a).take n
def carryL (L : List Int) (q : Req) : List Int := setL L q.wa (writtenL (spanL L q.wa q.wc) q.vals q.keep)
def toldL (q : Req) (p : List Int) : List Int := if q.echo = [] then q.f :: (p.length : Int) :: p else q.f :: q.echo
def Rule.over (x : Rule) (t ad : Int) : Bool := decide (x.t = t) && (decide (x.lo ≤ ad) && decide (ad ≤ x.hi))
def lets (wr : Bool) (x : Rule) : Bool := if wr then x.w else x.r
def mayB (wr : Bool) (rs : List Rule) (t a : Int) (n : Nat) : Bool := (List.range n).all fun k => rs.any (fun x => lets wr x && x.over t (a + k))
/-- The exception by which a request is not done; 0: it is done. -/
def excL (n : Nat) (rs : List Rule) (q : Req) : Int :=
  if (hasB n q.ra q.rc && hasB n q.wa q.wc) = true then (if (mayB false rs q.t q.ra q.rc && mayB true rs q.t q.wa q.wc) = true then 0 else 4) else 2
end Go.Proofs.YtfekelmldebplaaGreatDoor

namespace Go.Proofs.YtfekelmldebplaaGreatDoor
open Go.RowKit

theorem wsize_any (n : Nat) (w : World) (hn : n ≤ 1000000) : Calls Tryz.prog 223 #[.int .i64 n] w fun e w' => e = .returned (.int .i64 (2 * (n : Int))) ∧ w' = w := by
  go_enter Tryz.func223, Tryz.ntmps223
  go_wp2
  go_ret
  exact ⟨rfl, rfl⟩
theorem wsize_n (n N : Nat) (w : World) (hn : n ≤ 1000000) (hN : 2 * n = N) : Calls Tryz.prog 223 #[.int .i64 n] w fun e w' => e = .returned (.int .i64 (N : Int)) ∧ w' = w := by
  refine (wsize_any n w hn).mono ?_
  rintro e w ⟨rfl, rfl⟩
  exact ⟨ret_int (by omega), rfl⟩
theorem bsize_any (n N : Nat) (w : World) (hn : n ≤ 1000000) (hN : (n + 7) / 8 = N) : Calls Tryz.prog 221 #[.int .i64 n] w fun e w' => e = .returned (.int .i64 N) ∧ w' = w := by
  have h1 : ((n : Int) + 7) / 8 = (N : Int) := by omega
  clear hN
  go_enter Tryz.func221, Tryz.ntmps221
  go_wp2
  go_ret
  exact ⟨ret_int (by omega), rfl⟩

set_option maxRecDepth 10000 in
set_option maxHeartbeats 1000000 in
theorem wordsPack_any (v : Value) (xs : List Int) (w : World) (h : LiesI w v xs) (hx : ∀ x ∈ xs, 0 ≤ x ∧ x ≤ 65535) (hn : xs.length ≤ 1000) :
    Calls Tryz.prog 266 #[v] w fun e w' => ∃ v', e = .returned v' ∧ Owns w' w.heap.size v' (wordsL xs) ∧ Below w.heap.size w w' := by
  obtain ⟨a, c, rfl, hl⟩ := h
  have HL := hide hl
  have HX := hide hx
  clear hl hx
  have hmk : ∀ u : World, (Instr.makeSlice 37 (.int .i64 0) (.int .i64 (2 * (xs.length : Int)))).run Tryz.prog u = .ok (.slice (some ⟨u.heap.size, 0, none⟩) 0 (2 * xs.length)) (u.alloc (.cells (madeCells #[.int .u8 0] (2 * xs.length)) 5)) := fun u => by
    rw [show 2 * (xs.length : Int) = ((2 * xs.length : Nat) : Int) by omega]
    exact makes _ (by omega) u
  have O0 : Hid (Owns (w.alloc (.cells (madeCells #[.int .u8 0] (2 * xs.length)) 5)) w.heap.size (.slice (some ⟨w.heap.size, 0, none⟩) 0 (2 * xs.length)) []) := World.ownsRow_made w _ _ (Nat.le_refl _) (by unfold maxLen; omega) (by rw [size_madeCells]; omega)
  have HB0 : Hid (Below w.heap.size w (w.alloc (.cells (madeCells #[.int .u8 0] (2 * xs.length)) 5))) := (Below.refl _ _).alloc (Nat.le_refl _) _
  generalize madeCells #[.int .u8 0] (2 * xs.length) = Z at hmk O0 HB0
  go_enter Tryz.func266, Tryz.ntmps266
  go_wp2_with (go_at_call 223; refine (wsize_any _ _ (by omega)).mono ?_; rintro e w ⟨rfl, rfl⟩)
  go_loopw [3, 12] (fun v i wr => ∃ k : Nat, k ≤ xs.length ∧ i = .int .i64 k ∧ Hid (v = .slice (some ⟨w.heap.size, 0, none⟩) (2 * k) (2 * xs.length) ∧ Owns wr w.heap.size (.slice (some ⟨w.heap.size, 0, none⟩) (2 * k) (2 * xs.length)) (wordsL (xs.take k))) ∧ Hid (Below w.heap.size w wr)) (fun v i _ => xs.length - (intOf i).toNat)
  case atStart => exact ⟨0, by omega, rfl, ⟨rfl, unhide O0⟩, HB0⟩
  case round =>
    obtain ⟨k, hk, rfl, HVO, HB⟩ := hrel
    obtain ⟨rfl, HO1⟩ := unhide HVO
    have HO := hide HO1
    clear HO1 HVO
    by_cases hlt : k < xs.length
    · obtain ⟨b, o, rfl, hbl, hcc⟩ := (unhide HL).resolve_left (fun e => by rw [e] at hlt; simp at hlt)
      have ck := ((unhide HB).cell (by exact hbl)).trans (hcc k hlt)
      have hy := unhide HX (xs.getD k 0) (by simp [List.getD, List.getElem?_eq_getElem hlt])
      have HN : Hid (wordsL (xs.take (k + 1)) = wordsL (xs.take k) ++ wd (xs.getD k 0)) := by
        show _ = _
        unfold wordsL
        rw [List.take_add_one, List.getElem?_eq_getElem hlt, Option.toList_some, List.flatMap_append]
        simp only [List.flatMap_cons, List.flatMap_nil, List.append_nil, List.getD, List.getElem?_eq_getElem hlt, Option.getD_some]
      have hwl := wordsL_len (xs.take k)
      rw [List.length_take, Nat.min_eq_left (by omega)] at hwl
      generalize xs.getD k 0 = y at ck hy HN
      have HC := hide (appendWord_any w.heap.size (2 * k) (2 * xs.length) _ w.heap.size y wr hy.1 hy.2 hwl.symm (unhide HO) (by omega))
      clear hwl hcc
      go_wp2_with fail
      refine (unhide HC).mono ?_
      rintro r w2 ⟨rfl, ho2, hg2⟩
      have HO2 := hide ho2
      have HB2 := hide (Below.ofGrown (unhide HB) hg2 (by have := (unhide HB).size; omega) (Nat.le_refl _))
      clear ho2 hg2 HC
      go_wp2
      go_roundw
      case rel =>
        refine ⟨k + 1, by omega, by go_num, ?_, HB2⟩
        show _ ∧ Owns _ _ _ _
        rw [unhide HN, show 2 * (k + 1) = 2 * k + 2 by omega]
        exact ⟨rfl, unhide HO2⟩
      case measure => simp [intOf]; omega
    · obtain rfl : k = xs.length := by omega
      go_wp2
      go_ret
      refine ⟨_, rfl, ?_, unhide HB⟩
      have := unhide HO
      rw [List.take_length] at this
      exact this

/-- Numbers, behind so many that were unpacked. -/
theorem row_setI {w : World} {g q : Nat} {L : List Int} {x : Int} (h : w.heap[g]? = some (.cells (L.map (Value.int .i64)).toArray 3 (0, 0))) : (w.setCell ⟨g, q, none⟩ (.int .i64 x)).heap[g]? = some (.cells ((L.set q x).map (Value.int .i64)).toArray 3 (0, 0)) := by
  rw [heap_setCell_same w g q _ 3 _ h, List.map_set]
  simp
theorem rowI_cell {w : World} {g : Nat} {L : List Int} (h : w.heap[g]? = some (.cells (L.map (Value.int .i64)).toArray 3 (0, 0))) (k : Nat) (hk : k < L.length) : w.cell? ⟨g, k, none⟩ = some (.int .i64 (L.getD k 0)) := by
  rw [cell_of_row _ _ k _ _ _ h]
  simp [List.getD, List.getElem?_eq_getElem hk]
theorem fillL_next (g : Nat → Int) (n k : Nat) (hk : k < n) : ((List.range k).map g ++ List.replicate (n - k) 0).set k (g k) = (List.range (k + 1)).map g ++ List.replicate (n - (k + 1)) 0 := by
  rw [List.set_append_right _ _ (by simp), List.range_succ, List.map_append, show n - k = (n - (k + 1)) + 1 by omega, List.replicate_succ]
  simp
theorem fillL_all (g : Nat → Int) (n : Nat) : (List.range n).map g ++ List.replicate (n - n) 0 = (List.range n).map g := by simp

set_option maxRecDepth 10000 in
set_option maxHeartbeats 1000000 in
theorem wordsUnpack_any (v : Value) (bs : List Int) (n : Nat) (w : World) (h : Lies w v bs) (hx : Bys bs) (hn : 2 * n ≤ bs.length) (hm : n ≤ 1000) :
    Calls Tryz.prog 224 #[v, .int .i64 n] w fun e w' => ∃ g, e = .returned (.slice (some ⟨g, 0, none⟩) n n) ∧ w.heap.size ≤ g ∧ w'.heap[g]? = some (.cells ((unpackW bs n).map (Value.int .i64)).toArray 3 (0, 0)) ∧ Below w.heap.size w w' := by
  have hmk := makesL n (by omega)
  obtain ⟨a, c, rfl⟩ : ∃ a c, v = .slice a bs.length c := by
    rcases h with ⟨a, c, rfl, rfl⟩ | ⟨b, o, c, rfl, _⟩
    · exact ⟨_, _, rfl⟩
    · exact ⟨_, _, rfl⟩
  have H := hide h
  have HX := hide hx
  clear h hx
  have HR0 : Hid ((w.alloc (.cells ((List.replicate n (0 : Int)).map (Value.int .i64)).toArray 3)).heap[w.heap.size]? = some (.cells (((List.range 0).map (fun i => (wAt bs i : Int)) ++ List.replicate (n - 0) 0).map (Value.int .i64)).toArray 3 (0, 0))) := heap_alloc_new w _
  have HB0 : Hid (Below w.heap.size w (w.alloc (.cells ((List.replicate n (0 : Int)).map (Value.int .i64)).toArray 3))) := (Below.refl _ _).alloc (Nat.le_refl _) _
  generalize (List.replicate n (0 : Int)).map (Value.int .i64) = Z at hmk HR0 HB0
  go_enter Tryz.func224, Tryz.ntmps224
  go_wp2
  go_loopw [11] (fun i wr => ∃ k : Nat, k ≤ n ∧ i = .int .i64 k ∧ Hid (wr.heap[w.heap.size]? = some (.cells (((List.range k).map (fun i => (wAt bs i : Int)) ++ List.replicate (n - k) 0).map (Value.int .i64)).toArray 3 (0, 0))) ∧ Hid (Below w.heap.size w wr)) (fun i _ => n - (intOf i).toNat)
  case atStart => exact ⟨0, by omega, rfl, HR0, HB0⟩
  case round =>
    obtain ⟨k, hk, rfl, HR, HB⟩ := hrel
    by_cases hlt : k < n
    · obtain ⟨b, o, c2, e1, _, hbl, hcc⟩ := (unhide H).shape (fun e => by rw [e] at hn; simp at hn; omega)
      cases e1
      have r0 := (unhide HX).at (2 * k)
      have r1 := (unhide HX).at (2 * k + 1)
      have HK : Hid (∀ w', Below w.heap.size w w' → Below w.heap.size w w' ∧ w'.cell? ⟨b, o + 2 * k, none⟩ = some (.int .u8 (bs.getD (2 * k) 0)) ∧ w'.cell? ⟨b, o + (2 * k + 1), none⟩ = some (.int .u8 (bs.getD (2 * k + 1) 0))) := fun w' h => ⟨h, (h.cell (by exact hbl)).trans (hcc _ (by omega)), (h.cell (by exact hbl)).trans (hcc _ (by omega))⟩
      have HE : Hid (256 * bs.getD (2 * k) 0 + bs.getD (2 * k + 1) 0 = (wAt bs k : Int)) := (wAt_eq bs (unhide HX) k).symm
      generalize bs.getD (2 * k) 0 = x0 at HK r0 HE
      generalize bs.getD (2 * k + 1) 0 = x1 at HK r1 HE
      have q : ∃ z, wr.cell? ⟨w.heap.size, k, none⟩ = some (.int .i64 z) := ⟨_, rowI_cell (unhide HR) k (by simp; omega)⟩
      obtain ⟨z, q⟩ := q
      have f := frozen_of_row _ _ k _ _ (unhide HR)
      have HS := hide (row_setI (q := k) (x := (wAt bs k : Int)) (unhide HR))
      rw [fillL_next (fun i => (wAt bs i : Int)) n k hlt, ← unhide HE] at HS
      have HS2 := hide (below_set (q := k) (v := .int .i64 (256 * x0 + x1)) (unhide HB) (Nat.le_refl _))
      clear hcc HE
      have HJ : ∃ j, Hid (2 * k = j) := ⟨_, rfl⟩
      obtain ⟨j, HJ⟩ := HJ
      rw [unhide HJ] at HK
      have hk1 : (j : Int) + 1 < (bs.length : Int) := by have := unhide HJ; omega
      have hk2 : (j : Int) < (bs.length : Int) := by omega
      have hk3 : (j : Int) + 1 ≤ 100000 := by have := unhide HJ; omega
      have hk4 : (k : Int) < (n : Int) := by omega
      have hkm : k ≤ 1000000 := by omega
      have hwj : IntKind.i64.wrap ((j : Int) + 1) = (j : Int) + 1 := by
        simp [IntKind.wrap, IntKind.bits, IntKind.signed]
        omega
      have hj0 : (0 : Int) ≤ (j : Int) + 1 := by omega
      have hjt : ((j : Int) + 1).toNat = j + 1 := by omega
      go_wp2_with fail
      go_region_held3 (fun w' => Below w.heap.size w w' ∧ w'.cell? ⟨b, o + j, none⟩ = some (.int .u8 x0) ∧ w'.cell? ⟨b, o + (j + 1), none⟩ = some (.int .u8 x1))
        ((refine unhide HK _ ?_; repeat (first
          | exact unhide HB
          | exact And.left (by assumption)
          | refine Below.drew ?_
          | refine below_set ?_ (by omega))))
        (first
          | (go_at_call 223; refine (wsize_n _ _ _ hkm (unhide HJ)).mono ?_; rintro e w2 ⟨rfl, rfl⟩)
          | (go_at_call 199; refine (fword_any _ _ _ r0.1 r0.2 r1.1 r1.2).mono ?_; rintro e w2 ⟨rfl, rfl⟩)
          | fail)
      go_wp2
      go_roundw
      case rel => exact ⟨k + 1, by omega, by go_num, unhide HS, (unhide HS2).drew⟩
      case measure => simp [intOf]; omega
    · obtain rfl : k = n := by omega
      go_wp2
      go_ret
      refine ⟨_, rfl, Nat.le_refl _, ?_, unhide HB⟩
      have := unhide HR
      rw [fillL_all] at this
      exact this

theorem or_zero8 (b : Int) (h0 : 0 ≤ b) (h1 : b < 256) : bits BinOp.or IntKind.u8 b 0 = b := by
  obtain ⟨b, rfl⟩ := Int.eq_ofNat_of_zero_le h0
  show IntKind.u8.wrap ((BitVec.ofInt 8 (b : Int) ||| BitVec.ofInt 8 0).toNat : Int) = _
  have e : (BitVec.ofInt 8 (b : Int)).toNat = b := by
    rw [BitVec.toNat_ofInt]
    omega
  rw [BitVec.toNat_or, e]
  simp [IntKind.wrap, IntKind.bits, IntKind.signed]
  omega
theorem or_bd8 (a b : Int) : 0 ≤ bits BinOp.or IntKind.u8 a b ∧ bits BinOp.or IntKind.u8 a b < 256 := by
  have : bits BinOp.or IntKind.u8 a b = IntKind.u8.wrap ((BitVec.ofInt 8 a ||| BitVec.ofInt 8 b).toNat : Int) := rfl
  rw [this]
  simp [IntKind.wrap, IntKind.bits, IntKind.signed]
  omega
theorem packN_bd (xs : List Int) (N k : Nat) : ∀ y ∈ packN xs N k, 0 ≤ y ∧ y < 256 := by
  induction k with
  | zero =>
    intro y hy
    simp [packN] at hy
    omega
  | succ k ih =>
    intro y hy
    unfold packN at hy
    split at hy
    · rcases List.mem_or_eq_of_mem_set hy with h | rfl
      · exact ih y h
      · exact or_bd8 _ _
    · exact ih y hy

set_option maxRecDepth 10000 in
set_option maxHeartbeats 1000000 in
theorem bitsPack_any (v : Value) (M : List Int) (w : World) (h : LiesI w v M) (hM : ∀ x ∈ M, x = 0 ∨ x = 1) (hn : M.length ≤ 2000) :
    Calls Tryz.prog 264 #[v] w fun e w' => ∃ v', e = .returned v' ∧ Owns w' w.heap.size v' (packL M) ∧ Below w.heap.size w w' := by
  obtain ⟨a, c, rfl, hl⟩ := h
  have HL := hide hl
  have HM := hide hM
  clear hl hM
  obtain ⟨N, hN⟩ : ∃ N : Nat, (M.length + 7) / 8 = N := ⟨_, rfl⟩
  have hm := makesB N (by omega)
  have HNN := hide hN
  have HZ : Hid ((w.alloc (.cells ((List.replicate N (0 : Int)).map (Value.int .u8)).toArray 5)).heap[w.heap.size]? = some (.cells ((packN M N 0).map (Value.int .u8)).toArray 5 (0, 0))) := heap_alloc_new w _
  have HB0 : Hid (Below w.heap.size w (w.alloc (.cells ((List.replicate N (0 : Int)).map (Value.int .u8)).toArray 5))) := (Below.refl _ _).alloc (Nat.le_refl _) _
  generalize ((List.replicate N (0 : Int)).map (Value.int .u8)) = Z at hm HB0 HZ
  clear hN
  go_enter Tryz.func264, Tryz.ntmps264
  go_wp2_with (go_at_call 221; refine (bsize_any _ N _ (by omega) (unhide HNN)).mono ?_; rintro e w ⟨rfl, rfl⟩)
  go_loopw [12] (fun i wr => ∃ t : Nat, t ≤ M.length ∧ i = .int .i64 t ∧ Hid (wr.heap[w.heap.size]? = some (.cells ((packN M N t).map (Value.int .u8)).toArray 5 (0, 0))) ∧ Hid (Below w.heap.size w wr)) (fun i _ => M.length - (intOf i).toNat)
  case atStart => exact ⟨0, by omega, rfl, HZ, HB0⟩
  case round =>
    obtain ⟨t, ht, rfl, HR, HB⟩ := hrel
    by_cases hlt : t < M.length
    · obtain ⟨b, o, rfl, hbl, hcc⟩ := (unhide HL).resolve_left (fun e => by rw [e] at hlt; simp at hlt)
      have ck := ((unhide HB).cell (by exact hbl)).trans (hcc t hlt)
      have hx01 := unhide HM (M.getD t 0) (by simp [List.getD, List.getElem?_eq_getElem hlt])
      obtain ⟨q, hq⟩ : ∃ q : Nat, t / 8 = q := ⟨_, rfl⟩
      obtain ⟨r, hr8⟩ : ∃ r : Nat, t % 8 = r := ⟨_, rfl⟩
      have hd : (t : Int) / 8 = (q : Int) := by omega
      have hm8 : (t : Int) % 8 = (r : Int) := by omega
      have hqN : (q : Int) < (N : Int) := by have := unhide HNN; omega
      have hr7 : (r : Int) ≤ 8 := by omega
      have hql : q < (packN M N t).length := by rw [packN_len]; omega
      have c2 : wr.cell? ⟨w.heap.size, q, none⟩ = some (.int .u8 ((packN M N t).getD q 0)) := by
        rw [cell_of_row _ _ _ _ _ _ (unhide HR)]
        simp [List.getD, List.getElem?_eq_getElem hql]
      have hbb := packN_bd M N t ((packN M N t).getD q 0) (by simp [List.getD, List.getElem?_eq_getElem hql])
      have f2 : wr.frozen? ⟨w.heap.size, q, none⟩ = false := frozen_of_row _ _ _ _ _ (unhide HR)
      have HP1 : Hid (M.getD t 0 = 1 → packN M N (t + 1) = (packN M N t).set q (bits BinOp.or IntKind.u8 ((packN M N t).getD q 0) (2 ^ r % 256))) := fun e => by
        show packN M N (t + 1) = _
        rw [packN, if_pos e, hq, hr8]
        rfl
      have HP2 : Hid (M.getD t 0 = 0 → packN M N (t + 1) = (packN M N t).set q (bits BinOp.or IntKind.u8 ((packN M N t).getD q 0) 0)) := fun e => by
        show packN M N (t + 1) = _
        rw [packN, if_neg (by rw [e]; decide), or_zero8 _ hbb.1 hbb.2]
        apply List.ext_getElem?
        intro i
        by_cases hi : q = i
        · subst hi
          rw [List.getElem?_set_self hql, List.getElem?_eq_getElem hql]
          simp [List.getD, List.getElem?_eq_getElem hql]
        · rw [List.getElem?_set_ne hi]
      clear hq hr8 hbb hql hcc
      generalize M.getD t 0 = x at ck hx01 HP1 HP2
      generalize (packN M N t).getD q 0 = bb at c2 HP1 HP2
      rcases hx01 with rfl | rfl
      · have HS := hide (row_set (q := q) (x := bits BinOp.or IntKind.u8 bb 0) (unhide HR))
        rw [← unhide HP2 rfl] at HS
        have HS2 := hide (below_set (q := q) (v := .int .u8 (bits BinOp.or IntKind.u8 bb 0)) (unhide HB) (Nat.le_refl _))
        clear HP1 HP2
        go_wp2
        go_region
        go_wp2
        go_roundw
        case rel => exact ⟨t + 1, by omega, by go_num, unhide HS, (unhide HS2).drew⟩
        case measure => simp [intOf]; omega
      · have HS := hide (row_set (q := q) (x := bits BinOp.or IntKind.u8 bb (2 ^ r % 256)) (unhide HR))
        rw [← unhide HP1 rfl] at HS
        have HS2 := hide (below_set (q := q) (v := .int .u8 (bits BinOp.or IntKind.u8 bb (2 ^ r % 256))) (unhide HB) (Nat.le_refl _))
        clear HP1 HP2
        go_wp2
        go_region
        go_wp2
        go_roundw
        case rel => exact ⟨t + 1, by omega, by go_num, unhide HS, (unhide HS2).drew⟩
        case measure => simp [intOf]; omega
    · obtain rfl : t = M.length := by omega
      go_wp2
      go_ret
      refine ⟨_, rfl, ?_, unhide HB⟩
      unfold packL Owns
      rw [unhide HNN, packN_len]
      exact ⟨by simp [packN_len], .inr ⟨w.heap.size, N, _, rfl, Nat.le_refl _, unhide HR, Nat.le_refl _, by have := unhide HNN; unfold maxLen; omega, by simp [packN_len], by rw [Nat.mul_one]; exact List.take_of_length_le (by simp [packN_len])⟩⟩

theorem and_one (x : Int) (h0 : 0 ≤ x) (h1 : x < 256) : bits BinOp.and IntKind.i64 x 1 = x % 2 := by
  obtain ⟨x, rfl⟩ := Int.eq_ofNat_of_zero_le h0
  have := and_i64 x 1 (by omega) (by omega)
  rw [Nat.and_one_is_mod] at this
  rw [show ((1 : Nat) : Int) = 1 from rfl] at this
  rw [this]
  omega

set_option maxRecDepth 10000 in
set_option maxHeartbeats 1000000 in
theorem bitsUnpack_any (v : Value) (bs : List Int) (n : Nat) (w : World) (h : Lies w v bs) (hx : Bys bs) (hn : (n + 7) / 8 ≤ bs.length) (hm : n ≤ 2000) :
    Calls Tryz.prog 222 #[v, .int .i64 n] w fun e w' => ∃ g, e = .returned (.slice (some ⟨g, 0, none⟩) n n) ∧ w.heap.size ≤ g ∧ w'.heap[g]? = some (.cells ((unpackB bs n).map (Value.int .i64)).toArray 3 (0, 0)) ∧ Below w.heap.size w w' := by
  have hmk := makesL n (by omega)
  obtain ⟨a, c, rfl⟩ : ∃ a c, v = .slice a bs.length c := by
    rcases h with ⟨a, c, rfl, rfl⟩ | ⟨b, o, c, rfl, _⟩
    · exact ⟨_, _, rfl⟩
    · exact ⟨_, _, rfl⟩
  have H := hide h
  have HX := hide hx
  clear h hx
  have HR0 : Hid ((w.alloc (.cells ((List.replicate n (0 : Int)).map (Value.int .i64)).toArray 3)).heap[w.heap.size]? = some (.cells (((List.range 0).map (fun i => bs.getD (i / 8) 0 / 2 ^ (i % 8) % 2) ++ List.replicate (n - 0) 0).map (Value.int .i64)).toArray 3 (0, 0))) := heap_alloc_new w _
  have HB0 : Hid (Below w.heap.size w (w.alloc (.cells ((List.replicate n (0 : Int)).map (Value.int .i64)).toArray 3))) := (Below.refl _ _).alloc (Nat.le_refl _) _
  generalize (List.replicate n (0 : Int)).map (Value.int .i64) = Z at hmk HR0 HB0
  go_enter Tryz.func222, Tryz.ntmps222
  go_wp2
  go_loopw [11] (fun i wr => ∃ k : Nat, k ≤ n ∧ i = .int .i64 k ∧ Hid (wr.heap[w.heap.size]? = some (.cells (((List.range k).map (fun i => bs.getD (i / 8) 0 / 2 ^ (i % 8) % 2) ++ List.replicate (n - k) 0).map (Value.int .i64)).toArray 3 (0, 0))) ∧ Hid (Below w.heap.size w wr)) (fun i _ => n - (intOf i).toNat)
  case atStart => exact ⟨0, by omega, rfl, HR0, HB0⟩
  case round =>
    obtain ⟨k, hk, rfl, HR, HB⟩ := hrel
    by_cases hlt : k < n
    · obtain ⟨b, o, c2, e1, _, hbl, hcc⟩ := (unhide H).shape (fun e => by rw [e] at hn; simp at hn; omega)
      cases e1
      obtain ⟨q, hq⟩ : ∃ q : Nat, k / 8 = q := ⟨_, rfl⟩
      obtain ⟨r, hr8⟩ : ∃ r : Nat, k % 8 = r := ⟨_, rfl⟩
      have hd : (k : Int) / 8 = (q : Int) := by omega
      have hm8 : (k : Int) % 8 = (r : Int) := by omega
      have hqN : (q : Int) < (bs.length : Int) := by omega
      have hr7 : (r : Int) ≤ 8 := by omega
      have ck := ((unhide HB).cell (by exact hbl)).trans (hcc q (by omega))
      have r0 := (unhide HX).at q
      have HE : Hid ((fun i => bs.getD (i / 8) 0 / 2 ^ (i % 8) % 2) k = bs.getD q 0 / 2 ^ r % 2) := by
        show _ = _
        simp only [hq, hr8]
      generalize hbq : bs.getD q 0 = x0 at ck r0 HE
      clear hbq
      have qz : ∃ z, wr.cell? ⟨w.heap.size, k, none⟩ = some (.int .i64 z) := ⟨_, rowI_cell (unhide HR) k (by simp; omega)⟩
      obtain ⟨z, qz⟩ := qz
      have f := frozen_of_row _ _ k _ _ (unhide HR)
      have hk4 : (k : Int) < (n : Int) := by omega
      have hsh : wrap64 (x0 / 2 ^ r) = x0 / 2 ^ r := by
        have h1 : 0 ≤ x0 / 2 ^ r := Int.ediv_nonneg r0.1 (Int.pow_nonneg (by omega))
        have h2 : x0 / 2 ^ r ≤ x0 := Int.ediv_le_self _ r0.1
        unfold wrap64
        omega
      have HA : Hid (bits BinOp.and IntKind.i64 (x0 / 2 ^ r) 1 = x0 / 2 ^ r % 2) := and_one _ (Int.ediv_nonneg r0.1 (Int.pow_nonneg (by omega))) (by have := Int.ediv_le_self (2 ^ r) r0.1; omega)
      have HSH := hide hsh
      have HS := hide (row_setI (q := k) (x := (fun i => bs.getD (i / 8) 0 / 2 ^ (i % 8) % 2) k) (unhide HR))
      rw [fillL_next (fun i => bs.getD (i / 8) 0 / 2 ^ (i % 8) % 2) n k hlt, unhide HE] at HS
      have HS2 := hide (below_set (q := k) (v := .int .i64 (x0 / 2 ^ r % 2)) (unhide HB) (Nat.le_refl _))
      clear hcc hq hr8 hsh
      go_wp2
      rw [unhide HSH, unhide HA]
      go_roundw
      case rel => exact ⟨k + 1, by omega, by go_num, unhide HS, unhide HS2⟩
      case measure => simp [intOf]; omega
    · obtain rfl : k = n := by omega
      go_wp2
      go_ret
      refine ⟨_, rfl, Nat.le_refl _, ?_, unhide HB⟩
      have := unhide HR
      rw [fillL_all] at this
      exact this
end Go.Proofs.YtfekelmldebplaaGreatDoor

namespace Go.Proofs.YtfekelmldebplaaGreatDoor
open Go.RowKit

theorem isCount_any (n : Nat) (m : Nat) (w : World) : Calls Tryz.prog 217 #[.int .i64 n, .int .i64 m] w fun e w' => e = .returned (.bool (countB n m)) ∧ w' = w := by
  by_cases h0 : 1 ≤ n
  · have h0' : decide ((1 : Int) ≤ (n : Int)) = true := by simp; omega
    go_enter Tryz.func217, Tryz.ntmps217
    go_wp2
    go_ret
    exact ⟨ret_bool (by simp [countB, h0]), rfl⟩
  · have h0' : decide ((1 : Int) ≤ (n : Int)) = false := by simp; omega
    go_enter Tryz.func217, Tryz.ntmps217
    go_wp2
    go_ret
    exact ⟨ret_bool (by simp [countB, h0]), rfl⟩

/-- An error with a refusal in it, under so many layers. -/
def ErrAt (w : World) (f x : Int) : Nat → Value → Prop
  | 0, v => ∃ r, v = .iface 154 (.pointer (some ⟨r, 0, none⟩)) ∧ w.heap[r]? = some (.cells #[.int .u8 f, .int .u8 x] 216 (0, 0))
  | n + 1, v => ∃ l s u, v = .iface 278 (.pointer (some ⟨l, 0, none⟩)) ∧ w.heap[l]? = some (.cells #[.string s, u] 280 (0, 0)) ∧ ErrAt w f x n u
theorem ErrAt.below {w w' : World} {f x : Int} (hb : Below w.heap.size w w') : ∀ {n : Nat} {v : Value}, ErrAt w f x n v → ErrAt w' f x n v
  | 0, _, ⟨r, e, h⟩ => ⟨r, e, (hb.block _ (Array.getElem?_eq_some_iff.1 h).1).trans h⟩
  | _ + 1, _, ⟨l, s, u, e, h, k⟩ => ⟨l, s, u, e, (hb.block _ (Array.getElem?_eq_some_iff.1 h).1).trans h, ErrAt.below hb k⟩
theorem ErrAt.iface {w : World} {f x : Int} {n : Nat} {v : Value} (h : ErrAt w f x n v) : ∃ T p, v = .iface T (.pointer (some ⟨p, 0, none⟩)) := by
  cases n with
  | zero => obtain ⟨r, e, _⟩ := h; exact ⟨_, _, e⟩
  | succ n => obtain ⟨l, s, u, e, _⟩ := h; exact ⟨_, _, e⟩

theorem wrap_some (s : ByteArray) (v : Value) (f x : Int) (n : Nat) (w : World) (h : ErrAt w f x n v) : Calls Tryz.prog 106 #[.string s, v] w fun e w' => ∃ v', e = .returned v' ∧ ErrAt w' f x (n + 1) v' ∧ Below w.heap.size w w' := by
  obtain ⟨T, p, rfl⟩ := h.iface
  have H := hide h
  clear h
  go_enter Tryz.func106, Tryz.ntmps106
  go_wp2
  go_ret
  have hb : Below w.heap.size w (w.alloc (.cells #[.string s, .iface T (.pointer (some ⟨p, 0, none⟩))] 280)) := (Below.refl _ _).alloc (Nat.le_refl _) _
  exact ⟨_, rfl, ⟨w.heap.size, s, _, rfl, heap_alloc_new w _, (unhide H).below hb⟩, hb⟩

/-- The cells of a request. -/
def rrow (f t ra rc wa wc : Int) (vv : Value) (k : Int) (ve : Value) : Array Value := #[.int .u8 f, .int .i64 t, .int .i64 ra, .int .i64 rc, .int .i64 wa, .int .i64 wc, vv, .int .i64 k, ve]

theorem refuse_any (f t ra rc wa wc : Int) (vv : Value) (k : Int) (ve : Value) (x : Int) (w : World) : Calls Tryz.prog 189 #[.agg (rrow f t ra rc wa wc vv k ve), .int .u8 x] w fun e w' => ∃ v', e = .returned v' ∧ ErrAt w' f x 0 v' ∧ Below w.heap.size w w' := by
  unfold rrow
  go_enter Tryz.func189, Tryz.ntmps189
  go_wp2
  go_ret
  have hb : Below w.heap.size w (w.alloc (.cells #[.int .u8 f, .int .i64 t, .int .i64 ra, .int .i64 rc, .int .i64 wa, .int .i64 wc, vv, .int .i64 k, ve] 273)) := (Below.refl _ _).alloc (Nat.le_refl _) _
  exact ⟨_, rfl, ⟨_, rfl, by have q := heap_alloc_new (w.alloc (.cells #[.int .u8 f, .int .i64 t, .int .i64 ra, .int .i64 rc, .int .i64 wa, .int .i64 wc, vv, .int .i64 k, ve] 273)) (.cells #[.int .u8 f, .int .u8 x] 216); simpa using q⟩, hb.alloc hb.size _⟩

/-- The cells of a request, as they lie. -/
structure RAt (w : World) (rp : Nat) (f t ra rc wa wc : Int) (vv : Value) (k : Int) (ve : Value) : Prop where
  row : w.heap[rp]? = some (.cells (rrow f t ra rc wa wc vv k ve) 273 (0, 0))

set_option maxRecDepth 10000 in
set_option maxHeartbeats 1000000 in
theorem wrong_any (rp : Nat) (f t ra rc wa wc : Int) (vv : Value) (k : Int) (ve : Value) (s : ByteArray) (w : World) (h : RAt w rp f t ra rc wa wc vv k ve) : Calls Tryz.prog 219 #[.pointer (some ⟨rp, 0, none⟩), .string s] w fun e w' => ∃ n v', e = .returned v' ∧ ErrAt w' f 3 n v' ∧ Below w.heap.size w w' := by
  have c0 := cell_of_row _ _ 0 _ _ _ h.row
  have c1 := cell_of_row _ _ 1 _ _ _ h.row
  have c2 := cell_of_row _ _ 2 _ _ _ h.row
  have c3 := cell_of_row _ _ 3 _ _ _ h.row
  have c4 := cell_of_row _ _ 4 _ _ _ h.row
  have c5 := cell_of_row _ _ 5 _ _ _ h.row
  have c6 := cell_of_row _ _ 6 _ _ _ h.row
  have c7 := cell_of_row _ _ 7 _ _ _ h.row
  have c8 := cell_of_row _ _ 8 _ _ _ h.row
  simp [rrow] at c0 c1 c2 c3 c4 c5 c6 c7 c8
  clear h
  go_enter Tryz.func219, Tryz.ntmps219
  go_wp2_with fail
  refine (refuse_any f t ra rc wa wc vv k ve 3 w).mono ?_
  rintro e w1 ⟨v1, rfl, h1, hb1⟩
  obtain ⟨T, p, rfl⟩ := h1.iface
  have H1 := hide h1
  clear h1 c0 c1 c2 c3 c4 c5 c6 c7 c8
  go_wp2_with fail
  refine (wrap_some s _ f 3 0 w1 (unhide H1)).mono ?_
  rintro e w2 ⟨v2, rfl, h2, hb2⟩
  obtain ⟨T2, p2, rfl⟩ := h2.iface
  have H2 := hide h2
  clear h2
  go_wp2
  go_ret
  exact ⟨_, _, rfl, unhide H2, bl_trans hb1 hb2⟩
theorem wrongSize_any (rp : Nat) (f t ra rc wa wc : Int) (vv : Value) (k : Int) (ve : Value) (w : World) (h : RAt w rp f t ra rc wa wc vv k ve) : Calls Tryz.prog 216 #[.pointer (some ⟨rp, 0, none⟩)] w fun e w' => ∃ n v', e = .returned v' ∧ ErrAt w' f 3 n v' ∧ Below w.heap.size w w' := by
  have HW := hide (fun s => wrong_any rp f t ra rc wa wc vv k ve s w h)
  clear h
  go_enter Tryz.func216, Tryz.ntmps216
  go_wp2_with fail
  refine (unhide HW _).mono ?_
  rintro e w1 ⟨n, v1, rfl, h1, hb1⟩
  obtain ⟨T, p, rfl⟩ := h1.iface
  have H1 := hide h1
  clear h1 HW
  go_wp2
  go_ret
  exact ⟨_, _, rfl, unhide H1, hb1⟩
theorem wrongCount_any (rp : Nat) (f t ra rc wa wc : Int) (vv : Value) (k : Int) (ve : Value) (w : World) (h : RAt w rp f t ra rc wa wc vv k ve) : Calls Tryz.prog 218 #[.pointer (some ⟨rp, 0, none⟩)] w fun e w' => ∃ n v', e = .returned v' ∧ ErrAt w' f 3 n v' ∧ Below w.heap.size w w' := by
  have HW := hide (fun s => wrong_any rp f t ra rc wa wc vv k ve s w h)
  clear h
  go_enter Tryz.func218, Tryz.ntmps218
  go_wp2_with fail
  refine (unhide HW _).mono ?_
  rintro e w1 ⟨n, v1, rfl, h1, hb1⟩
  obtain ⟨T, p, rfl⟩ := h1.iface
  have H1 := hide h1
  clear h1 HW
  go_wp2
  go_ret
  exact ⟨_, _, rfl, unhide H1, hb1⟩
end Go.Proofs.YtfekelmldebplaaGreatDoor

namespace Go.Proofs.YtfekelmldebplaaGreatDoor
open Go.RowKit

theorem Lies.slice {w : World} {v : Value} {bs : List Int} (h : Lies w v bs) : ∃ a c, v = .slice a bs.length c := by
  rcases h with ⟨a, c, rfl, rfl⟩ | ⟨b, o, c, rfl, _⟩
  · exact ⟨_, _, rfl⟩
  · exact ⟨_, _, rfl⟩

theorem split_no (v : Value) (bs : List Int) (n : Nat) (w : World) (h : Lies w v bs) (hn : n ≤ 4) (hl : bs.length < 2 * n) :
    Calls Tryz.prog 215 #[v, .int .i64 n] w fun e w' => e = .returned (.tuple #[.slice none 0 0, .slice none 0 0, .bool false]) ∧ w' = w := by
  obtain ⟨a, c, rfl⟩ := h.slice
  have hl' : (bs.length : Int) < 2 * (n : Int) := by omega
  clear h
  go_enter Tryz.func215, Tryz.ntmps215
  go_wp2_with (go_at_call 223; refine (wsize_any _ _ (by omega)).mono ?_; rintro e w ⟨rfl, rfl⟩)
  refine bodyPost_ret (by simp [results, Tryz.results215]) rfl ⟨rfl, rfl⟩

/-- Bytes behind the first ones. -/
theorem lies_drop {w : World} {b o c n : Nat} {bs : List Int} (h : Lies w (.slice (some ⟨b, o, none⟩) bs.length c) bs) (hn : n ≤ bs.length) (hlt : n < c) : Lies w (.slice (some ⟨b, o + n, none⟩) (bs.length - n) (c - n)) (bs.drop n) := by
  rcases h with ⟨a, c', e, rfl⟩ | ⟨b', o', c', e, h1, h2, h3⟩
  · cases e
    exact .inl ⟨some ⟨b, o + n, none⟩, c - n, by simp, by simp⟩
  · cases e
    refine .inr ⟨b, o + n, c - n, by simp, by simp; omega, ?_, fun i hi => ?_⟩
    · rcases h2 with rfl | h2
      · exact .inl (by simp)
      · exact .inr h2
    · have hi' : n + i < bs.length := by simp at hi; omega
      have := h3 (n + i) hi'
      rw [Nat.add_assoc, this]
      simp [List.getD]

/-- What Unpack gives. -/
structure UnpAt (w w' : World) (xs : List Int) (g : Nat) : Prop where
  lo : w.heap.size ≤ g
  row : w'.heap[g]? = some (.cells (xs.map (Value.int .i64)).toArray 3 (0, 0))
  bel : Below w.heap.size w w'
theorem unpW (v : Value) (bs : List Int) (n : Nat) (w w1 : World) (h : Lies w v bs) (hx : Bys bs) (hn : 2 * n ≤ bs.length) (hm : n ≤ 1000) (hb : Below w.heap.size w w1) :
    Calls Tryz.prog 224 #[v, .int .i64 n] w1 fun e w' => ∃ g, e = .returned (.slice (some ⟨g, 0, none⟩) n n) ∧ UnpAt w1 w' (unpackW bs n) g := by
  refine (wordsUnpack_any v bs n w1 (h.below hb) hx hn hm).mono ?_
  rintro e w' ⟨g, rfl, h1, h2, h3⟩
  exact ⟨g, rfl, h1, h2, h3⟩
theorem unpB (v : Value) (bs : List Int) (n : Nat) (w w1 : World) (h : Lies w v bs) (hx : Bys bs) (hn : (n + 7) / 8 ≤ bs.length) (hm : n ≤ 2000) (hb : Below w.heap.size w w1) :
    Calls Tryz.prog 222 #[v, .int .i64 n] w1 fun e w' => ∃ g, e = .returned (.slice (some ⟨g, 0, none⟩) n n) ∧ UnpAt w1 w' (unpackB bs n) g := by
  refine (bitsUnpack_any v bs n w1 (h.below hb) hx hn hm).mono ?_
  rintro e w' ⟨g, rfl, h1, h2, h3⟩
  exact ⟨g, rfl, h1, h2, h3⟩

/-- What split gives. -/
structure SplitAt (w w' : World) (v : Value) (bs : List Int) (n : Nat) (k : Nat) (vr : Value) : Prop where
  lo : w.heap.size ≤ k
  row : w'.heap[k]? = some (.cells ((unpackW bs n).map (Value.int .i64)).toArray 3 (0, 0))
  rest : Lies w' vr (bs.drop (2 * n))
  own : vr.ownBlock = v.ownBlock
  bel : Below w.heap.size w w'

set_option maxRecDepth 10000 in
set_option maxHeartbeats 1000000 in
theorem split_yes (v : Value) (bs : List Int) (n : Nat) (w : World) (h : Lies w v bs) (hx : Bys bs) (h1 : 1 ≤ n) (hn : n ≤ 4) (hl : 2 * n ≤ bs.length) (_hm : bs.length ≤ 1000) :
    Calls Tryz.prog 215 #[v, .int .i64 n] w fun e w' => ∃ k a m c, e = .returned (.tuple #[.slice (some ⟨k, 0, none⟩) n n, .slice a m c, .bool true]) ∧ SplitAt w w' v bs n k (.slice a m c) := by
  obtain ⟨b, o, c, rfl, hlc, hbb, hcc⟩ := h.shape (fun e => by rw [e] at hl; simp at hl; omega)
  obtain ⟨N, hN⟩ : ∃ N, 2 * n = N := ⟨_, rfl⟩
  have HN := hide hN
  have H := hide h
  have HU : Hid (∀ w1, Below w.heap.size w w1 → Calls Tryz.prog 224 #[.slice (some ⟨b, o, none⟩) bs.length c, .int .i64 n] w1 fun e w' => ∃ g, e = .returned (.slice (some ⟨g, 0, none⟩) n n) ∧ UnpAt w1 w' (unpackW bs n) g) := fun w1 hb => unpW _ bs n w w1 h hx (by omega) (by omega) hb
  have hl' : (N : Int) ≤ (bs.length : Int) := by omega
  have hl2 : decide ((bs.length : Int) < (N : Int)) = false := by simp; omega
  have hlc' : (bs.length : Int) ≤ (c : Int) := by omega
  clear hN h hcc hx
  by_cases hcN : c = N
  · have hLN : bs.length = N := by omega
    have HLN := hide hLN
    have HLc := hide (hLN.trans hcN.symm)
    clear hlc hlc' hLN
    subst hcN
    have hNN : (bs.length : Int) = (c : Int) := by have := unhide HLN; omega
    have H2 : Hid (∀ w1 : World, Below w.heap.size w w1 → ∀ a, Lies w1 (.slice a (bs.length - c) (c - c)) (bs.drop (2 * n))) := fun w1 _ a => .inl ⟨a, _, by rw [unhide HLN, Nat.sub_self], by rw [unhide HN, ← unhide HLN]; simp⟩
    go_enter Tryz.func215, Tryz.ntmps215
    go_wp2_with (go_at_call 223; refine (wsize_n _ c _ (by omega) (unhide HN)).mono ?_; rintro e w ⟨rfl, rfl⟩)
    go_region_held3 (fun w' => Below w.heap.size w w')
      ((repeat (first
        | exact Below.refl _ _
        | assumption
        | refine Below.drew ?_
        | refine bl_trans ?_ (UnpAt.bel (by assumption)))))
      (first
        | (go_at_call 224; refine (unhide HU _ (by first | assumption | exact Below.refl _ _ | exact (Below.refl _ _).drew)).mono ?_; rintro e w1 ⟨g, rfl, hU⟩)
        | fail)
    rename_i hHeld
    go_wp2
    refine bodyPost_ret (v := .tuple #[.slice (some ⟨g, 0, none⟩) n n, .slice (some ⟨b, o, none⟩) (bs.length - c) 0, .bool true]) (by simp [results, Tryz.results215]) rfl ⟨g, some ⟨b, o, none⟩, bs.length - c, 0, rfl, hU.lo, hU.row, ?_, rfl, hHeld⟩
    have := unhide H2 _ hHeld (some ⟨b, o, none⟩)
    rw [Nat.sub_self] at this
    exact this
  · have hlt : (N : Int) < (c : Int) := by have := unhide HN; omega
    have H2 : Hid (∀ w1 : World, Below w.heap.size w w1 → Lies w1 (.slice (some ⟨b, o + N, none⟩) (bs.length - N) (c - N)) (bs.drop (2 * n))) := fun w1 hb => by
      rw [unhide HN]
      exact lies_drop ((unhide H).below hb) (by omega) (by omega)
    go_enter Tryz.func215, Tryz.ntmps215
    go_wp2_with (go_at_call 223; refine (wsize_n _ N _ (by omega) (unhide HN)).mono ?_; rintro e w ⟨rfl, rfl⟩)
    go_region_held3 (fun w' => Below w.heap.size w w')
      ((repeat (first
        | exact Below.refl _ _
        | assumption
        | refine Below.drew ?_
        | refine bl_trans ?_ (UnpAt.bel (by assumption)))))
      (first
        | (go_at_call 224; refine (unhide HU _ (by first | assumption | exact Below.refl _ _ | exact (Below.refl _ _).drew)).mono ?_; rintro e w1 ⟨g, rfl, hU⟩)
        | fail)
    rename_i hHeld
    go_wp2
    exact bodyPost_ret (by simp [results, Tryz.results215]) rfl ⟨g, _, _, _, rfl, hU.lo, hU.row, unhide H2 _ hHeld, rfl, hHeld⟩

/-- Whether the first byte says how many stand behind it. -/
def sizedB (bs : List Int) (n : Nat) : Bool := decide (bs.length = 1 + n) && decide (bs.getD 0 0 = (n : Int))

set_option maxRecDepth 10000 in
set_option maxHeartbeats 400000 in
theorem sized_no (v : Value) (bs : List Int) (n : Nat) (w : World) (h : Lies w v bs) (hx : Bys bs) (hm : bs.length ≤ 1000) (hn : n ≤ 10000) (hs : sizedB bs n = false) :
    Calls Tryz.prog 225 #[v, .int .i64 n] w fun e w' => e = .returned (.tuple #[.slice none 0 0, .bool false]) ∧ Below w.heap.size w w' := by
  obtain ⟨a, c, rfl⟩ := h.slice
  by_cases hl : bs.length = 1 + n
  · obtain ⟨b, o, c2, e1, _, hbl, hcc⟩ := h.shape (fun e => by rw [e] at hl; simp at hl; omega)
    cases e1
    have c0 := hcc 0 (by omega)
    rw [Nat.add_zero] at c0
    have r0 := hx.at 0
    have hne : bs.getD 0 0 ≠ (n : Int) := by
      simp only [sizedB, hl, decide_true, Bool.true_and, decide_eq_false_iff_not] at hs
      exact hs
    have hl' : (bs.length : Int) = 1 + (n : Int) := by omega
    have hp : (0 : Int) < (bs.length : Int) := by omega
    generalize bs.getD 0 0 = y at c0 r0 hne
    have hne' : (y != (n : Int)) = true := by simpa using hne
    clear h hcc hs hx
    go_enter Tryz.func225, Tryz.ntmps225
    go_wp2
    refine bodyPost_ret (by simp [results, Tryz.results225]) rfl ⟨rfl, by first | exact Below.refl _ _ | exact (Below.refl _ _).drew⟩
  · have hl' : ((bs.length : Int) != 1 + (n : Int)) = true := by simp; omega
    clear h hs hx
    go_enter Tryz.func225, Tryz.ntmps225
    go_wp2
    refine bodyPost_ret (by simp [results, Tryz.results225]) rfl ⟨rfl, by first | exact Below.refl _ _ | exact (Below.refl _ _).drew⟩

set_option maxRecDepth 10000 in
set_option maxHeartbeats 400000 in
theorem sized_yes (v : Value) (bs : List Int) (n : Nat) (w : World) (h : Lies w v bs) (hx : Bys bs) (hm : bs.length ≤ 1000) (hn : 1 ≤ n) (hs : sizedB bs n = true) :
    Calls Tryz.prog 225 #[v, .int .i64 n] w fun e w' => ∃ a m c, e = .returned (.tuple #[.slice a m c, .bool true]) ∧ Lies w' (.slice a m c) (bs.drop 1) ∧ (Value.slice a m c).ownBlock = v.ownBlock ∧ Below w.heap.size w w' := by
  have hl : bs.length = 1 + n := by simp [sizedB] at hs; exact hs.1
  have hy : bs.getD 0 0 = (n : Int) := by
    have := (Bool.and_eq_true_iff.1 hs).2
    simpa using this
  obtain ⟨b, o, c, rfl, hlc, hbl, hcc⟩ := h.shape (fun e => by rw [e] at hl; simp at hl; omega)
  have c0 := hcc 0 (by omega)
  rw [Nat.add_zero, hy] at c0
  have r0 : (0 : Int) ≤ (n : Int) ∧ (n : Int) < 256 := by have := hx.at 0; rw [hy] at this; exact this
  have H2 : Hid (Lies w (.slice (some ⟨b, o + 1, none⟩) n (c - 1)) (bs.drop 1)) := by
    have := lies_drop (n := 1) h (by omega) (by omega)
    rw [show bs.length - 1 = n by omega] at this
    exact this
  have hl' : (bs.length : Int) = 1 + (n : Int) := by omega
  have hp : (0 : Int) < (bs.length : Int) := by omega
  have hlc' : (bs.length : Int) ≤ (c : Int) := by omega
  have h1c : (1 : Int) < (c : Int) := by omega
  clear h hcc hs hx hy
  go_enter Tryz.func225, Tryz.ntmps225
  go_wp2
  exact bodyPost_ret (by simp [results, Tryz.results225]) rfl ⟨_, _, _, rfl, unhide H2, rfl, Below.refl _ _⟩

set_option maxRecDepth 10000 in
set_option maxHeartbeats 400000 in
theorem ahead_any (v : Value) (bs : List Int) (a : Option Addr) (m c : Nat) (w : World) (h : Lies w v bs) (hb : bs ≠ []) (hm : m ≤ bs.length) (hl : bs.length ≤ 1000) :
    Calls Tryz.prog 234 #[v, .slice a m c] w fun e w' => ∃ v', e = .returned v' ∧ Lies w' v' (bs.take (bs.length - m)) ∧ v'.ownBlock = v.ownBlock ∧ (∃ a' m' c', v' = .slice a' m' c') ∧ Below w.heap.size w w' := by
  obtain ⟨b, o, d, rfl, hlc, hbl, hcc⟩ := h.shape hb
  have hm' : (m : Int) ≤ (bs.length : Int) := by omega
  have hlc' : (bs.length : Int) ≤ (d : Int) := by omega
  obtain ⟨k, hk⟩ : ∃ k, bs.length - m = k := ⟨_, rfl⟩
  have hki : (bs.length : Int) - (m : Int) = (k : Int) := by omega
  have H2 : Hid (Lies w (.slice (some ⟨b, o, none⟩) k d) (bs.take k)) := by
    refine .inr ⟨b, o, d, by rw [List.length_take, Nat.min_eq_left (by omega)], by rw [List.length_take]; omega, .inr hbl, fun i hi => ?_⟩
    have hi2 : i < k := by rw [List.length_take] at hi; omega
    rw [hcc i (by omega), getD_take _ _ _ hi2]
  rw [hk]
  have hkd : (k : Int) ≤ (d : Int) := by omega
  clear h hcc hk
  go_enter Tryz.func234, Tryz.ntmps234
  go_wp2
  go_ret
  exact ⟨_, rfl, unhide H2, rfl, ⟨_, _, _, rfl⟩, by first | exact Below.refl _ _ | exact (Below.refl _ _).drew⟩
end Go.Proofs.YtfekelmldebplaaGreatDoor

namespace Go.Proofs.YtfekelmldebplaaGreatDoor
open Go.RowKit

theorem Lies.len {w : World} {a : Option Addr} {m c : Nat} {xs : List Int} (h : Lies w (.slice a m c) xs) : m = xs.length := by
  rcases h with ⟨a, c, e, rfl⟩ | ⟨b, o, c, e, _⟩
  · cases e; rfl
  · cases e; rfl

/-- What parse leaves. -/
def PPost (w : World) (rp : Nat) (f : Int) (v : Value) (res : Int ⊕ Req) (e : Ending) (w' : World) : Prop :=
  Chg w w' (fun k => k = rp) ∧ match res with
  | .inl x => ∃ n T p, e = .returned (.iface T (.pointer (some ⟨p, 0, none⟩))) ∧ ErrAt w' f x n (.iface T (.pointer (some ⟨p, 0, none⟩)))
  | .inr q => ∃ vv ve, e = .returned .nilIface ∧ RAt w' rp q.f q.t q.ra q.rc q.wa q.wc vv q.keep ve ∧ LiesI w' vv q.vals ∧ Lies w' ve q.echo ∧ (∀ b, vv.ownBlock = some b → w.heap.size ≤ b) ∧ (∀ b, ve.ownBlock = some b → v.ownBlock = some b)
theorem PPost.err {w w' : World} {rp : Nat} {f x : Int} {n : Nat} {T : TypeId} {p : Nat} {v : Value} {res : Int ⊕ Req} (hr : res = .inl x) (h : ErrAt w' f x n (.iface T (.pointer (some ⟨p, 0, none⟩)))) (hb : Below w.heap.size w w') : PPost w rp f v res (.returned (.iface T (.pointer (some ⟨p, 0, none⟩)))) w' := by
  subst hr
  exact ⟨Chg.of_below hb _, n, T, p, rfl, h⟩
theorem PPost.err2 {w w1 w' : World} {rp : Nat} {f x : Int} {n : Nat} {T : TypeId} {p : Nat} {v : Value} {res : Int ⊕ Req} (hr : res = .inl x) (h : ErrAt w' f x n (.iface T (.pointer (some ⟨p, 0, none⟩)))) (hc : Chg w w1 (fun k => k = rp)) (hb : Below w1.heap.size w1 w') : PPost w rp f v res (.returned (.iface T (.pointer (some ⟨p, 0, none⟩)))) w' := by
  subst hr
  exact ⟨hc.trans (Chg.of_below hb (fun _ => False)) (fun _ e _ => e.elim), n, T, p, rfl, h⟩
/-- A request as it is at first. -/
def QNew (w : World) (rp : Nat) (f : Int) : Prop := RAt w rp f 0 0 0 0 0 (.slice none 0 0) 0 (.slice none 0 0)
theorem RAt.below {w w' : World} {rp : Nat} {f t ra rc wa wc : Int} {vv : Value} {k : Int} {ve : Value} (h : RAt w rp f t ra rc wa wc vv k ve) (hb : Below w.heap.size w w') : RAt w' rp f t ra rc wa wc vv k ve :=
  ⟨(hb.block _ (Array.getElem?_eq_some_iff.1 h.row).1).trans h.row⟩
theorem rule_new (w : World) (o : Obj) : Below w.heap.size w (w.alloc o) := (Below.refl _ _).alloc (Nat.le_refl _) _
theorem unpW_at (bs : List Int) (n k : Nat) (w : World) (g : Nat) (h : w.heap[g]? = some (.cells ((unpackW bs n).map (Value.int .i64)).toArray 3 (0, 0))) (hk : k < n) : w.cell? ⟨g, k, none⟩ = some (.int .i64 (wAt bs k)) := by
  rw [rowI_cell h k (by rw [unpackW_len]; exact hk)]
  simp [unpackW, List.getD, hk]

theorem Chg.drew {w w' : World} {D : Nat → Prop} (h : Chg w w' D) : Chg w w'.drew D := ⟨h.os, h.tape, h.output, h.size, h.block⟩
theorem Chg.put {w w' : World} {D : Nat → Prop} (h : Chg w w' D) (g i : Nat) (v : Value) (hg : D g) : Chg w (w'.setCell ⟨g, i, none⟩ v) D := h.trans (Chg.set w' g i v) (fun _ e _ => by rw [show _ = g from e]; exact hg)
theorem Chg.new {w w' : World} {D : Nat → Prop} (h : Chg w w' D) (o : Obj) : Chg w (w'.alloc o) D := h.trans (Chg.of_below (rule_new w' o) (fun _ => False)) (fun _ e _ => e.elim)
set_option maxRecDepth 10000 in
set_option maxHeartbeats 1000000 in
theorem parseRead_any (rp : Nat) (f : Int) (t most : Nat) (v : Value) (bs : List Int) (w : World) (hr : QNew w rp f) (h : Lies w v bs) (hx : Bys bs) (hl : bs.length ≤ 252) :
    Calls Tryz.prog 201 #[.pointer (some ⟨rp, 0, none⟩), v, .int .i64 t, .int .i64 most] w fun e w' => PPost w rp f v (parseRead f bs t most) e w' := by
  obtain ⟨av, cv, rfl⟩ := h.slice
  by_cases h4 : bs.length < 4
  · have HR : Hid (parseRead f bs t most = .inl 3) := by
      show _ = _
      unfold parseRead
      rw [if_neg (by omega)]
    have HS := hide (split_no _ bs 2 w h (by omega) h4)
    rw [show ((2 : Nat) : Int) = 2 from rfl] at HS
    have HW := hide (wrongSize_any rp _ _ _ _ _ _ _ _ _ w hr)
    clear h hr hx
    go_enter Tryz.func201, Tryz.ntmps201
    go_wp2_with fail
    refine (unhide HS).mono ?_
    rintro e w ⟨rfl, rfl⟩
    clear HS
    go_wp2_with fail
    refine (unhide HW).mono ?_
    rintro e w1 ⟨n, v', rfl, he, hb⟩
    obtain ⟨T, p, rfl⟩ := he.iface
    have HE := hide he
    clear he HW
    go_wp2
    go_ret
    exact PPost.err (unhide HR) (unhide HE) hb
  · have HS := hide (split_yes _ bs 2 w h hx (by omega) (by omega) (by omega) (by omega))
    rw [show ((2 : Nat) : Int) = 2 from rfl] at HS
    have HR0 := hide hr
    have H := hide h
    have HX := hide hx
    clear h hr hx
    clear H HX
    by_cases h5 : bs.length = 4
    · cases hc : countB (wAt bs 1) most with
      | false =>
        have HR : Hid (parseRead f bs t most = .inl 3) := by
          show _ = _
          unfold parseRead
          rw [if_neg (by rw [hc]; simp)]
        have HC : Hid (∀ w, Calls Tryz.prog 217 #[.int .i64 (wAt bs 1 : Nat), .int .i64 most] w fun e w' => e = .returned (.bool false) ∧ w' = w) := fun w => by
          have := isCount_any (wAt bs 1) most w
          rw [hc] at this
          exact this
        have H5 := hide h5
        clear hc h5
        go_enter Tryz.func201, Tryz.ntmps201
        go_wp2_with fail
        refine (unhide HS).mono ?_
        rintro e w1 ⟨k, a, m, c, rfl, hs⟩
        have hm : m = 0 := by
          have := hs.rest.len
          have h5 := unhide H5
          simp at this
          omega
        have q1 := unpW_at bs 2 1 w1 k hs.row (by omega)
        have HW := hide (wrongCount_any rp _ _ _ _ _ _ _ _ _ w1 ((unhide HR0).below hs.bel))
        have HS1 := hide hs
        subst hm
        clear hs HS
        go_wp2_with (go_at_call 217; refine (unhide HC _).mono ?_; rintro e w1 ⟨rfl, rfl⟩)
        refine (unhide HW).mono ?_
        rintro e w2 ⟨n, v', rfl, he, hb⟩
        obtain ⟨T, p, rfl⟩ := he.iface
        have HE := hide he
        clear he HW
        go_wp2
        go_ret
        exact PPost.err (unhide HR) (unhide HE) (bl_trans (unhide HS1).bel hb)
      | true =>
        have HQ : Hid (parseRead f bs t most = .inr ⟨f, t, wAt bs 0, wAt bs 1, 0, 0, [], 0, []⟩) := by
          show _ = _
          unfold parseRead
          rw [if_pos ⟨h5, hc⟩]
        have HC : Hid (∀ w, Calls Tryz.prog 217 #[.int .i64 (wAt bs 1 : Nat), .int .i64 most] w fun e w' => e = .returned (.bool true) ∧ w' = w) := fun w => by
          have := isCount_any (wAt bs 1) most w
          rw [hc] at this
          exact this
        have H5 := hide h5
        clear hc h5
        go_enter Tryz.func201, Tryz.ntmps201
        go_wp2_with fail
        refine (unhide HS).mono ?_
        rintro e w1 ⟨k, a, m, c, rfl, hs⟩
        have hm : m = 0 := by
          have := hs.rest.len
          have h5 := unhide H5
          simp at this
          omega
        have hr1 := (unhide HR0).below hs.bel
        have q0 := unpW_at bs 2 0 w1 k hs.row (by omega)
        have q1 := unpW_at bs 2 1 w1 k hs.row (by omega)
        have c1 := cell_of_row _ _ 1 _ _ _ hr1.row
        have f1 := frozen_of_row _ _ 1 _ _ hr1.row
        have c2 := cell_of_row _ _ 2 _ _ _ hr1.row
        have f2 := frozen_of_row _ _ 2 _ _ hr1.row
        have c3 := cell_of_row _ _ 3 _ _ _ hr1.row
        have f3 := frozen_of_row _ _ 3 _ _ hr1.row
        simp [rrow] at c1 c2 c3
        have HS1 := hide hs
        have HR1 := hide hr1
        subst hm
        clear hs hr1 HS
        have hlr : rp < w.heap.size := (Array.getElem?_eq_some_iff.1 (unhide HR0).row).1
        have hlk := (unhide HS1).lo
        have hne : k ≠ rp := by omega
        have hne' : rp ≠ k := by omega
        go_wp2_with (go_at_call 217; refine (unhide HC _).mono ?_; rintro e w1 ⟨rfl, rfl⟩)
        go_region
        go_wp2
        go_ret
        refine ⟨((((Chg.of_below (unhide HS1).bel (fun k => k = rp)).put rp 1 _ rfl).put rp 2 _ rfl).put rp 3 _ rfl).drew, ?_⟩
        rw [unhide HQ]
        refine ⟨_, _, rfl, ⟨?_⟩, ⟨none, 0, rfl, .inl rfl⟩, .inl ⟨none, 0, rfl, rfl⟩, fun b e => by simp [Value.ownBlock] at e, fun b e => by simp [Value.ownBlock] at e⟩
        exact heap_setCell_same _ rp 3 _ _ _ (heap_setCell_same _ rp 2 _ _ _ (heap_setCell_same _ rp 1 _ _ _ (unhide HR1).row))
    · have h5' : 4 < bs.length := by omega
      have HR : Hid (parseRead f bs t most = .inl 3) := by
        show _ = _
        unfold parseRead
        rw [if_neg (by omega)]
      go_enter Tryz.func201, Tryz.ntmps201
      go_wp2_with fail
      refine (unhide HS).mono ?_
      rintro e w1 ⟨k, a, m, c, rfl, hs⟩
      have hm : (0 : Int) < (m : Int) := by
        have := hs.rest.len
        simp at this
        omega
      have HW := hide (wrongSize_any rp _ _ _ _ _ _ _ _ _ w1 ((unhide HR0).below hs.bel))
      have HS1 := hide hs
      clear hs HS
      go_wp2_with fail
      refine (unhide HW).mono ?_
      rintro e w2 ⟨n, v', rfl, he, hb⟩
      obtain ⟨T, p, rfl⟩ := he.iface
      have HE := hide he
      clear he HW
      go_wp2
      go_ret
      exact PPost.err (unhide HR) (unhide HE) (bl_trans (unhide HS1).bel hb)


theorem RAt.lt {w : World} {rp : Nat} {f t ra rc wa wc : Int} {vv : Value} {k : Int} {ve : Value} (h : RAt w rp f t ra rc wa wc vv k ve) : rp < w.heap.size := (Array.getElem?_eq_some_iff.1 h.row).1
theorem RAt.s1 {w : World} {rp : Nat} {f t ra rc wa wc : Int} {vv : Value} {k : Int} {ve : Value} (h : RAt w rp f t ra rc wa wc vv k ve) (x : Int) : RAt (w.setCell ⟨rp, 1, none⟩ (.int .i64 x)) rp f x ra rc wa wc vv k ve := ⟨heap_setCell_same _ rp 1 _ _ _ h.row⟩
theorem RAt.s2 {w : World} {rp : Nat} {f t ra rc wa wc : Int} {vv : Value} {k : Int} {ve : Value} (h : RAt w rp f t ra rc wa wc vv k ve) (x : Int) : RAt (w.setCell ⟨rp, 2, none⟩ (.int .i64 x)) rp f t x rc wa wc vv k ve := ⟨heap_setCell_same _ rp 2 _ _ _ h.row⟩
theorem RAt.s3 {w : World} {rp : Nat} {f t ra rc wa wc : Int} {vv : Value} {k : Int} {ve : Value} (h : RAt w rp f t ra rc wa wc vv k ve) (x : Int) : RAt (w.setCell ⟨rp, 3, none⟩ (.int .i64 x)) rp f t ra x wa wc vv k ve := ⟨heap_setCell_same _ rp 3 _ _ _ h.row⟩
theorem RAt.s4 {w : World} {rp : Nat} {f t ra rc wa wc : Int} {vv : Value} {k : Int} {ve : Value} (h : RAt w rp f t ra rc wa wc vv k ve) (x : Int) : RAt (w.setCell ⟨rp, 4, none⟩ (.int .i64 x)) rp f t ra rc x wc vv k ve := ⟨heap_setCell_same _ rp 4 _ _ _ h.row⟩
theorem RAt.s5 {w : World} {rp : Nat} {f t ra rc wa wc : Int} {vv : Value} {k : Int} {ve : Value} (h : RAt w rp f t ra rc wa wc vv k ve) (x : Int) : RAt (w.setCell ⟨rp, 5, none⟩ (.int .i64 x)) rp f t ra rc wa x vv k ve := ⟨heap_setCell_same _ rp 5 _ _ _ h.row⟩
theorem RAt.s6 {w : World} {rp : Nat} {f t ra rc wa wc : Int} {vv : Value} {k : Int} {ve : Value} (h : RAt w rp f t ra rc wa wc vv k ve) (x : Value) : RAt (w.setCell ⟨rp, 6, none⟩ x) rp f t ra rc wa wc x k ve := ⟨heap_setCell_same _ rp 6 _ _ _ h.row⟩
theorem RAt.s7 {w : World} {rp : Nat} {f t ra rc wa wc : Int} {vv : Value} {k : Int} {ve : Value} (h : RAt w rp f t ra rc wa wc vv k ve) (x : Int) : RAt (w.setCell ⟨rp, 7, none⟩ (.int .i64 x)) rp f t ra rc wa wc vv x ve := ⟨heap_setCell_same _ rp 7 _ _ _ h.row⟩
theorem RAt.s8 {w : World} {rp : Nat} {f t ra rc wa wc : Int} {vv : Value} {k : Int} {ve : Value} (h : RAt w rp f t ra rc wa wc vv k ve) (x : Value) : RAt (w.setCell ⟨rp, 8, none⟩ x) rp f t ra rc wa wc vv k x := ⟨heap_setCell_same _ rp 8 _ _ _ h.row⟩
theorem Lies.chg {w w' : World} {v : Value} {xs : List Int} {D : Nat → Prop} (h : Lies w v xs) (c : Chg w w' D) (hD : ∀ b, v.ownBlock = some b → ¬ D b) : Lies w' v xs := h.kept c.size fun k hk e => c.block k hk (hD k e)
theorem lies_chgI {w w' : World} {v : Value} {xs : List Int} {D : Nat → Prop} (h : LiesI w v xs) (c : Chg w w' D) (hD : ∀ b, v.ownBlock = some b → ¬ D b) : LiesI w' v xs := by
  obtain ⟨a, cc, rfl, h⟩ := h
  refine ⟨a, cc, rfl, ?_⟩
  rcases h with h | ⟨b, o, e, hl, hc⟩
  · exact .inl h
  · exact .inr ⟨b, o, e, Nat.lt_of_lt_of_le hl c.size, fun i hi => by rw [← hc i hi]; exact World.cell?_of_block (c.block b hl (hD b (by rw [e]; rfl)))⟩
theorem rowI_lies {w : World} {g : Nat} {L : List Int} (h : w.heap[g]? = some (.cells (L.map (Value.int .i64)).toArray 3 (0, 0))) (o n c : Nat) (hn : o + n ≤ L.length) : LiesI w (.slice (some ⟨g, o, none⟩) n c) ((L.drop o).take n) := by
  have hl : ((L.drop o).take n).length = n := by simp; omega
  refine ⟨_, c, by rw [hl], .inr ⟨g, o, rfl, (Array.getElem?_eq_some_iff.1 h).1, fun i hi => ?_⟩⟩
  rw [hl] at hi
  rw [rowI_cell h (o + i) (by omega)]
  simp [List.getD, hi]
end Go.Proofs.YtfekelmldebplaaGreatDoor
