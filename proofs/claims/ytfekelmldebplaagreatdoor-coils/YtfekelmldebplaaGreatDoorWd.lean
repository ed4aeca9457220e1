import Derived.Test.YtfekelmldebplaaGreatDoorVh
import Derived.Test.YtfekelmldebplaaGreatDoorTr
import Derived.Test.YtfekelmldebplaaGreatDoorTh
import Derived.Test.YtfekelmldebplaaGreatDoorKa
import Derived.Test.YtfekelmldebplaaGreatDoorKb
namespace Go.Proofs.YtfekelmldebplaaGreatDoor
open Go.RowKit

/-- The function that reads a table. -/
def fnOf (t : Nat) : Int := if t = 0 then 1 else if t = 1 then 2 else if t = 2 then 4 else 3
/-- The request that reads n entries from a on. -/
def readQ (t a n : Nat) : Req := ⟨fnOf t, t, a, n, 0, 0, [], 0, []⟩
def readB (a n : Nat) : List Int := wd (a : Int) ++ wd (n : Int)
theorem readB_len (a n : Nat) : (readB a n).length = 4 := rfl
theorem readB_bys (a n : Nat) (ha : a ≤ 65535) (hn : n ≤ 65535) : Bys (readB a n) := (Bys.wd (by omega) (by omega)).append (Bys.wd (by omega) (by omega))
theorem readB_w0 (a n : Nat) (ha : a ≤ 65535) : wAt (readB a n) 0 = a := by
  show (256 * ((a : Int) / 256) + (a : Int) % 256).toNat = a
  omega
theorem readB_w1 (a n : Nat) (hn : n ≤ 65535) : wAt (readB a n) 1 = n := by
  show (256 * ((n : Int) / 256) + (n : Int) % 256).toNat = n
  omega
theorem parse_readQ (t a n : Nat) (ht : t < 4) (ha : a ≤ 65535) (hn1 : 1 ≤ n) (hn : n ≤ 125) : parseL (fnOf t) (readB a n) = .inr (readQ t a n) := by
  have w0 := readB_w0 a n ha
  have w1 := readB_w1 a n (by omega)
  have c1 : countB n 125 = true := by simp [countB]; omega
  have c2 : countB n 2000 = true := by simp [countB]; omega
  have hk : t = 0 ∨ t = 1 ∨ t = 2 ∨ t = 3 := by omega
  rcases hk with rfl | rfl | rfl | rfl
  · show parseRead 1 _ 0 2000 = _
    unfold parseRead
    rw [if_pos ⟨readB_len a n, by rw [w1]; exact c2⟩, w0, w1]
    rfl
  · show parseRead 2 _ 1 2000 = _
    unfold parseRead
    rw [if_pos ⟨readB_len a n, by rw [w1]; exact c2⟩, w0, w1]
    rfl
  · show parseRead 4 _ 2 125 = _
    unfold parseRead
    rw [if_pos ⟨readB_len a n, by rw [w1]; exact c1⟩, w0, w1]
    rfl
  · show parseRead 3 _ 3 125 = _
    unfold parseRead
    rw [if_pos ⟨readB_len a n, by rw [w1]; exact c1⟩, w0, w1]
    rfl
theorem parse_fn (t : Nat) (ht : t < 4) (rp : Nat) (v : Value) (bs : List Int) (w : World) (hr : QNew w rp (fnOf t)) (h : Lies w v bs) (hx : Bys bs) (hl : bs.length ≤ 252) :
    Calls Tryz.prog 188 #[.pointer (some ⟨rp, 0, none⟩), v] w fun e w' => PPost w rp (fnOf t) v (parseL (fnOf t) bs) e w' := by
  have hk : t = 0 ∨ t = 1 ∨ t = 2 ∨ t = 3 := by omega
  rcases hk with rfl | rfl | rfl | rfl
  · exact parse_1 rp v bs w hr h hx hl
  · exact parse_2 rp v bs w hr h hx hl
  · exact parse_4 rp v bs w hr h hx hl
  · exact parse_3 rp v bs w hr h hx hl
theorem carry_read (L : List Int) (t a n : Nat) : carryL L (readQ t a n) = L := by
  simp [carryL, readQ, spanL, writtenL, setL]
theorem told_read (t a n : Nat) (p : List Int) : toldL (readQ t a n) p = fnOf t :: (p.length : Int) :: p := by
  simp [toldL, readQ]
theorem mayAll (md : Bool) (t a n : Nat) (ht : t < 4) (han : a + n ≤ 65536) : mayB md allRules (t : Int) (a : Int) n = true := by
  unfold mayB
  rw [List.all_eq_true]
  intro k hk
  have hk' := List.mem_range.1 hk
  have hd : t = 0 ∨ t = 1 ∨ t = 2 ∨ t = 3 := by omega
  have e1 : decide ((0 : Int) ≤ (a : Int) + (k : Int)) = true := by simp; omega
  have e2 : decide ((a : Int) + (k : Int) ≤ 65535) = true := by simp; omega
  rcases hd with rfl | rfl | rfl | rfl <;> cases md <;> simp [allRules, lets, Rule.over, e1, e2] <;> omega
theorem exc_read (N t a n : Nat) (ht : t < 4) (hN : N ≤ 200) (han : a + n ≤ N) : excL N allRules (readQ t a n) = 0 := by
  unfold excL
  rw [if_pos, if_pos]
  · simp only [readQ, Bool.and_eq_true]
    exact ⟨mayAll false t a n ht (by omega), mayAll true t 0 0 ht (by omega)⟩
  · have h1 : hasB N (a : Int) (n : Int) = true := by
      simp only [hasB, Bool.and_eq_true, decide_eq_true_eq]
      omega
    have h2 : hasB N ((0 : Nat) : Int) ((0 : Nat) : Int) = true := by
      simp only [hasB, Bool.and_eq_true, decide_eq_true_eq]
      omega
    simp only [readQ]
    rw [h1, h2]
    rfl
theorem span_set (L xs : List Int) (a : Nat) (h : a + xs.length ≤ L.length) : spanL (setL L a xs) a xs.length = xs := by
  unfold spanL setL
  rw [List.append_assoc, List.drop_append_of_le_length (by simp; omega), List.drop_of_length_le (by simp; omega), List.nil_append, List.take_append_of_le_length (by omega), List.take_length]
theorem fnOf_bd (t : Nat) : 0 ≤ fnOf t ∧ fnOf t < 256 := by unfold fnOf; split <;> (try split) <;> (try split) <;> omega
end Go.Proofs.YtfekelmldebplaaGreatDoor

namespace Go.Proofs.YtfekelmldebplaaGreatDoor
open Go.RowKit Go.MuLone

set_option maxRecDepth 10000 in
set_option maxHeartbeats 2000000 in
theorem banksSet_none (sb tb : Nat) (cv : Value) (lm : Int) (i a : Int) (v : Value) (w : World) (hs : w.heap[sb]? = some (.cells (srow 0 tb cv lm) 143 (0, 0))) (hi : 4 ≤ i) (hv : ∃ x n c, v = .slice x n c) :
    Calls Tryz.prog 43 #[.pointer (some ⟨sb, 0, none⟩), .int .i64 i, .int .i64 a, v] w fun r w' => r = .returned (.int .i64 3) ∧ w'.heap[sb]? = some (.cells (srow 0 tb cv lm) 143 (0, 0)) ∧ Chg w w' (fun k => k = sb) := by
  obtain ⟨x, n, c, rfl⟩ := hv
  have q0 := cell_of_row _ _ 0 _ _ _ hs
  have f0 := frozen_of_row _ _ 0 _ _ hs
  simp [srow] at q0
  have c1 : Chg w (w.setCell ⟨sb, 0, none⟩ (.int .i32 1)) (fun k => k = sb) := Chg.set w sb 0 _
  have HS1 := hide (srow_set (l' := 1) hs)
  have C1 := hide c1
  clear c1 hs
  go_enter_defers Tryz.func43, Tryz.ntmps43
  go_wp2_with (go_at_call 64; refine (lock_free Tryz.muLib ⟨sb, 0, none⟩ _ q0 f0).mono ?_; rintro e w' ⟨rfl, rfl⟩)
  generalize w.setCell ⟨sb, 0, none⟩ (.int .i32 1) = W1 at HS1 C1 ⊢
  have c2 := cell_of_row _ _ 2 _ _ _ (unhide HS1)
  simp [srow] at c2
  have hd : (decide ((0 : Int) ≤ i) && decide (i < 4)) = false := by simp; omega
  refine (hasTable_any sb tb i W1 c2).mono ?_
  rintro r w2 ⟨rfl, hb2⟩
  rw [hd]
  have hS2 := (hb2.block sb (Array.getElem?_eq_some_iff.1 (unhide HS1)).1).trans (unhide HS1)
  have lk := cell_of_row _ _ 0 _ _ _ hS2
  have fk := frozen_of_row _ _ 0 _ _ hS2
  simp [srow] at lk
  have HS2 := hide hS2
  have C2 := hide ((unhide C1).trans (Chg.of_below hb2 (fun _ => False)) (fun _ e _ => e.elim))
  clear hS2 hb2 c2 hd C1 HS1
  go_wp2_with fail
  refine leaves_cons (f := 65) (args := #[.pointer (some ⟨sb, 0, none⟩)]) (by simp) (by simp [go_sem]) ?_
  refine (unlock_deferred Tryz.muLib ⟨sb, 0, none⟩ .returning _ lk fk).mono ?_
  rintro r u' w'' ⟨rfl, rfl, rfl⟩
  have cS : Chg w2 (w2.setCell ⟨sb, 0, none⟩ (.int .i32 0)) (fun k => k = sb) := Chg.set w2 sb 0 _
  exact ⟨_, results_tmp rfl _ _ _, rfl, srow_set (unhide HS2), (unhide C2).trans cS (fun _ e _ => e)⟩

set_option maxRecDepth 10000 in
set_option maxHeartbeats 1000000 in
theorem relaySet_none (B rb sb tb kb : Nat) (t : T4) (LL : List (List Rule)) (us : List Value) (i a : Int) (hi : 4 ≤ i) (v : Value) (w : World) (h : BankAt w B rb sb tb kb t LL us) (hv : ∃ x n c, v = .slice x n c) :
    Calls Tryz.prog 18 #[.pointer (some ⟨rb, 0, none⟩), .int .i64 i, .int .i64 a, v] w fun r w' => r = .returned (.int .i64 3) ∧ Chg w w' (fun k => k = sb) := by
  have HK := hide (kept_any rb sb w h.row)
  have HP : Hid (∀ w1, Below w.heap.size w w1 → Calls Tryz.prog 43 #[.pointer (some ⟨sb, 0, none⟩), .int .i64 i, .int .i64 a, v] w1 fun r w' => r = .returned (.int .i64 3) ∧ Chg w w' (fun k => k = sb)) := fun w1 hb => by
    refine (banksSet_none sb tb _ t.lim i a v w1 ((hb.block _ (Array.getElem?_eq_some_iff.1 h.st.row).1).trans h.st.row) hi hv).mono ?_
    rintro r w' ⟨rfl, _, q⟩
    exact ⟨rfl, (Chg.of_below hb (fun k => k = sb)).trans q (fun _ e _ => e)⟩
  obtain ⟨x, n, c, rfl⟩ := hv
  clear h
  go_enter Tryz.func18, Tryz.ntmps18
  go_wp2_with fail
  refine (unhide HK).mono ?_
  rintro e w1 ⟨rfl, hb⟩
  have HC := hide (unhide HP w1 hb)
  clear hb HP HK
  go_wp2_with fail
  refine (unhide HC).mono ?_
  rintro e w2 ⟨rfl, hp⟩
  have HP2 := hide hp
  clear hp HC
  go_wp2
  go_ret
  exact ⟨rfl, unhide HP2⟩
end Go.Proofs.YtfekelmldebplaaGreatDoor

namespace Go.Proofs.YtfekelmldebplaaGreatDoor
open Go.RowKit

theorem push4 (w : World) (A B C D : Obj) : ((((w.alloc A).alloc B).alloc C).alloc D).heap[w.heap.size]? = some A ∧ ((((w.alloc A).alloc B).alloc C).alloc D).heap[w.heap.size + 1]? = some B ∧ ((((w.alloc A).alloc B).alloc C).alloc D).heap[w.heap.size + 1 + 1]? = some C ∧
    ((((w.alloc A).alloc B).alloc C).alloc D).heap[w.heap.size + 1 + 1 + 1]? = some D ∧ ((((w.alloc A).alloc B).alloc C).alloc D).heap.size = w.heap.size + 4 ∧ Below w.heap.size w ((((w.alloc A).alloc B).alloc C).alloc D) := by
  have e : ((((w.alloc A).alloc B).alloc C).alloc D).heap = (((w.heap.push A).push B).push C).push D := rfl
  refine ⟨?_, ?_, ?_, ?_, ?_, ?_⟩
  · rw [e]; simp only [Array.getElem?_push, Array.size_push]; rw [if_neg (by omega), if_neg (by omega), if_neg (by omega), if_pos trivial]
  · rw [e]; simp only [Array.getElem?_push, Array.size_push]; rw [if_neg (by omega), if_neg (by omega), if_pos trivial]
  · rw [e]; simp only [Array.getElem?_push, Array.size_push]; rw [if_neg (by omega), if_pos trivial]
  · rw [e]; simp only [Array.getElem?_push, Array.size_push]; rw [if_pos trivial]
  · rw [e]; simp
  · exact ((((Below.refl _ _).alloc (Nat.le_refl _) _).alloc (by simp) _).alloc (by simp; omega) _).alloc (by simp; omega) _
theorem owns_low {w : World} {B B' : Nat} {v : Value} {xs : List Int} (h : Owns w B v xs) (hb : B' ≤ B) : Owns w B' v xs := h.weak hb

theorem join_req (f p n : Int) (w : World) :
    Calls Tryz.prog 24 #[.slice (some ⟨w.heap.size + 1 + 1 + 1, 0, none⟩) 3 3]
      ((((w.alloc (.cells #[.int .u8 f] 5)).alloc (.cells #[.int .u8 (p / 256), .int .u8 (p % 256)] 5)).alloc (.cells #[.int .u8 (n / 256), .int .u8 (n % 256)] 5)).alloc
        (.cells #[.slice (some ⟨w.heap.size, 0, none⟩) 1 1, .slice (some ⟨w.heap.size + 1, 0, none⟩) 2 2, .slice (some ⟨w.heap.size + 1 + 1, 0, none⟩) 2 2] 37))
      fun e w' => ∃ a m c, e = .returned (.slice a m c) ∧ Owns w' w.heap.size (.slice a m c) (f :: (wd p ++ wd n)) ∧ Below w.heap.size w w' := by
  obtain ⟨a1, a2, a3, a4, hs, hb⟩ := push4 w (.cells #[.int .u8 f] 5) (.cells #[.int .u8 (p / 256), .int .u8 (p % 256)] 5) (.cells #[.int .u8 (n / 256), .int .u8 (n % 256)] 5)
    (.cells #[.slice (some ⟨w.heap.size, 0, none⟩) 1 1, .slice (some ⟨w.heap.size + 1, 0, none⟩) 2 2, .slice (some ⟨w.heap.size + 1 + 1, 0, none⟩) 2 2] 37)
  refine (join_any (w.heap.size + 1 + 1 + 1) [.slice (some ⟨w.heap.size, 0, none⟩) 1 1, .slice (some ⟨w.heap.size + 1, 0, none⟩) 2 2, .slice (some ⟨w.heap.size + 1 + 1, 0, none⟩) 2 2]
    [[f], wd p, wd n] 3 _ (by rw [hs]; omega) rfl rfl ?_ ?_ ?_ (by omega) (by simp [wd])).mono ?_
  · intro i hi
    rw [cell_of_row _ _ _ _ _ _ a4]
    match i, hi with
    | 0, _ => rfl
    | 1, _ => rfl
    | 2, _ => rfl
  · intro i hi
    match i, hi with
    | 0, _ => exact lies_block a1 [f] rfl
    | 1, _ => exact lies_block a2 (wd p) rfl
    | 2, _ => exact lies_block a3 (wd n) rfl
  · intro i hi
    match i, hi with
    | 0, _ => simp
    | 1, _ => simp [wd]
    | 2, _ => simp [wd]
  · rintro e w' ⟨v, rfl, ho, hb'⟩
    have e : [[f], wd p, wd n].flatten = f :: (wd p ++ wd n) := by simp
    rw [e] at ho
    obtain ⟨a, m, c, rfl⟩ := own_shape ho
    exact ⟨a, m, c, rfl, ho.weak (by rw [hs]; omega), hb.trans (hb'.mono (by rw [hs]; omega))⟩

theorem join_ans (f k : Int) (a : Option Addr) (m c : Nat) (ds : List Int) (w : World) (h : Lies w (.slice a m c) ds) (hd : ds ≠ []) (hl : ds.length ≤ 1000) :
    Calls Tryz.prog 24 #[.slice (some ⟨w.heap.size + 1, 0, none⟩) 2 2]
      ((w.alloc (.cells #[.int .u8 f, .int .u8 k] 5)).alloc (.cells #[.slice (some ⟨w.heap.size, 0, none⟩) 2 2, .slice a m c] 37))
      fun e w' => ∃ a m c, e = .returned (.slice a m c) ∧ Owns w' w.heap.size (.slice a m c) (f :: k :: ds) ∧ Below w.heap.size w w' := by
  have hb : Below w.heap.size w ((w.alloc (.cells #[.int .u8 f, .int .u8 k] 5)).alloc (.cells #[.slice (some ⟨w.heap.size, 0, none⟩) 2 2, .slice a m c] 37)) := bl_trans (rule_new w _) (rule_new _ _)
  have hs : ((w.alloc (.cells #[.int .u8 f, .int .u8 k] 5)).alloc (.cells #[.slice (some ⟨w.heap.size, 0, none⟩) 2 2, .slice a m c] 37)).heap.size = w.heap.size + 2 := by simp
  have a1 : ((w.alloc (.cells #[.int .u8 f, .int .u8 k] 5)).alloc (.cells #[.slice (some ⟨w.heap.size, 0, none⟩) 2 2, .slice a m c] 37)).heap[w.heap.size]? = some (.cells #[.int .u8 f, .int .u8 k] 5 (0, 0)) := ((rule_new (w.alloc (.cells #[.int .u8 f, .int .u8 k] 5)) (.cells #[.slice (some ⟨w.heap.size, 0, none⟩) 2 2, .slice a m c] 37)).block w.heap.size (by simp)).trans (heap_alloc_new w _)
  have a2 : ((w.alloc (.cells #[.int .u8 f, .int .u8 k] 5)).alloc (.cells #[.slice (some ⟨w.heap.size, 0, none⟩) 2 2, .slice a m c] 37)).heap[w.heap.size + 1]? = some (.cells #[.slice (some ⟨w.heap.size, 0, none⟩) 2 2, .slice a m c] 37 (0, 0)) := by
    have := heap_alloc_new (w.alloc (.cells #[.int .u8 f, .int .u8 k] 5)) (.cells #[.slice (some ⟨w.heap.size, 0, none⟩) 2 2, .slice a m c] 37)
    simp only [World.size_alloc] at this
    exact this
  refine (join_any (w.heap.size + 1) [.slice (some ⟨w.heap.size, 0, none⟩) 2 2, .slice a m c] [[f, k], ds] 2 _ (by rw [hs]; omega) rfl rfl ?_ ?_ ?_ (by omega) (by simp; omega)).mono ?_
  · intro i hi
    rw [cell_of_row _ _ _ _ _ _ a2]
    match i, hi with
    | 0, _ => rfl
    | 1, _ => rfl
  · intro i hi
    match i, hi with
    | 0, _ => exact lies_block a1 [f, k] rfl
    | 1, _ => exact h.below hb
  · intro i hi
    match i, hi with
    | 0, _ => simp
    | 1, _ => exact hd
  · rintro e w' ⟨v, rfl, ho, hb'⟩
    have e : [[f, k], ds].flatten = f :: k :: ds := by simp
    rw [e] at ho
    obtain ⟨a, m, c, rfl⟩ := own_shape ho
    exact ⟨a, m, c, rfl, ho.weak (by rw [hs]; omega), hb.trans (hb'.mono (by rw [hs]; omega))⟩

theorem okAll : okRules [allRules, []] = true := by decide
theorem open200 (n0 n1 n2 n3 : Nat) (w : World) (h0 : n0 ≤ 200) (h1 : n1 ≤ 200) (h2 : n2 ≤ 200) (h3 : n3 ≤ 200) : Calls Tryz.prog 17 #[.agg #[.int .i64 n0, .int .i64 n1, .int .i64 n2, .int .i64 n3]] w fun e w' => ∃ B rb sb tb kb t us, e = .returned (.tuple #[.pointer (some ⟨rb, 0, none⟩), .bool true]) ∧ BankAt w' B rb sb tb kb t [allRules, []] us ∧ w.heap.size ≤ B ∧ Below w.heap.size w w' ∧ (t.at 0).L = List.replicate n0 0 ∧ (t.at 1).L = List.replicate n1 0 ∧ (t.at 2).L = List.replicate n2 0 ∧ (t.at 3).L = List.replicate n3 0 := by
  refine (open_with n0 n1 n2 n3 w (fun W rb w' => ∃ sb tb kb e0 g0 e1 g1 e2 g2 e3 g3 us, BankAt w' W.heap.size rb sb tb kb ⟨⟨e0, g0, List.replicate n0 0⟩, ⟨e1, g1, List.replicate n1 0⟩, ⟨e2, g2, List.replicate n2 0⟩, ⟨e3, g3, List.replicate n3 0⟩, 4⟩ [allRules, []] us ∧ Below W.heap.size W w') ?_).mono ?_
  · intro W v hb hl
    refine (relayNew_ok n0 n1 n2 n3 4 v _ W h0 h1 h2 h3 (by omega) (by omega) hl (by simp) okAll).mono ?_
    rintro e w' ⟨rb, sb, tb, kb, e0, g0, e1, g1, e2, g2, e3, g3, us, rfl, hB, hb'⟩
    exact ⟨rb, rfl, sb, tb, kb, e0, g0, e1, g1, e2, g2, e3, g3, us, hB, hb'⟩
  · rintro e w' ⟨rb, W, rfl, hb, sb, tb, kb, e0, g0, e1, g1, e2, g2, e3, g3, us, hB, hb'⟩
    exact ⟨_, rb, sb, tb, kb, _, us, rfl, hB, hb.size, bl_trans hb hb', rfl, rfl, rfl, rfl⟩
end Go.Proofs.YtfekelmldebplaaGreatDoor

namespace Go.Proofs.YtfekelmldebplaaGreatDoor
open Go.RowKit Go.MuLone

theorem below_chg {w W W' : World} {D : Nat → Prop} (hb : Below w.heap.size w W) (hc : Chg W W' D) (hD : ∀ k, D k → w.heap.size ≤ k) : Below w.heap.size w W' :=
  ⟨hc.os.trans hb.os, hc.tape.trans hb.tape, hc.output.trans hb.output, Nat.le_trans hb.size hc.size, fun k p => (hc.block k (Nat.lt_of_lt_of_le p hb.size) (fun e => by have := hD k e; omega)).trans (hb.block k p)⟩
theorem BankAt.glo {w : World} {B rb sb tb kb : Nat} {t : T4} {LL : List (List Rule)} {us : List Value} (h : BankAt w B rb sb tb kb t LL us) (i : Nat) : B ≤ (t.at i).g := by
  have := h.st.tabs.lo
  unfold T4.at
  split
  · omega
  · split
    · omega
    · split <;> omega
theorem setErr_ok (n : Nat) (hi : Int) (p : Nat) (xs : List Int) (h : p + xs.length ≤ n) (hx : ∀ x ∈ xs, 0 ≤ x ∧ x ≤ hi) : setErr n hi (p : Int) xs = 0 := by
  have h1 : hasB n (p : Int) (xs.length : Int) = true := by
    simp only [hasB, Bool.and_eq_true, decide_eq_true_eq]
    omega
  have h2 : allowsB hi xs = true := by
    unfold allowsB
    rw [List.all_eq_true]
    intro x m
    have := hx x m
    simp only [Bool.and_eq_true, decide_eq_true_eq]
    exact this
  unfold setErr
  rw [h1, h2]
  rfl
theorem setErr_val (n : Nat) (hi : Int) (p : Nat) (xs : List Int) (h : p + xs.length ≤ n) (y : Int) (hm : y ∈ xs) (hy : hi < y) : setErr n hi (p : Int) xs = 5 := by
  have h1 : hasB n (p : Int) (xs.length : Int) = true := by
    simp only [hasB, Bool.and_eq_true, decide_eq_true_eq]
    omega
  have h2 : allowsB hi xs = false := by
    cases hh : allowsB hi xs with
    | false => rfl
    | true =>
      unfold allowsB at hh
      rw [List.all_eq_true] at hh
      have := hh y hm
      simp only [Bool.and_eq_true, decide_eq_true_eq] at this
      omega
  unfold setErr
  rw [h1, h2]
  rfl
theorem setErr_far (hi : Int) : setErr 200 hi (199 : Int) [1, 1] = 4 := rfl
theorem getErr_ok (n p c : Nat) (h : p + c ≤ n) : getErr n (p : Int) (c : Int) = 0 := by
  have h1 : hasB n (p : Int) (c : Int) = true := by
    simp only [hasB, Bool.and_eq_true, decide_eq_true_eq]
    omega
  unfold getErr
  rw [if_neg (by omega), if_pos h1]
theorem put_at (t : T4) (i : Nat) (hi : i < 4) (L : List Int) : ((t.put i L).at i).L = L ∧ ((t.put i L).at i).g = (t.at i).g := by
  have hk : i = 0 ∨ i = 1 ∨ i = 2 ∨ i = 3 := by omega
  rcases hk with rfl | rfl | rfl | rfl <;> exact ⟨rfl, rfl⟩
theorem OwnsI.weak {w : World} {B B' : Nat} {v : Value} {xs : List Int} (h : OwnsI w B v xs) (hb : B' ≤ B) : OwnsI w B' v xs := own_weak h hb
theorem OwnsI.keep {w w' : World} {B : Nat} {v : Value} {xs : List Int} {D : Nat → Prop} (h : OwnsI w B v xs) (c : Chg w w' D) (hD : ∀ b, v.ownBlock = some b → ¬ D b) : OwnsI w' B v xs := ownsRow_keep h fun k _ h2 e => c.block k h2 (hD k e)
theorem own3 {w : World} {B : Nat} {v : Value} {xs : List Int} (h : OwnsI w B v xs) : ∀ b, v.ownBlock = some b → ∃ cs fr, w.heap[b]? = some (.cells cs 3 fr) := fun _ e => own_cells h e
theorem own5 {w : World} {B : Nat} {v : Value} {xs : List Int} (h : Owns w B v xs) : ∀ b, v.ownBlock = some b → ∃ cs fr, w.heap[b]? = some (.cells cs 5 fr) := fun _ e => own_cells h e
theorem fn_cell (w : World) (t : Nat) (ht : t < 4) : (w.alloc (.cells #[.int .u8 1, .int .u8 2, .int .u8 4, .int .u8 3] 5)).cell? ⟨w.heap.size, t, none⟩ = some (.int .u8 (fnOf t)) := by
  rw [cell_of_row _ _ _ _ _ _ (heap_alloc_new w _)]
  have hk : t = 0 ∨ t = 1 ∨ t = 2 ∨ t = 3 := by omega
  rcases hk with rfl | rfl | rfl | rfl <;> rfl

theorem BankAt.keep {w w' : World} {B rb sb tb kb : Nat} {t : T4} {LL : List (List Rule)} {us : List Value} {D : Nat → Prop} (h : BankAt w B rb sb tb kb t LL us) (c : Chg w w' D) (hD : ∀ k, B ≤ k → ¬ D k) : BankAt w' B rb sb tb kb t LL us := by
  have b : ∀ {g : Nat} {o : Obj}, w.heap[g]? = some o → B ≤ g → w'.heap[g]? = some o := fun q l => (c.block _ (Array.getElem?_eq_some_iff.1 q).1 (hD _ l)).trans q
  have lo := h.st.tabs.lo
  refine ⟨b h.row h.lo, ⟨b h.st.row h.st.lo, ⟨b h.st.tabs.row (by omega), h.st.tabs.a0.chg c (hD _ (by omega)) (hD _ (by omega)), h.st.tabs.a1.chg c (hD _ (by omega)) (hD _ (by omega)), h.st.tabs.a2.chg c (hD _ (by omega)) (hD _ (by omega)), h.st.tabs.a3.chg c (hD _ (by omega)) (hD _ (by omega)), h.st.tabs.nd, lo⟩, ⟨b h.st.cl.row h.st.cl.lo, h.st.cl.len, h.st.cl.lo, fun i rs u h1 h2 => (h.st.cl.at_ i rs u h1 h2).chg c fun g e => hD g (((h.st.cl.at_ i rs u h1 h2).2 g e).1)⟩, h.st.lo⟩, h.lo⟩
theorem OwnsI.store {w : World} {B bb c : Nat} {xs : List Int} (h : OwnsI w B (.slice (some ⟨bb, 0, none⟩) xs.length c) xs) (i : Nat) (y : Int) : OwnsI (w.setCell ⟨bb, i, none⟩ (.int .i64 y)) B (.slice (some ⟨bb, 0, none⟩) (xs.set i y).length c) (xs.set i y) := by
  unfold OwnsI at h ⊢
  rcases h with ⟨h1, h2⟩
  refine ⟨by simp, ?_⟩
  rcases h2 with ⟨e, _⟩ | ⟨g, cap, cur, e, p1, p2, p3, p4, p5, p6⟩
  · cases e
  · cases e
    refine .inr ⟨bb, c, cur.setIfInBounds i (.int .i64 y), by simp, p1, heap_setCell_same w bb i _ _ _ p2, by simpa using p3, p4, by simpa using p5, ?_⟩
    rw [Nat.mul_one] at p6 ⊢
    simp only [List.length_set, Array.toList_setIfInBounds, List.map_set]
    rw [List.take_set, p6]
theorem wordsL_bys (xs : List Int) (h : ∀ x ∈ xs, 0 ≤ x ∧ x ≤ 65535) : Bys (wordsL xs) := fun y hy => by
  obtain ⟨x, hx, hy⟩ := List.mem_flatMap.1 hy
  exact Bys.wd (h x hx).1 (h x hx).2 y hy
theorem own_unfrozen {w : World} {B g c n : Nat} {xs : List Int} (h : OwnsI w B (.slice (some ⟨g, 0, none⟩) n c) xs) (_ : True = True) (i : Nat) : w.frozen? ⟨g, i, none⟩ = false := by
  rcases h.2 with ⟨e, _⟩ | ⟨g2, cap, cur, e, _, hh, _⟩
  · cases e
  · cases e
    exact frozen_of_row _ _ i _ _ hh
set_option maxRecDepth 10000 in
set_option maxHeartbeats 4000000 in
theorem set_words (cb co c : Nat) (a : Option Addr) (raw : List Int) (fr tbl : Int) (t p : Nat) (w : World) (ha : a = some ⟨cb, co, none⟩ ∨ raw = []) (h : IntsAt w cb co raw) (hr : raw.length ≤ 1152921504606846976) (f0 : -9223372036854775808 ≤ fr ∧ fr ≤ 9223372036854775807) (t0 : -9223372036854775808 ≤ tbl ∧ tbl ≤ 9223372036854775807) (ht : pickI tbl 4 = (t : Int)) (ht4 : t < 4) (hp : pickI fr 140 = (p : Int)) (hp1 : p < 140) (h1 : 1 < t) :
    Calls Tryz.prog 8 #[.slice a raw.length c, .int .i64 fr, .int .i64 tbl] w fun e w' => e = .returned (.bool true) ∧ Below w.heap.size w w' := by
  have HP1 := hide (fun w => pick_any tbl 4 w (by omega) (by omega) t0.1 t0.2)
  have HP2 := hide (fun w => pick_any fr 140 w (by omega) (by omega) f0.1 f0.2)
  rw [ht] at HP1
  rw [hp] at HP2
  have h1' : (1 : Int) < (t : Int) := by omega
  have ht4' : (t : Int) < 4 := by omega
  have HVal := hide (values_any cb co c a raw 65536 60 w ha h (by omega) (by omega) hr (by omega))
  rw [show ((60 : Nat) : Int) = 60 from rfl] at HVal
  have hvl := valuesL_len raw 65536 60 (by omega)
  have HVin := hide (valuesL_in raw 65536 60 (by omega))
  generalize valuesL raw 65536 60 = xs at HVal hvl HVin
  clear h ht hp
  go_enter Tryz.func8, Tryz.ntmps8
  go_wp2_with (go_at_call 15; refine (unhide HP1 _).mono ?_; rintro e w ⟨rfl, rfl⟩)
  refine (unhide HVal).mono ?_
  rintro e w1 ⟨v1, rfl, hO1, hb1⟩
  obtain ⟨av, cv, rfl, hav1, hav2⟩ := ownsRow_opt hO1
  obtain ⟨y0, rfl⟩ : ∃ y, av = some y := by
    cases av with
    | none => have := hav1 rfl; omega
    | some y => exact ⟨y, rfl⟩
  obtain ⟨bb, rfl, hcv⟩ := hav2 y0 rfl
  have hbb := World.ownsRow.lt hO1 bb rfl
  have HO1 := hide hO1
  have HB1 := hide hb1
  clear hO1 hb1 hav1 hav2 HVal ha
  go_wp2_with (go_at_call 15; refine (unhide HP2 _).mono ?_; rintro e w1 ⟨rfl, rfl⟩)
  have HOp := hide (open200 200 200 200 200 w1 (by omega) (by omega) (by omega) (by omega))
  rw [show ((200 : Nat) : Int) = 200 from rfl] at HOp
  refine (unhide HOp).mono ?_
  rintro e w2 ⟨B, rb, sb, tb, kb, t4, us, rfl, hB2, hlB, hb2, hL0, hL1, hL2, hL3⟩
  have hLt : (t4.at t).L = List.replicate 200 0 := by
    have hk : t = 0 ∨ t = 1 ∨ t = 2 ∨ t = 3 := by omega
    rcases hk with rfl | rfl | rfl | rfl <;> assumption
  have HO2 := hide (OwnsI.keep (unhide HO1) (Chg.of_below hb2 (fun _ => False)) (fun _ _ e => e))
  have HB2 := hide (bl_trans (unhide HB1) hb2)
  have hBw : w.heap.size ≤ B := Nat.le_trans (unhide HB1).size hlB
  have hbbB : bb < B := Nat.lt_of_lt_of_le hbb.2 hlB
  have hglo := hB2.glo t
  have hslo := hB2.st.lo
  have hus : ∃ u, us[0]? = some u := by
    have hl := hB2.st.cl.len
    cases us with
    | nil => simp at hl
    | cons u _ => exact ⟨u, rfl⟩
  obtain ⟨u, hu⟩ := hus
  have hHi : hiOf t = 65535 := by unfold hiOf; rw [if_neg (by omega)]
  have hTop : topOf t = 65535 := by unfold topOf; rw [if_neg (by omega)]
  have hXin : ∀ x ∈ xs, 0 ≤ x ∧ x ≤ 65535 := fun x hx => by have := unhide HVin x hx; omega
  -- Set
  have HSet := hide (relaySet_any B rb sb tb kb t4 _ us t ht4 (p : Int) _ xs w2 hB2 (OwnsI.lies (unhide HO2)) (own3 (unhide HO2)) (by omega) (by omega))
  clear hL0 hL1 hL2 hL3 HOp HO1 HB1 hb2 hB2
  go_wp2_with fail
  refine (unhide HSet).mono ?_
  rintro e w3 ⟨rfl, hB3, hc3⟩
  have hse := setErr_ok (t4.at t).L.length (hiOf t) p xs (by rw [hLt]; simp; omega) (by rw [hHi]; exact hXin)
  rw [hse] at hB3 ⊢
  rw [if_pos rfl, hLt, show (p : Int).toNat = p by omega] at hB3
  have HO3 := hide (OwnsI.keep (unhide HO2) hc3 (fun b e => by simp [Value.ownBlock] at e; subst e; intro e2; rcases e2 with e2 | e2 <;> omega))
  have HB3 := hide (below_chg (unhide HB2) hc3 (fun k e => by rcases e with e | e <;> omega))
  have hlen : (setL (List.replicate 200 0) p xs).length = 200 := by rw [setL_len _ _ _ (by simp; omega)]; simp
  have hat := put_at t4 t ht4 (setL (List.replicate 200 0) p xs)
  have HGet := hide (relayGet_any B rb sb tb kb _ _ us t ht4 (p : Int) (xs.length : Int) w3 hB3 (by omega))
  have HBk3 := hide hB3
  clear HSet hc3 hse HO2 HB2 hB3
  go_wp2_with fail
  refine (unhide HGet).mono ?_
  rintro e w4 ⟨v4, rfl, hg4, hB4, hc4⟩
  have hge := getErr_ok ((t4.put t (setL (List.replicate 200 0) p xs)).at t).L.length p xs.length (by rw [hat.1, hlen]; omega)
  rw [hge] at hg4 ⊢
  obtain ⟨hl4, _⟩ := hg4.1 rfl
  rw [hat.1, show (p : Int).toNat = p by omega, show ((xs.length : Nat) : Int).toNat = xs.length by omega] at hl4
  have hsp := span_set (List.replicate 200 0) xs p (by simp; omega)
  unfold spanL at hsp
  rw [hsp] at hl4
  obtain ⟨a4, c4, rfl, _⟩ := id hl4
  have HO4 := hide (OwnsI.keep (unhide HO3) hc4 (fun b e => by simp [Value.ownBlock] at e; subst e; intro e2; have e3 : bb = sb := e2; omega))
  have HB4 := hide (below_chg (unhide HB3) hc4 (fun k e => by have e3 : k = sb := e; omega))
  have HSm := hide (sameInts_any _ _ xs xs w4 hl4 (OwnsI.lies (unhide HO4)) (by omega))
  have HBk4 := hide hB4
  clear HGet hc4 hge HO3 HB3 hB4 HBk3 hg4 hl4 hsp
  go_wp2_with fail
  refine (unhide HSm).mono ?_
  rintro e w5 ⟨rfl, hb5⟩
  have HO5 := hide (OwnsI.keep (unhide HO4) (Chg.of_below hb5 (fun _ => False)) (fun _ _ e => e))
  have HB5 := hide (bl_trans (unhide HB4) hb5)
  have HBk5 := hide ((unhide HBk4).below hb5)
  have hfn := fn_cell w5 t ht4
  have HPk := hide (packed_any _ xs _ (LiesI.below (OwnsI.lies (unhide HO5)) (rule_new w5 (.cells #[.int .u8 1, .int .u8 2, .int .u8 4, .int .u8 3] 5))) (by omega))
  have hb6 := rule_new w5 (.cells #[.int .u8 1, .int .u8 2, .int .u8 4, .int .u8 3] 5)
  clear HSm hb5 HO4 HB4 HBk4
  go_wp2_with fail
  refine (unhide HPk).mono ?_
  rintro e w6 ⟨v6, rfl, ho6, hb6'⟩
  obtain ⟨a6, c6, rfl, _, _⟩ := ownsRow_opt ho6
  have HD6 := hide ho6
  have hb56 := bl_trans hb6 hb6'
  have HO6 := hide (OwnsI.keep (unhide HO5) (Chg.of_below hb56 (fun _ => False)) (fun _ _ e => e))
  have HB6 := hide (bl_trans (unhide HB5) hb56)
  have HBk6 := hide ((unhide HBk5).below hb56)
  clear HPk ho6 hb6 hb6' hb56 HO5 HB5 HBk5 hfn
  have HWy := hide (wordy_any _ xs w.heap.size w6 (unhide HO6) (fun x hx => hXin x hx) (by omega))
  clear HD6
  go_wp2_with fail
  refine (unhide HWy).mono ?_
  rintro e w6' ⟨v6', rfl, ho6, hb6⟩
  have e6 : wordsL xs = packT t xs := by unfold packT; rw [if_neg (by omega)]
  rw [e6] at ho6
  obtain ⟨a6, c6, rfl, _, _⟩ := ownsRow_opt ho6
  have HD6 := hide ho6
  replace HO6 := hide (OwnsI.keep (unhide HO6) (Chg.of_below hb6 (fun _ => False)) (fun _ _ e => e))
  replace HB6 := hide (bl_trans (unhide HB6) hb6)
  replace HBk6 := hide ((unhide HBk6).below hb6)
  clear HWy ho6 hb6 e6
  generalize w6' = w6 at *
  have hDl : (packT t xs).length ≤ 250 ∧ packT t xs ≠ [] := by
    have hl := packT_len t xs
    refine ⟨by rw [hl]; split <;> omega, fun e1 => ?_⟩
    rw [e1] at hl
    simp at hl
    split at hl <;> omega
  have hDl' : ((packT t xs).length : Int) < 256 := by omega
  have HDb : Hid (Bys (packT t xs)) := by rw [show packT t xs = wordsL xs by unfold packT; rw [if_neg (by omega)]]; exact wordsL_bys xs (fun x hx => hXin x hx)
  have HJ := hide (fun W => join_req (fnOf t) (p : Int) (xs.length : Int) W)
  go_wp2_with (go_at_call 25; refine (word_any _ _ (by omega) (by omega)).mono ?_; rintro e w' ⟨rfl, rfl⟩)
  refine (unhide HJ w6).mono ?_
  rintro e w7 ⟨a7, n7, c7, rfl, ho7, hb7⟩
  have HQ7 := hide ho7
  have HD7 := hide ((unhide HD6).kept hb7)
  have HO7 := hide (OwnsI.keep (unhide HO6) (Chg.of_below hb7 (fun _ => False)) (fun _ _ e => e))
  have HB7 := hide (bl_trans (unhide HB6) hb7)
  have HBk7 := hide ((unhide HBk6).below hb7)
  have HJ2 := hide (join_ans (fnOf t) ((packT t xs).length : Int) a6 (packT t xs).length c6 (packT t xs) w7 (unhide HD7).lies hDl.2 (by omega))
  clear ho7 hb7 HJ HD6 HO6 HB6 HBk6
  go_wp2_with fail
  refine (unhide HJ2).mono ?_
  rintro e w8 ⟨a8, n8, c8, rfl, ho8, hb8⟩
  have HW8 := hide ho8
  have HQ8 := hide ((unhide HQ7).kept hb8)
  have HO8 := hide (OwnsI.keep (unhide HO7) (Chg.of_below hb8 (fun _ => False)) (fun _ _ e => e))
  have HB8 := hide (bl_trans (unhide HB7) hb8)
  have hBk8 := (unhide HBk7).below hb8
  clear ho8 hb8 HJ2 HD7 HO7 HB7 HBk7 HQ7
  have hq := parse_readQ t p xs.length ht4 (by omega) (by omega) (by omega)
  have hLs : ((t4.put t (setL (List.replicate 200 0) p xs)).at t).L = setL (List.replicate 200 0) p xs := hat.1
  have hsp : spanL (setL (List.replicate 200 0) p xs) p xs.length = xs := span_set (List.replicate 200 0) xs p (by simp; omega)
  have hin : ∀ x ∈ setL (List.replicate 200 0) p xs, 0 ≤ x ∧ x ≤ topOf t := by
    intro x hx
    rw [hTop]
    unfold setL at hx
    rcases List.mem_append.1 hx with hx | hx
    · rcases List.mem_append.1 hx with hx | hx
      · have := List.eq_of_mem_replicate (List.mem_of_mem_take hx); omega
      · exact hXin x hx
    · have := List.eq_of_mem_replicate (List.mem_of_mem_drop hx); omega
  have hans := answer_ok B rb sb tb kb _ _ us allRules u (fnOf t) _ (readB p xs.length) (readQ t p xs.length) w8 hBk8 rfl hu (by simp [allRules]) (unhide HQ8).lies (own5 (unhide HQ8)) (by simp [readB, wd]) (by rw [readB_len]; omega) (readB_bys p xs.length (by omega) (by omega)) hq (by rw [show (readQ t p xs.length).t = t from rfl, hLs]; exact exc_read _ t p xs.length ht4 (by rw [hlen]; omega) (by rw [hlen]; omega)) (by rw [show (readQ t p xs.length).t = t from rfl, hLs]; exact hin) (fun rp v W hr hl _ => parse_fn t ht4 rp v _ W hr hl (readB_bys p xs.length (by omega) (by omega)) (by rw [readB_len]; omega))
  have hbysA : Bys (fnOf t :: ((packT t xs).length : Int) :: packT t xs) := by
    intro x hx
    rcases List.mem_cons.1 hx with rfl | hx
    · exact fnOf_bd t
    · rcases List.mem_cons.1 hx with rfl | hx
      · omega
      · exact unhide HDb x hx
  have HDn := hide (done_ok rb _ _ _ w8 (unhide HW8).lies hbysA (fnOf t :: ((packT t xs).length : Int) :: packT t xs) hbysA (fun _ w' => BankAt w' B rb sb tb kb (t4.put t (setL (List.replicate 200 0) p xs)) [allRules, []] us ∧ Chg w8 w' (fun k => k = sb ∨ k = (t4.at t).g)) (hans.mono (by
    rintro r w' ⟨a9, n9, c9, rfl, h9, hB9, hc9⟩
    rw [show (readQ t p xs.length).t = t from rfl, hLs, carry_read, told_read, show (readQ t p xs.length).ra = p from rfl, show (readQ t p xs.length).rc = xs.length from rfl, hsp] at h9
    rw [show (readQ t p xs.length).t = t from rfl, carry_read, put_same _ t ht4] at hB9
    rw [show (readQ t p xs.length).t = t from rfl, hat.2] at hc9
    refine ⟨⟨hB9, hc9⟩, a9, n9, c9, rfl, h9.lies, ?_⟩
    refine (unhide HW8).lies.chg hc9 (fun b e => ?_)
    obtain ⟨cs, fr', q5⟩ := own5 (unhide HW8) b e
    intro e2
    rcases e2 with e2 | e2
    · exact rows_ne q5 hBk8.st.row (by decide) e2
    · have := (hBk8.tab t ht4).2.1.ent
      rw [hat.2] at this
      exact rows_ne q5 this (by decide) e2)) ⟨_, _, _, rfl⟩)
  rw [show decide (fnOf t :: ((packT t xs).length : Int) :: packT t xs = fnOf t :: ((packT t xs).length : Int) :: packT t xs) = true by simp] at HDn
  clear hans hq hsp hin hbysA hBk8
  go_wp2_with fail
  refine (unhide HDn).mono ?_
  rintro e w9 ⟨rfl, r0, hB9, hc9⟩
  have hO9 := OwnsI.keep (unhide HO8) hc9 (fun b e => by simp [Value.ownBlock] at e; subst e; intro e2; rcases e2 with e2 | e2 <;> omega)
  have HB9 := hide (below_chg (unhide HB8) hc9 (fun k e => by rcases e with e | e <;> omega))
  have z0 : ∃ z, w9.cell? ⟨bb, 0, none⟩ = some (.int .i64 z) := ⟨_, hO9.cells 0 (by omega)⟩
  obtain ⟨z, z0⟩ := z0
  have zf : w9.frozen? ⟨bb, 0, none⟩ = false := own_unfrozen hO9 rfl 0
  have hO10 := hO9.store 0 65536
  have hc10 : Chg w9 (w9.setCell ⟨bb, 0, none⟩ (.int .i64 65536)) (fun k => k = bb) := Chg.set w9 bb 0 _
  have hB10 := hB9.keep hc10 (fun k l e => by have e2 : k = bb := e; omega)
  have HB10 := hide (below_chg (unhide HB9) hc10 (fun k e => by have e2 : k = bb := e; omega))
  have hsl : (xs.set 0 65536).length = xs.length := by simp
  rw [hsl] at hO10
  have HSet2 := hide (relaySet_any B rb sb tb kb _ _ us t ht4 (p : Int) _ (xs.set 0 65536) _ hB10 (by have := OwnsI.lies hO10; exact this) (own3 hO10) (by rw [hsl]; omega) (by omega))
  have HO10 := hide hO10
  clear HDn hc9 HO8 HB8 HW8 HQ8 hB9 hO9 hB10 hO10 hc10 HB9
  have hp0 : (0 : Int) < (xs.length : Int) := by omega
  have hse2 : setErr ((t4.put t (setL (List.replicate 200 0) p xs)).at t).L.length (hiOf t) (p : Int) (xs.set 0 65536) = 5 := by
    rw [hat.1, hlen, hHi]
    exact setErr_val 200 _ p (xs.set 0 65536) (by rw [hsl]; omega) 65536 (by cases xs with | nil => simp at hvl | cons y ys => simp) (by omega)
  go_wp2_with fail
  refine (unhide HSet2).mono ?_
  rintro e w11 ⟨rfl, hB11, hc11⟩
  rw [hse2] at hB11 ⊢
  rw [if_neg (by omega), put_same _ t ht4] at hB11
  rw [hat.2] at hc11
  have HB11 := hide (below_chg (unhide HB10) hc11 (fun k e => by rcases e with e | e <;> omega))
  have hb12 := rule_new w11 (.cells #[.int .i64 1, .int .i64 1] 3)
  have hB12 := hB11.below hb12
  have hr12 : (w11.alloc (.cells #[.int .i64 1, .int .i64 1] 3)).heap[w11.heap.size]? = some (.cells (([1, 1] : List Int).map (Value.int .i64)).toArray 3 (0, 0)) := heap_alloc_new w11 _
  have HSet3 := hide (relaySet_any B rb sb tb kb _ _ us t ht4 (199 : Int) (.slice (some ⟨w11.heap.size, 0, none⟩) 2 2) [1, 1] _ hB12 (rowI_lies hr12 0 2 2 (by simp)) (fun b e => by simp [Value.ownBlock] at e; subst e; exact ⟨_, _, hr12⟩) (by simp) (by omega))
  have HB12 := hide (bl_trans (unhide HB11) hb12)
  clear HSet2 hB11 hc11 HB11 HB10 hb12 hr12 HO10 hB12 hse2
  go_wp2_with fail
  refine (unhide HSet3).mono ?_
  rintro e w13 ⟨rfl, hB13, hc13⟩
  have hse3 : setErr ((t4.put t (setL (List.replicate 200 0) p xs)).at t).L.length (hiOf t) (199 : Int) [1, 1] = 4 := by
    rw [hat.1, hlen]
    exact setErr_far _
  rw [hse3] at hB13 ⊢
  rw [hat.2] at hc13
  have HB13 := hide (below_chg (unhide HB12) hc13 (fun k e => by rcases e with e | e <;> omega))
  have HSet4 := hide (relaySet_none B rb sb tb kb _ _ us (4 + (t : Int)) 0 (by omega) (.slice none 0 0) w13 hB13 ⟨_, _, _, rfl⟩)
  clear HSet3 hB13 hc13 HB12 hse3
  go_wp2_with fail
  refine (unhide HSet4).mono ?_
  rintro e w14 ⟨rfl, hc14⟩
  have HB14 := hide (below_chg (unhide HB13) hc14 (fun k e => by have e3 : k = sb := e; omega))
  clear HSet4 hc14 HB13
  go_wp2
  go_ret
  exact ⟨rfl, unhide HB14⟩

set_option maxRecDepth 10000 in
set_option maxHeartbeats 4000000 in
theorem set_bits (cb co c : Nat) (a : Option Addr) (raw : List Int) (fr tbl : Int) (t p : Nat) (w : World) (ha : a = some ⟨cb, co, none⟩ ∨ raw = []) (h : IntsAt w cb co raw) (hr : raw.length ≤ 1152921504606846976) (f0 : -9223372036854775808 ≤ fr ∧ fr ≤ 9223372036854775807) (t0 : -9223372036854775808 ≤ tbl ∧ tbl ≤ 9223372036854775807) (ht : pickI tbl 4 = (t : Int)) (ht4 : t < 4) (hp : pickI fr 140 = (p : Int)) (hp1 : p < 140) (h1 : t ≤ 1) :
    Calls Tryz.prog 8 #[.slice a raw.length c, .int .i64 fr, .int .i64 tbl] w fun e w' => e = .returned (.bool true) ∧ Below w.heap.size w w' := by
  have HP1 := hide (fun w => pick_any tbl 4 w (by omega) (by omega) t0.1 t0.2)
  have HP2 := hide (fun w => pick_any fr 140 w (by omega) (by omega) f0.1 f0.2)
  rw [ht] at HP1
  rw [hp] at HP2
  have h1' : decide ((1 : Int) < (t : Int)) = false := by simp; omega
  have ht4' : (t : Int) < 4 := by omega
  have HVal := hide (values_any cb co c a raw 2 60 w ha h (by omega) (by omega) hr (by omega))
  rw [show ((60 : Nat) : Int) = 60 from rfl] at HVal
  have hvl := valuesL_len raw 2 60 (by omega)
  have HVin := hide (valuesL_in raw 2 60 (by omega))
  generalize valuesL raw 2 60 = xs at HVal hvl HVin
  clear h ht hp
  go_enter Tryz.func8, Tryz.ntmps8
  go_wp2_with (go_at_call 15; refine (unhide HP1 _).mono ?_; rintro e w ⟨rfl, rfl⟩)
  refine (unhide HVal).mono ?_
  rintro e w1 ⟨v1, rfl, hO1, hb1⟩
  obtain ⟨av, cv, rfl, hav1, hav2⟩ := ownsRow_opt hO1
  obtain ⟨y0, rfl⟩ : ∃ y, av = some y := by
    cases av with
    | none => have := hav1 rfl; omega
    | some y => exact ⟨y, rfl⟩
  obtain ⟨bb, rfl, hcv⟩ := hav2 y0 rfl
  have hbb := World.ownsRow.lt hO1 bb rfl
  have HO1 := hide hO1
  have HB1 := hide hb1
  clear hO1 hb1 hav1 hav2 HVal ha
  go_wp2_with (go_at_call 15; refine (unhide HP2 _).mono ?_; rintro e w1 ⟨rfl, rfl⟩)
  have HOp := hide (open200 200 200 200 200 w1 (by omega) (by omega) (by omega) (by omega))
  rw [show ((200 : Nat) : Int) = 200 from rfl] at HOp
  refine (unhide HOp).mono ?_
  rintro e w2 ⟨B, rb, sb, tb, kb, t4, us, rfl, hB2, hlB, hb2, hL0, hL1, hL2, hL3⟩
  have hLt : (t4.at t).L = List.replicate 200 0 := by
    have hk : t = 0 ∨ t = 1 ∨ t = 2 ∨ t = 3 := by omega
    rcases hk with rfl | rfl | rfl | rfl <;> assumption
  have HO2 := hide (OwnsI.keep (unhide HO1) (Chg.of_below hb2 (fun _ => False)) (fun _ _ e => e))
  have HB2 := hide (bl_trans (unhide HB1) hb2)
  have hBw : w.heap.size ≤ B := Nat.le_trans (unhide HB1).size hlB
  have hbbB : bb < B := Nat.lt_of_lt_of_le hbb.2 hlB
  have hglo := hB2.glo t
  have hslo := hB2.st.lo
  have hus : ∃ u, us[0]? = some u := by
    have hl := hB2.st.cl.len
    cases us with
    | nil => simp at hl
    | cons u _ => exact ⟨u, rfl⟩
  obtain ⟨u, hu⟩ := hus
  have hHi : hiOf t = 1 := by unfold hiOf; rw [if_pos (by omega)]
  have hTop : topOf t = 1 := by unfold topOf; rw [if_pos (by omega)]
  have hXin : ∀ x ∈ xs, 0 ≤ x ∧ x ≤ 1 := fun x hx => by have := unhide HVin x hx; omega
  -- Set
  have HSet := hide (relaySet_any B rb sb tb kb t4 _ us t ht4 (p : Int) _ xs w2 hB2 (OwnsI.lies (unhide HO2)) (own3 (unhide HO2)) (by omega) (by omega))
  clear hL0 hL1 hL2 hL3 HOp HO1 HB1 hb2 hB2
  go_wp2_with fail
  refine (unhide HSet).mono ?_
  rintro e w3 ⟨rfl, hB3, hc3⟩
  have hse := setErr_ok (t4.at t).L.length (hiOf t) p xs (by rw [hLt]; simp; omega) (by rw [hHi]; exact hXin)
  rw [hse] at hB3 ⊢
  rw [if_pos rfl, hLt, show (p : Int).toNat = p by omega] at hB3
  have HO3 := hide (OwnsI.keep (unhide HO2) hc3 (fun b e => by simp [Value.ownBlock] at e; subst e; intro e2; rcases e2 with e2 | e2 <;> omega))
  have HB3 := hide (below_chg (unhide HB2) hc3 (fun k e => by rcases e with e | e <;> omega))
  have hlen : (setL (List.replicate 200 0) p xs).length = 200 := by rw [setL_len _ _ _ (by simp; omega)]; simp
  have hat := put_at t4 t ht4 (setL (List.replicate 200 0) p xs)
  have HGet := hide (relayGet_any B rb sb tb kb _ _ us t ht4 (p : Int) (xs.length : Int) w3 hB3 (by omega))
  have HBk3 := hide hB3
  clear HSet hc3 hse HO2 HB2 hB3
  go_wp2_with fail
  refine (unhide HGet).mono ?_
  rintro e w4 ⟨v4, rfl, hg4, hB4, hc4⟩
  have hge := getErr_ok ((t4.put t (setL (List.replicate 200 0) p xs)).at t).L.length p xs.length (by rw [hat.1, hlen]; omega)
  rw [hge] at hg4 ⊢
  obtain ⟨hl4, _⟩ := hg4.1 rfl
  rw [hat.1, show (p : Int).toNat = p by omega, show ((xs.length : Nat) : Int).toNat = xs.length by omega] at hl4
  have hsp := span_set (List.replicate 200 0) xs p (by simp; omega)
  unfold spanL at hsp
  rw [hsp] at hl4
  obtain ⟨a4, c4, rfl, _⟩ := id hl4
  have HO4 := hide (OwnsI.keep (unhide HO3) hc4 (fun b e => by simp [Value.ownBlock] at e; subst e; intro e2; have e3 : bb = sb := e2; omega))
  have HB4 := hide (below_chg (unhide HB3) hc4 (fun k e => by have e3 : k = sb := e; omega))
  have HSm := hide (sameInts_any _ _ xs xs w4 hl4 (OwnsI.lies (unhide HO4)) (by omega))
  have HBk4 := hide hB4
  clear HGet hc4 hge HO3 HB3 hB4 HBk3 hg4 hl4 hsp
  go_wp2_with fail
  refine (unhide HSm).mono ?_
  rintro e w5 ⟨rfl, hb5⟩
  have HO5 := hide (OwnsI.keep (unhide HO4) (Chg.of_below hb5 (fun _ => False)) (fun _ _ e => e))
  have HB5 := hide (bl_trans (unhide HB4) hb5)
  have HBk5 := hide ((unhide HBk4).below hb5)
  have hfn := fn_cell w5 t ht4
  have HPk := hide (packed_any _ xs _ (LiesI.below (OwnsI.lies (unhide HO5)) (rule_new w5 (.cells #[.int .u8 1, .int .u8 2, .int .u8 4, .int .u8 3] 5))) (by omega))
  have hb6 := rule_new w5 (.cells #[.int .u8 1, .int .u8 2, .int .u8 4, .int .u8 3] 5)
  clear HSm hb5 HO4 HB4 HBk4
  go_wp2_with fail
  refine (unhide HPk).mono ?_
  rintro e w6 ⟨v6, rfl, ho6, hb6'⟩
  obtain ⟨a6, c6, rfl, _, _⟩ := ownsRow_opt ho6
  have HD6 := hide ho6
  have hb56 := bl_trans hb6 hb6'
  have HO6 := hide (OwnsI.keep (unhide HO5) (Chg.of_below hb56 (fun _ => False)) (fun _ _ e => e))
  have HB6 := hide (bl_trans (unhide HB5) hb56)
  have HBk6 := hide ((unhide HBk5).below hb56)
  clear HPk ho6 hb6 hb6' hb56 HO5 HB5 HBk5 hfn
  have e6 : packL xs = packT t xs := by unfold packT; rw [if_pos h1]
  rw [e6] at HD6 ⊢
  have hDl : (packT t xs).length ≤ 250 ∧ packT t xs ≠ [] := by
    have hl := packT_len t xs
    refine ⟨by rw [hl]; split <;> omega, fun e1 => ?_⟩
    rw [e1] at hl
    simp at hl
    split at hl <;> omega
  have hDl' : ((packT t xs).length : Int) < 256 := by omega
  have HDb : Hid (Bys (packT t xs)) := by rw [show packT t xs = packL xs by unfold packT; rw [if_pos h1]]; exact packN_bd _ _ _
  have HJ := hide (fun W => join_req (fnOf t) (p : Int) (xs.length : Int) W)
  go_wp2_with (go_at_call 25; refine (word_any _ _ (by omega) (by omega)).mono ?_; rintro e w' ⟨rfl, rfl⟩)
  refine (unhide HJ w6).mono ?_
  rintro e w7 ⟨a7, n7, c7, rfl, ho7, hb7⟩
  have HQ7 := hide ho7
  have HD7 := hide ((unhide HD6).kept hb7)
  have HO7 := hide (OwnsI.keep (unhide HO6) (Chg.of_below hb7 (fun _ => False)) (fun _ _ e => e))
  have HB7 := hide (bl_trans (unhide HB6) hb7)
  have HBk7 := hide ((unhide HBk6).below hb7)
  have HJ2 := hide (join_ans (fnOf t) ((packT t xs).length : Int) a6 (packT t xs).length c6 (packT t xs) w7 (unhide HD7).lies hDl.2 (by omega))
  clear ho7 hb7 HJ HD6 HO6 HB6 HBk6
  go_wp2_with fail
  refine (unhide HJ2).mono ?_
  rintro e w8 ⟨a8, n8, c8, rfl, ho8, hb8⟩
  have HW8 := hide ho8
  have HQ8 := hide ((unhide HQ7).kept hb8)
  have HO8 := hide (OwnsI.keep (unhide HO7) (Chg.of_below hb8 (fun _ => False)) (fun _ _ e => e))
  have HB8 := hide (bl_trans (unhide HB7) hb8)
  have hBk8 := (unhide HBk7).below hb8
  clear ho8 hb8 HJ2 HD7 HO7 HB7 HBk7 HQ7
  have hq := parse_readQ t p xs.length ht4 (by omega) (by omega) (by omega)
  have hLs : ((t4.put t (setL (List.replicate 200 0) p xs)).at t).L = setL (List.replicate 200 0) p xs := hat.1
  have hsp : spanL (setL (List.replicate 200 0) p xs) p xs.length = xs := span_set (List.replicate 200 0) xs p (by simp; omega)
  have hin : ∀ x ∈ setL (List.replicate 200 0) p xs, 0 ≤ x ∧ x ≤ topOf t := by
    intro x hx
    rw [hTop]
    unfold setL at hx
    rcases List.mem_append.1 hx with hx | hx
    · rcases List.mem_append.1 hx with hx | hx
      · have := List.eq_of_mem_replicate (List.mem_of_mem_take hx); omega
      · exact hXin x hx
    · have := List.eq_of_mem_replicate (List.mem_of_mem_drop hx); omega
  have hans := answer_ok B rb sb tb kb _ _ us allRules u (fnOf t) _ (readB p xs.length) (readQ t p xs.length) w8 hBk8 rfl hu (by simp [allRules]) (unhide HQ8).lies (own5 (unhide HQ8)) (by simp [readB, wd]) (by rw [readB_len]; omega) (readB_bys p xs.length (by omega) (by omega)) hq (by rw [show (readQ t p xs.length).t = t from rfl, hLs]; exact exc_read _ t p xs.length ht4 (by rw [hlen]; omega) (by rw [hlen]; omega)) (by rw [show (readQ t p xs.length).t = t from rfl, hLs]; exact hin) (fun rp v W hr hl _ => parse_fn t ht4 rp v _ W hr hl (readB_bys p xs.length (by omega) (by omega)) (by rw [readB_len]; omega))
  have hbysA : Bys (fnOf t :: ((packT t xs).length : Int) :: packT t xs) := by
    intro x hx
    rcases List.mem_cons.1 hx with rfl | hx
    · exact fnOf_bd t
    · rcases List.mem_cons.1 hx with rfl | hx
      · omega
      · exact unhide HDb x hx
  have HDn := hide (done_ok rb _ _ _ w8 (unhide HW8).lies hbysA (fnOf t :: ((packT t xs).length : Int) :: packT t xs) hbysA (fun _ w' => BankAt w' B rb sb tb kb (t4.put t (setL (List.replicate 200 0) p xs)) [allRules, []] us ∧ Chg w8 w' (fun k => k = sb ∨ k = (t4.at t).g)) (hans.mono (by
    rintro r w' ⟨a9, n9, c9, rfl, h9, hB9, hc9⟩
    rw [show (readQ t p xs.length).t = t from rfl, hLs, carry_read, told_read, show (readQ t p xs.length).ra = p from rfl, show (readQ t p xs.length).rc = xs.length from rfl, hsp] at h9
    rw [show (readQ t p xs.length).t = t from rfl, carry_read, put_same _ t ht4] at hB9
    rw [show (readQ t p xs.length).t = t from rfl, hat.2] at hc9
    refine ⟨⟨hB9, hc9⟩, a9, n9, c9, rfl, h9.lies, ?_⟩
    refine (unhide HW8).lies.chg hc9 (fun b e => ?_)
    obtain ⟨cs, fr', q5⟩ := own5 (unhide HW8) b e
    intro e2
    rcases e2 with e2 | e2
    · exact rows_ne q5 hBk8.st.row (by decide) e2
    · have := (hBk8.tab t ht4).2.1.ent
      rw [hat.2] at this
      exact rows_ne q5 this (by decide) e2)) ⟨_, _, _, rfl⟩)
  rw [show decide (fnOf t :: ((packT t xs).length : Int) :: packT t xs = fnOf t :: ((packT t xs).length : Int) :: packT t xs) = true by simp] at HDn
  clear hans hq hsp hin hbysA hBk8
  go_wp2_with fail
  refine (unhide HDn).mono ?_
  rintro e w9 ⟨rfl, r0, hB9, hc9⟩
  have hO9 := OwnsI.keep (unhide HO8) hc9 (fun b e => by simp [Value.ownBlock] at e; subst e; intro e2; rcases e2 with e2 | e2 <;> omega)
  have HB9 := hide (below_chg (unhide HB8) hc9 (fun k e => by rcases e with e | e <;> omega))
  have z0 : ∃ z, w9.cell? ⟨bb, 0, none⟩ = some (.int .i64 z) := ⟨_, hO9.cells 0 (by omega)⟩
  obtain ⟨z, z0⟩ := z0
  have zf : w9.frozen? ⟨bb, 0, none⟩ = false := own_unfrozen hO9 rfl 0
  have hO10 := hO9.store 0 2
  have hc10 : Chg w9 (w9.setCell ⟨bb, 0, none⟩ (.int .i64 2)) (fun k => k = bb) := Chg.set w9 bb 0 _
  have hB10 := hB9.keep hc10 (fun k l e => by have e2 : k = bb := e; omega)
  have HB10 := hide (below_chg (unhide HB9) hc10 (fun k e => by have e2 : k = bb := e; omega))
  have hsl : (xs.set 0 2).length = xs.length := by simp
  rw [hsl] at hO10
  have HSet2 := hide (relaySet_any B rb sb tb kb _ _ us t ht4 (p : Int) _ (xs.set 0 2) _ hB10 (by have := OwnsI.lies hO10; exact this) (own3 hO10) (by rw [hsl]; omega) (by omega))
  have HO10 := hide hO10
  clear HDn hc9 HO8 HB8 HW8 HQ8 hB9 hO9 hB10 hO10 hc10 HB9
  have hp0 : (0 : Int) < (xs.length : Int) := by omega
  have hse2 : setErr ((t4.put t (setL (List.replicate 200 0) p xs)).at t).L.length (hiOf t) (p : Int) (xs.set 0 2) = 5 := by
    rw [hat.1, hlen, hHi]
    exact setErr_val 200 _ p (xs.set 0 2) (by rw [hsl]; omega) 2 (by cases xs with | nil => simp at hvl | cons y ys => simp) (by omega)
  go_wp2_with fail
  refine (unhide HSet2).mono ?_
  rintro e w11 ⟨rfl, hB11, hc11⟩
  rw [hse2] at hB11 ⊢
  rw [if_neg (by omega), put_same _ t ht4] at hB11
  rw [hat.2] at hc11
  have HB11 := hide (below_chg (unhide HB10) hc11 (fun k e => by rcases e with e | e <;> omega))
  have hb12 := rule_new w11 (.cells #[.int .i64 1, .int .i64 1] 3)
  have hB12 := hB11.below hb12
  have hr12 : (w11.alloc (.cells #[.int .i64 1, .int .i64 1] 3)).heap[w11.heap.size]? = some (.cells (([1, 1] : List Int).map (Value.int .i64)).toArray 3 (0, 0)) := heap_alloc_new w11 _
  have HSet3 := hide (relaySet_any B rb sb tb kb _ _ us t ht4 (199 : Int) (.slice (some ⟨w11.heap.size, 0, none⟩) 2 2) [1, 1] _ hB12 (rowI_lies hr12 0 2 2 (by simp)) (fun b e => by simp [Value.ownBlock] at e; subst e; exact ⟨_, _, hr12⟩) (by simp) (by omega))
  have HB12 := hide (bl_trans (unhide HB11) hb12)
  clear HSet2 hB11 hc11 HB11 HB10 hb12 hr12 HO10 hB12 hse2
  go_wp2_with fail
  refine (unhide HSet3).mono ?_
  rintro e w13 ⟨rfl, hB13, hc13⟩
  have hse3 : setErr ((t4.put t (setL (List.replicate 200 0) p xs)).at t).L.length (hiOf t) (199 : Int) [1, 1] = 4 := by
    rw [hat.1, hlen]
    exact setErr_far _
  rw [hse3] at hB13 ⊢
  rw [hat.2] at hc13
  have HB13 := hide (below_chg (unhide HB12) hc13 (fun k e => by rcases e with e | e <;> omega))
  have HSet4 := hide (relaySet_none B rb sb tb kb _ _ us (4 + (t : Int)) 0 (by omega) (.slice none 0 0) w13 hB13 ⟨_, _, _, rfl⟩)
  clear HSet3 hB13 hc13 HB12 hse3
  go_wp2_with fail
  refine (unhide HSet4).mono ?_
  rintro e w14 ⟨rfl, hc14⟩
  have HB14 := hide (below_chg (unhide HB13) hc14 (fun k e => by have e3 : k = sb := e; omega))
  clear HSet4 hc14 HB13
  go_wp2
  go_ret
  exact ⟨rfl, unhide HB14⟩

end Go.Proofs.YtfekelmldebplaaGreatDoor
