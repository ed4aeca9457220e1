import Derived.Test.YtfekelmldebplaaGreatDoorTc
import Derived.Test.YtfekelmldebplaaGreatDoorUd
namespace Go.Proofs.YtfekelmldebplaaGreatDoor
open Go.RowKit

theorem rule_alloc (w : World) (o : Obj) : Below w.heap.size w (w.alloc o) := (Below.refl _ _).alloc (Nat.le_refl _) _

theorem letsRead_any (x : Rule) (w : World) : Calls Tryz.prog 209 #[.agg x.cells] w fun e w' => e = .returned (.bool (lets false x)) ∧ Below w.heap.size w w' := by
  obtain ⟨tt, lo, hi, r, ww⟩ := x
  unfold Rule.cells
  go_enter Tryz.func209, Tryz.ntmps209
  go_wp2
  go_ret
  exact ⟨rfl, by first | exact Below.refl _ _ | exact rule_alloc _ _⟩
theorem letsWrite_any (x : Rule) (w : World) : Calls Tryz.prog 210 #[.agg x.cells] w fun e w' => e = .returned (.bool (lets true x)) ∧ Below w.heap.size w w' := by
  obtain ⟨tt, lo, hi, r, ww⟩ := x
  unfold Rule.cells
  go_enter Tryz.func210, Tryz.ntmps210
  go_wp2
  go_ret
  exact ⟨rfl, by first | exact Below.refl _ _ | exact rule_alloc _ _⟩

set_option maxRecDepth 10000 in
set_option maxHeartbeats 400000 in
theorem isOver_any (x : Rule) (t ad : Int) (w : World) : Calls Tryz.prog 228 #[.agg x.cells, .int .i64 t, .int .i64 ad] w fun e w' => e = .returned (.bool (x.over t ad)) ∧ Below w.heap.size w w' := by
  obtain ⟨tt, lo, hi, r, ww⟩ := x
  unfold Rule.cells
  by_cases h1 : tt = t
  · subst h1
    by_cases h2 : lo ≤ ad
    · go_enter Tryz.func228, Tryz.ntmps228
      go_wp2
      go_ret
      exact ⟨ret_bool (by simp [Rule.over, h2]), by first | exact Below.refl _ _ | exact rule_alloc _ _⟩
    · have h2' : decide (lo ≤ ad) = false := by simpa using h2
      go_enter Tryz.func228, Tryz.ntmps228
      go_wp2
      go_ret
      exact ⟨ret_bool (by simp [Rule.over, h2']), by first | exact Below.refl _ _ | exact rule_alloc _ _⟩
  · have h1' : (tt == t) = false := by simpa using h1
    go_enter Tryz.func228, Tryz.ntmps228
    go_wp2
    go_ret
    exact ⟨ret_bool (by simp [Rule.over, h1]), by first | exact Below.refl _ _ | exact rule_alloc _ _⟩

/-- The function that asks a rule. -/
def letsF (md : Bool) : Nat := if md then 210 else 209
theorem lets_any (md : Bool) (x : Rule) (w : World) : Calls Tryz.prog (letsF md) #[.agg x.cells] w fun e w' => e = .returned (.bool (lets md x)) ∧ Below w.heap.size w w' := by
  cases md
  · exact letsRead_any x w
  · exact letsWrite_any x w

/-- The number under a pointer. -/
def ptInt (w : World) : Value → Nat
  | .pointer (some ad) => match w.cell? ad with
    | some (.int _ x) => x.toNat
    | _ => 0
  | _ => 0
/-- What the closure has caught. -/
structure Caught (w : World) (md : Bool) (l p q : Nat) (t ad : Int) : Prop where
  cl : w.cell? ⟨l, 0, none⟩ = some (.func (.func (letsF md)) #[] #[])
  cp : w.cell? ⟨p, 0, none⟩ = some (.int .i64 t)
  cq : w.cell? ⟨q, 0, none⟩ = some (.int .i64 ad)
  ll : l < w.heap.size
  lp : p < w.heap.size
  lq : q < w.heap.size
theorem Caught.below {w w' : World} {md : Bool} {l p q : Nat} {t ad : Int} (h : Caught w md l p q t ad) (hb : Below w.heap.size w w') : Caught w' md l p q t ad :=
  ⟨(hb.cell (by exact h.ll)).trans h.cl, (hb.cell (by exact h.lp)).trans h.cp, (hb.cell (by exact h.lq)).trans h.cq, Nat.lt_of_lt_of_le h.ll hb.size, Nat.lt_of_lt_of_le h.lp hb.size, Nat.lt_of_lt_of_le h.lq hb.size⟩

set_option maxRecDepth 10000 in
set_option maxHeartbeats 1000000 in
theorem may1_any (md : Bool) (x : Rule) (l p q : Nat) (t ad : Int) (w : World) (h : Caught w md l p q t ad) :
    Calls Tryz.prog 227 #[.agg x.cells, .pointer (some ⟨l, 0, none⟩), .pointer (some ⟨p, 0, none⟩), .pointer (some ⟨q, 0, none⟩)] w fun e w' => e = .returned (.bool (lets md x && x.over t ad)) ∧ Below w.heap.size w w' := by
  cases md with
  | false =>
    have HL := hide (fun w => letsRead_any x w)
    have HO := hide (fun w => isOver_any x t ad w)
    generalize hbo : lets false x = bo at HL
    clear hbo
    generalize hbv : x.over t ad = bv at HO
    clear hbv
    obtain ⟨tt, lo, hi, r, ww⟩ := x
    unfold Rule.cells at HL HO ⊢
    have hb0 := rule_alloc w (.cells #[.int .i64 tt, .int .i64 lo, .int .i64 hi, .bool r, .bool ww] 52)
    have H := hide (h.below hb0)
    have HR : Hid ((w.alloc (.cells #[.int .i64 tt, .int .i64 lo, .int .i64 hi, .bool r, .bool ww] 52)).heap[w.heap.size]? = some (.cells #[.int .i64 tt, .int .i64 lo, .int .i64 hi, .bool r, .bool ww] 52 (0, 0))) := heap_alloc_new w _
    have cl := (h.below hb0).cl
    have HB0 := hide hb0
    clear hb0 h
    unfold letsF at cl
    simp at cl
    go_enter Tryz.func227, Tryz.ntmps227
    go_wp2_with fail
    refine (unhide HL _).mono ?_
    rintro e w1 ⟨rfl, hb1⟩
    have h1 := (unhide H).below hb1
    have cp := h1.cp
    have cq := h1.cq
    have r1 := (hb1.block w.heap.size (by simp)).trans (unhide HR)
    have g0 := cell_of_row _ _ 0 _ _ _ r1
    have g1 := cell_of_row _ _ 1 _ _ _ r1
    have g2 := cell_of_row _ _ 2 _ _ _ r1
    have g3 := cell_of_row _ _ 3 _ _ _ r1
    have g4 := cell_of_row _ _ 4 _ _ _ r1
    simp at g0 g1 g2 g3 g4
    have HB1 := hide (bl_trans (unhide HB0) hb1)
    clear h1 r1 hb1 HL cl
    cases bo with
    | false =>
      go_wp2
      go_ret
      exact ⟨ret_bool (by simp), unhide HB1⟩
    | true =>
      go_wp2_with fail
      refine (unhide HO _).mono ?_
      rintro e w2 ⟨rfl, hb2⟩
      clear g0 g1 g2 g3 g4 cp cq HO
      go_wp2
      go_ret
      exact ⟨ret_bool (by simp), bl_trans (unhide HB1) hb2⟩
  | true =>
    have HL := hide (fun w => letsWrite_any x w)
    have HO := hide (fun w => isOver_any x t ad w)
    generalize hbo : lets true x = bo at HL
    clear hbo
    generalize hbv : x.over t ad = bv at HO
    clear hbv
    obtain ⟨tt, lo, hi, r, ww⟩ := x
    unfold Rule.cells at HL HO ⊢
    have hb0 := rule_alloc w (.cells #[.int .i64 tt, .int .i64 lo, .int .i64 hi, .bool r, .bool ww] 52)
    have H := hide (h.below hb0)
    have HR : Hid ((w.alloc (.cells #[.int .i64 tt, .int .i64 lo, .int .i64 hi, .bool r, .bool ww] 52)).heap[w.heap.size]? = some (.cells #[.int .i64 tt, .int .i64 lo, .int .i64 hi, .bool r, .bool ww] 52 (0, 0))) := heap_alloc_new w _
    have cl := (h.below hb0).cl
    have HB0 := hide hb0
    clear hb0 h
    unfold letsF at cl
    simp at cl
    go_enter Tryz.func227, Tryz.ntmps227
    go_wp2_with fail
    refine (unhide HL _).mono ?_
    rintro e w1 ⟨rfl, hb1⟩
    have h1 := (unhide H).below hb1
    have cp := h1.cp
    have cq := h1.cq
    have r1 := (hb1.block w.heap.size (by simp)).trans (unhide HR)
    have g0 := cell_of_row _ _ 0 _ _ _ r1
    have g1 := cell_of_row _ _ 1 _ _ _ r1
    have g2 := cell_of_row _ _ 2 _ _ _ r1
    have g3 := cell_of_row _ _ 3 _ _ _ r1
    have g4 := cell_of_row _ _ 4 _ _ _ r1
    simp at g0 g1 g2 g3 g4
    have HB1 := hide (bl_trans (unhide HB0) hb1)
    clear h1 r1 hb1 HL cl
    cases bo with
    | false =>
      go_wp2
      go_ret
      exact ⟨ret_bool (by simp), unhide HB1⟩
    | true =>
      go_wp2_with fail
      refine (unhide HO _).mono ?_
      rintro e w2 ⟨rfl, hb2⟩
      clear g0 g1 g2 g3 g4 cp cq HO
      go_wp2
      go_ret
      exact ⟨ret_bool (by simp), bl_trans (unhide HB1) hb2⟩

set_option maxRecDepth 10000 in
set_option maxHeartbeats 1000000 in
theorem indexMay_any (md : Bool) (v : Value) (rs : List Rule) (l p q : Nat) (t ad : Int) (w : World) (h : ListAt w v rs) (hn : rs.length ≤ 100000000) (hc : Caught w md l p q t ad) :
    Calls Tryz.prog 235 #[v, .func (.func 227) #[] #[.pointer (some ⟨l, 0, none⟩), .pointer (some ⟨p, 0, none⟩), .pointer (some ⟨q, 0, none⟩)]] w fun e w' => ∃ k : Int, e = .returned (.int .i64 k) ∧ decide (0 ≤ k) = rs.any (fun x => lets md x && x.over t ad) ∧ Below w.heap.size w w' := by
  obtain ⟨a, c, rfl, hl⟩ := h
  have HL := hide hl
  have HCa := hide hc
  clear hl hc
  go_enter Tryz.func235, Tryz.ntmps235
  go_wp2
  go_loopw [8] (fun i wr => ∃ k : Nat, k ≤ rs.length ∧ i = .int .i64 k ∧ Hid (rs.any (fun x => lets md x && x.over t ad) = (rs.drop k).any (fun x => lets md x && x.over t ad)) ∧ Below w.heap.size w wr) (fun i _ => rs.length - (intOf i).toNat)
  case atStart => exact ⟨0, by omega, rfl, hide rfl, Below.refl _ _⟩
  case round =>
    obtain ⟨k, hk, rfl, HA, hb⟩ := hrel
    by_cases hlt : k < rs.length
    · obtain ⟨x, hx⟩ : ∃ x, rs[k]? = some x := ⟨_, List.getElem?_eq_getElem hlt⟩
      obtain ⟨b, o, rfl, hbl, hc⟩ := (unhide HL).resolve_left (fun e => by rw [e] at hlt; simp at hlt)
      have HC := hide (hc k x hx)
      have HN := hide (any_next (fun x => lets md x && x.over t ad) rs k x hx)
      clear hc hx
      have HW := hide (may1_any md x l p q t ad _ ((unhide HCa).below hb))
      generalize hlt2 : (lets md x && x.over t ad) = bad at HN HW
      clear hlt2
      obtain ⟨tt, lo, hi, rr, ww⟩ := x
      unfold Rule.cells at HC HW
      have g0 := (hb.cell (by exact hbl)).trans (unhide HC 0 _ rfl)
      have g1 := (hb.cell (by exact hbl)).trans (unhide HC 1 _ rfl)
      have g2 := (hb.cell (by exact hbl)).trans (unhide HC 2 _ rfl)
      have g3 := (hb.cell (by exact hbl)).trans (unhide HC 3 _ rfl)
      have g4 := (hb.cell (by exact hbl)).trans (unhide HC 4 _ rfl)
      rw [Nat.add_zero] at g0
      go_wp2_with fail
      refine (unhide HW).mono ?_
      rintro e w2 ⟨rfl, hb2⟩
      clear g0 g1 g2 g3 g4
      cases bad with
      | true =>
        go_wp2
        go_ret
        refine ⟨(k : Int), rfl, ?_, bl_trans hb hb2⟩
        rw [unhide HA, unhide HN]
        simp
      | false =>
        go_wp2
        go_roundw
        case rel =>
          refine ⟨k + 1, by omega, by go_num, ?_, bl_trans hb hb2⟩
          show _ = _
          rw [unhide HA, unhide HN]
          simp
        case measure => simp [intOf]; omega
    · obtain rfl : k = rs.length := by omega
      go_wp2
      go_ret
      refine ⟨-1, rfl, ?_, hb⟩
      rw [unhide HA]
      simp

set_option maxRecDepth 10000 in
set_option maxHeartbeats 1000000 in
theorem containsMay_any (md : Bool) (v : Value) (rs : List Rule) (l p q : Nat) (t ad : Int) (w : World) (h : ListAt w v rs) (hn : rs.length ≤ 100000000) (hc : Caught w md l p q t ad) :
    Calls Tryz.prog 226 #[v, .func (.func 227) #[] #[.pointer (some ⟨l, 0, none⟩), .pointer (some ⟨p, 0, none⟩), .pointer (some ⟨q, 0, none⟩)]] w fun e w' => e = .returned (.bool (rs.any (fun x => lets md x && x.over t ad))) ∧ Below w.heap.size w w' := by
  have HI := hide (indexMay_any md v rs l p q t ad w h hn hc)
  clear h hc
  go_enter Tryz.func226, Tryz.ntmps226
  go_wp2_with fail
  refine (unhide HI).mono ?_
  rintro e w2 ⟨k, rfl, hk, hb⟩
  have HK := hide hk
  clear hk HI
  go_wp2
  go_ret
  exact ⟨ret_bool (unhide HK), hb⟩

set_option maxRecDepth 10000 in
set_option maxHeartbeats 1000000 in
theorem mayL_any (md : Bool) (v : Value) (rs : List Rule) (t : Int) (a n : Nat) (w : World) (h : ListAt w v rs) (hn : rs.length ≤ 100000000) (ha : a ≤ 100000) (hc : n ≤ 100000) :
    Calls Tryz.prog 208 #[v, .func (.func (letsF md)) #[] #[], .int .i64 t, .int .i64 a, .int .i64 n] w fun e w' => e = .returned (.bool (mayB md rs t a n)) ∧ Below w.heap.size w w' := by
  have H := hide h
  obtain ⟨av, c, rfl, _⟩ := h
  generalize hF : letsF md = F
  have HF := hide hF
  clear hF
  go_enter Tryz.func208, Tryz.ntmps208
  go_wp2
  go_loopw [11] (fun pt wr => ∃ k g : Nat, k ≤ n ∧ pt = .pointer (some ⟨g, 0, none⟩) ∧ Caught wr md w.heap.size (w.heap.size + 1) g t ((a : Int) + (k : Int)) ∧ (∀ j, j < k → rs.any (fun x => lets md x && x.over t ((a : Int) + (j : Int))) = true) ∧ Below w.heap.size w wr) (fun pt wr => a + n - ptInt wr pt)
  case atStart =>
    have hb : Below w.heap.size w (((w.alloc (.cells #[.func (.func F) #[] #[]] 218)).alloc (.cells #[.int .i64 t] 3)).alloc (.cells #[.int .i64 a] 3)) := (((Below.refl _ _).alloc (Nat.le_refl _) _).alloc (by simp) _).alloc (by simp; omega) _
    refine ⟨0, _, by omega, rfl, ⟨?_, ?_, ?_, by simp; omega, by simp, by simp⟩, fun j hj => by omega, hb⟩
    · rw [World.cell?_alloc_lt _ _ _ (by simp; omega), World.cell?_alloc_lt _ _ _ (by simp), unhide HF]
      exact cell_of_row _ _ 0 _ _ _ (heap_alloc_new w _)
    · rw [World.cell?_alloc_lt _ _ _ (by simp)]
      have := heap_alloc_new (w.alloc (.cells #[.func (.func F) #[] #[]] 218)) (.cells #[.int .i64 t] 3)
      simp only [World.size_alloc] at this
      exact cell_of_row _ _ 0 _ _ _ this
    · have := heap_alloc_new ((w.alloc (.cells #[.func (.func F) #[] #[]] 218)).alloc (.cells #[.int .i64 t] 3)) (.cells #[.int .i64 a] 3)
      simp only [World.size_alloc] at this
      have e := cell_of_row _ _ 0 _ _ _ this
      simpa using e
  case round =>
    obtain ⟨k, g, hk, rfl, HC, HA, hb⟩ := hrel
    have cg := HC.cq
    have HCa := hide HC
    have HAA := hide HA
    clear HC HA
    by_cases hlt : k < n
    · have HR := hide (containsMay_any md _ rs w.heap.size (w.heap.size + 1) g t ((a : Int) + (k : Int)) wr ((unhide H).below hb) hn (unhide HCa))
      have hlt' : (a : Int) + (k : Int) < (a : Int) + (n : Int) := by omega
      have HM : Hid (mayB md rs t a n = true → rs.any (fun x => lets md x && x.over t ((a : Int) + (k : Int))) = true) := fun e => List.all_eq_true.1 e k (List.mem_range.2 hlt)
      have HN : Hid (rs.any (fun x => lets md x && x.over t ((a : Int) + (k : Int))) = true → ∀ j, j < k + 1 → rs.any (fun x => lets md x && x.over t ((a : Int) + (j : Int))) = true) := fun e j hj => by
        by_cases h : j < k
        · exact unhide HAA j h
        · obtain rfl : j = k := by omega
          exact e
      generalize rs.any (fun x => lets md x && x.over t ((a : Int) + (k : Int))) = bo at HR HM HN
      go_wp2_with fail
      refine (unhide HR).mono ?_
      rintro e w2 ⟨rfl, hb2⟩
      have hC2 := (unhide HCa).below hb2
      have cg2 := hC2.cq
      have HC2 := hide hC2
      clear HR hC2 cg
      cases bo with
      | false =>
        go_wp2
        go_ret
        refine ⟨ret_bool ?_, bl_trans hb hb2⟩
        cases hmm : mayB md rs t a n with
        | false => rfl
        | true => exact absurd (unhide HM hmm) (by simp)
      | true =>
        go_wp2
        go_roundw
        case rel =>
          have hC3 := (unhide HC2).below (rule_alloc w2 (.cells #[.int .i64 ((a : Int) + (k : Int) + 1)] 3))
          refine ⟨k + 1, _, by omega, rfl, ⟨hC3.cl, hC3.cp, ?_, hC3.ll, hC3.lp, by simp⟩, unhide HN trivial, bl_trans (bl_trans hb hb2) (rule_alloc _ _)⟩
          have e := cell_of_row _ _ 0 _ _ _ (heap_alloc_new w2 (.cells #[.int .i64 ((a : Int) + (k : Int) + 1)] 3))
          rw [e, show ((a : Int) + ((k + 1 : Nat) : Int)) = (a : Int) + (k : Int) + 1 by omega]
          rfl
        case measure =>
          have e := cell_of_row _ _ 0 _ _ _ (heap_alloc_new w2 (.cells #[.int .i64 ((a : Int) + (k : Int) + 1)] 3))
          have e1 := (unhide HCa).cq
          simp only [ptInt, e, e1]
          simp
          omega
    · obtain rfl : k = n := by omega
      have hlt' : decide ((a : Int) + (k : Int) < (a : Int) + (k : Int)) = false := by simp
      have HE : Hid (mayB md rs t a k = true) := List.all_eq_true.2 fun j hj => unhide HAA j (List.mem_range.1 hj)
      go_wp2
      go_ret
      exact ⟨ret_bool (unhide HE).symm, hb⟩

set_option maxRecDepth 10000 in
theorem mayRead_any (v : Value) (rs : List Rule) (t : Int) (a n : Nat) (w : World) (h : ListAt w v rs) (hn : rs.length ≤ 100000000) (ha : a ≤ 100000) (hc : n ≤ 100000) :
    Calls Tryz.prog 190 #[v, .int .i64 t, .int .i64 a, .int .i64 n] w fun e w' => e = .returned (.bool (mayB false rs t a n)) ∧ Below w.heap.size w w' := by
  have H := hide (mayL_any false v rs t a n w h hn ha hc)
  obtain ⟨av, c, rfl, _⟩ := h
  go_enter Tryz.func190, Tryz.ntmps190
  go_wp2_with fail
  refine (unhide H).mono ?_
  rintro e w1 ⟨rfl, hb⟩
  clear H
  go_wp2
  go_ret
  exact ⟨rfl, hb⟩
set_option maxRecDepth 10000 in
theorem mayWrite_any (v : Value) (rs : List Rule) (t : Int) (a n : Nat) (w : World) (h : ListAt w v rs) (hn : rs.length ≤ 100000000) (ha : a ≤ 100000) (hc : n ≤ 100000) :
    Calls Tryz.prog 191 #[v, .int .i64 t, .int .i64 a, .int .i64 n] w fun e w' => e = .returned (.bool (mayB true rs t a n)) ∧ Below w.heap.size w w' := by
  have H := hide (mayL_any true v rs t a n w h hn ha hc)
  obtain ⟨av, c, rfl, _⟩ := h
  go_enter Tryz.func191, Tryz.ntmps191
  go_wp2_with fail
  refine (unhide H).mono ?_
  rintro e w1 ⟨rfl, hb⟩
  clear H
  go_wp2
  go_ret
  exact ⟨rfl, hb⟩
end Go.Proofs.YtfekelmldebplaaGreatDoor
