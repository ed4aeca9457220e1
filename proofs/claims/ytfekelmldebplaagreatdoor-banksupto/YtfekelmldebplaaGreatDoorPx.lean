import Derived.Deep.RegionHeld3
import Derived.BigRegion
import Derived.Test.YtfekelmldebplaaGreatDoorYm
import Derived.Test.YtfekelmldebplaaGreatDoorPs
import Derived.Test.YtfekelmldebplaaGreatDoorPm
set_option maxRecDepth 100000
set_option maxHeartbeats 8000000
namespace Go.Proofs.YtfekelmldebplaaGreatDoor
open Go.RowKit
structure Tch.Ok (x : Tch) : Prop where
 t : 0 ≤ x.t ∧ x.t < 4
 a : 0 ≤ x.a ∧ x.a < 65536
 n : 0 ≤ x.n ∧ x.n ≤ 2000
def barI (y : T4) (rs : List Rule) (ts : List Tch) : Int :=
 if ts.all (fun x => hasB (y.at x.t.toNat).L.length x.a x.n) then (if ts.all (fun x => mayB x.wr rs x.t x.a x.n.toNat) then 0 else 4) else 2
theorem aAk (ts : List Tch) (i j : Nat) (x : Tch) (hx : ts[i]? = some x) (hj : j < 4) : (ts.flatMap fun x => x.cells.toList).toArray[i * 4 + j]? = x.cells[j]? := by
 induction ts generalizing i with
 | nil => simp at hx
 | cons y l ih =>
  cases i with
  | zero =>
   simp at hx
   subst hx
   simp only [List.flatMap_cons, Nat.zero_mul, Nat.zero_add]
   rw [List.getElem?_toArray, List.getElem?_append_left (by simpa [Tch.cells] using hj)]
   simp
  | succ i =>
   have := ih i (by simpa using hx)
   rw [List.getElem?_toArray] at this ⊢
   rw [List.flatMap_cons, List.getElem?_append_right (by simp [Tch.cells]; omega)]
   rw [← this]
   congr 1
   simp [Tch.cells]
   omega
theorem aU.cell {B g n c : Nat} {W : World} {ts : List Tch} (h : aU B W (.slice (some ⟨g, 0, none⟩) n c) ts) (i : Nat) (x : Tch) (hx : ts[i]? = some x) (j : Nat) (u : Value) (hu : x.cells[j]? = some u) : W.cell? ⟨g, i * 4 + j, none⟩ = some u := by
 obtain ⟨g', e, _, hr⟩ := h
 cases e
 have hj : j < 4 := by
  have := (Array.getElem?_eq_some_iff.1 hu).1
  simpa [Tch.cells] using this
 rw [cell_of_row _ _ _ _ _ _ hr, aAk ts i j x hx hj]
 exact hu
theorem uF {α : Type} (f : α → Bool) (l : List α) (k : Nat) (x : α) (h : l[k]? = some x) (h0 : (l.take k).all f = true) (hx : f x = true) : (l.take (k + 1)).all f = true := by
 rw [List.take_add_one, h, List.all_append, h0]
 simp [hx]
theorem zP {α : Type} (f : α → Bool) (l : List α) (k : Nat) (x : α) (h : l[k]? = some x) (hx : f x = false) : l.all f = false := by
 rw [Bool.eq_false_iff]
 intro e
 rw [List.all_eq_true] at e
 rw [e x (List.mem_of_getElem? h)] at hx
 cases hx
theorem aBi (f : Nat → Bool) (m : Nat) (h : (List.range m).all f = true) (hx : f m = true) : (List.range (m + 1)).all f = true := by
 rw [List.range_succ, List.all_append, h]
 simp [hx]
theorem aBh (f : Nat → Bool) (m n : Nat) (hm : m < n) (hx : f m = false) : (List.range n).all f = false := by
 rw [Bool.eq_false_iff]
 intro e
 rw [List.all_eq_true] at e
 rw [e m (List.mem_range.2 hm)] at hx
 cases hx
theorem cK.below' {w w' : World} {v : Value} {rs : List Rule} (h : cK w v rs) (hb : Below w.heap.size w w') : cK w' v rs := by
 obtain ⟨a, c, rfl, h⟩ := h
 refine ⟨a, c, rfl, ?_⟩
 rcases h with h | ⟨b, o, e, hl, hc⟩
 ·exact .inl h
 ·exact .inr ⟨b, o, e, Nat.lt_of_lt_of_le hl hb.size, fun i x hx j u hu => (hb.cell (by exact hl)).trans (hc i x hx j u hu)⟩
theorem pO (B yb g : Nat) (s0 s1 s2 s3 rv : Value) (y : T4) (LL : List (List Rule)) (cl : Nat) (rs : List Rule) (ts : List Tch) (w : World) (h : RefAt w yb s0 s1 s2 s3 rv y LL) (hcl : LL[cl]? = some rs) (h8 : rs.length ≤ 8) (ht : aU B w (.slice (some ⟨g, 0, none⟩) ts.length ts.length) ts) (hok : ∀ x ∈ ts, x.Ok) (hn : ts.length ≤ 2) :
  Calls Tryz.prog 146 #[.pointer (some ⟨yb, 0, none⟩), .int .i64 (cl : Int), .slice (some ⟨g, 0, none⟩) ts.length ts.length] w fun e w' => e = .returned (.int .i64 (barI y rs ts)) ∧ Below w.heap.size w w' := by
 have HC : Hid (∀ W, Below w.heap.size w W → ∀ i x, ts[i]? = some x → ∀ j u, x.cells[j]? = some u → W.cell? ⟨g, i * 4 + j, none⟩ = some u) := fun W hW i x hx j u hu => by
  obtain ⟨g', e, hg, hr⟩ := ht
  cases e
  exact (hW.cell (by exact (Array.getElem?_eq_some_iff.1 hr).1)).trans (aU.cell ⟨g, rfl, hg, hr⟩ i x hx j u hu)
 have HTH : Hid (∀ W, Below w.heap.size w W → ∀ t : Nat, t < 4 → ∀ a n : Int, 0 ≤ n → Calls Tryz.prog 143 #[.pointer (some ⟨yb, 0, none⟩), .int .i64 (t : Int), .int .i64 a, .int .i64 n] W fun e w' => e = .returned (.bool (hasB (y.at t).L.length a n)) ∧ w' = W) := fun W hW t ht4 a n hn0 =>
  lW yb t (y.at t).L.length _ _ a n W ht4 ((hW.cell (by exact (Array.getElem?_eq_some_iff.1 h.row).1)).trans (h.tab t ht4)) (h.len t ht4) hn0
 have HMAY : Hid (∀ W, Below w.heap.size w W → ∀ (t a : Int) (md : Bool), Calls Tryz.prog 180 #[.pointer (some ⟨yb, 0, none⟩), .int .i64 (cl : Int), .int .i64 t, .int .i64 a, .bool md] W fun e w' => e = .returned (.bool (rs.any fun x => lets md x && x.over t a)) ∧ Below w.heap.size w w') := fun W hW t a md => by
  obtain ⟨ra, rc, e, hl⟩ := h.rules
  rcases hl with hl | ⟨rb, ro, e2, hrb, hl⟩
  ·rw [hl] at hcl
   simp at hcl
  ·obtain ⟨u, hu, hla⟩ := hl cl rs hcl
   have h5 : w.cell? ⟨yb, 5, none⟩ = some rv := by
    rw [cell_of_row _ _ _ _ _ _ h.row]
    rfl
   rw [e, e2] at h5
   refine (aC3 yb rb ro cl LL.length rc t a md u rs W ((hW.cell (by exact (Array.getElem?_eq_some_iff.1 h.row).1)).trans h5) (List.getElem?_eq_some_iff.1 hcl).1 ((hW.cell (by exact hrb)).trans hu) (hla.below' hW) h8).mono ?_
   rintro e w' ⟨rfl, hb⟩
   exact ⟨rfl, aD hW hb⟩
 have HOK := hide hok
 clear h ht hok
 go_enter Tryz.func146, Tryz.ntmps146
 go_wp2
 go_loopw [7, 8] (fun i b wr => ∃ k : Nat, k ≤ ts.length ∧ i = .int .i64 k ∧ Hid ((ts.take k).all (fun x => hasB (y.at x.t.toNat).L.length x.a x.n) = true) ∧ Hid (Below w.heap.size w wr)) (fun i b _ => ts.length - (intOf i).toNat)
 case atStart => exact ⟨0, by omega, rfl, rfl, Below.refl _ _⟩
 case round =>
  obtain ⟨k, hk, rfl, HA, HB⟩ := hrel
  by_cases hlt : k < ts.length
  ·obtain ⟨x, hx⟩ : ∃ x, ts[k]? = some x := ⟨_, List.getElem?_eq_getElem hlt⟩
   have hxo := aA HOK x (List.mem_of_getElem? hx)
   have HX := hide hx
   obtain ⟨xt, xa, xn, xw⟩ := x
   obtain ⟨t, rfl⟩ : ∃ t : Nat, xt = (t : Int) := ⟨xt.toNat, by have := hxo.t; simp at this; omega⟩
   have ht4 : t < 4 := by have := hxo.t; simp at this; omega
   have hn0 : 0 ≤ xn := hxo.n.1
   have KX : Hid (∀ W, Below w.heap.size w W → Below w.heap.size w W ∧ W.cell? ⟨g, k * 4 + 0, none⟩ = some (.int .i64 (t : Int)) ∧ W.cell? ⟨g, k * 4 + 1, none⟩ = some (.int .i64 xa) ∧ W.cell? ⟨g, k * 4 + 2, none⟩ = some (.int .i64 xn)) := fun W hW =>
    ⟨hW, aA HC W hW k _ (aA HX) 0 _ rfl, aA HC W hW k _ (aA HX) 1 _ rfl, aA HC W hW k _ (aA HX) 2 _ rfl⟩
   have hlt' : (k : Int) < (ts.length : Int) := by omega
   clear hx hxo
   simp only [Nat.add_zero] at KX
   go_wp2_with fail
   go_region_held3 (fun W => Below w.heap.size w W ∧ W.cell? ⟨g, k * 4, none⟩ = some (.int .i64 (t : Int)) ∧ W.cell? ⟨g, k * 4 + 1, none⟩ = some (.int .i64 xa) ∧ W.cell? ⟨g, k * 4 + 2, none⟩ = some (.int .i64 xn))
    ((refine aA KX _ ?_; repeat (first
      | exact aA HB
      | exact And.left (by assumption)
      | refine Below.drew ?_)))
    (first
      | (go_at_call 143; refine (aA HTH _ (And.left (by assumption)) t ht4 _ _ hn0).mono ?_; rintro e w2 ⟨rfl, rfl⟩)
      | fail)
   have HS := hide (uF (fun x : Tch => hasB (y.at x.t.toNat).L.length x.a x.n) ts k ⟨(t : Int), xa, xn, xw⟩ (aA HX) (aA HA))
   have HF := hide (zP (fun x : Tch => hasB (y.at x.t.toNat).L.length x.a x.n) ts k ⟨(t : Int), xa, xn, xw⟩ (aA HX))
   simp only [Int.toNat_natCast] at HS HF
   generalize hasB (y.at t).L.length xa xn = hb at HS HF
   cases hb with
   | true =>
    go_wp2
    go_roundw
    case rel => exact ⟨k + 1, by omega, by go_num, aA HS rfl, (aA HB).drew⟩
    case measure => simp [intOf]; omega
   | false =>
    have HT : Hid (barI y rs ts = 2) := by
     show _ = _
     unfold barI
     rw [aA HF rfl]
     rfl
    go_wp2
    go_ret
    exact ⟨fL (aA HT).symm, (aA HB).drew⟩
  ·obtain rfl : k = ts.length := by omega
   rw [List.take_length] at HA
   go_wp2
   go_loopw [9, 10, 11] (fun i _ _ wr => ∃ k : Nat, k ≤ ts.length ∧ i = .int .i64 k ∧ Hid ((ts.take k).all (fun x => mayB x.wr rs x.t x.a x.n.toNat) = true) ∧ Hid (Below w.heap.size w wr)) (fun i _ _ _ => ts.length - (intOf i).toNat)
   case atStart => exact ⟨0, by omega, rfl, rfl, HB⟩
   case round =>
    clear HB
    obtain ⟨k, hk2, rfl, HA2, HB⟩ := hrel
    by_cases hlt : k < ts.length
    ·obtain ⟨x, hx⟩ : ∃ x, ts[k]? = some x := ⟨_, List.getElem?_eq_getElem hlt⟩
     have hxo := aA HOK x (List.mem_of_getElem? hx)
     have HX := hide hx
     obtain ⟨xt, xa, xn, xw⟩ := x
     obtain ⟨n, rfl⟩ : ∃ n : Nat, xn = (n : Int) := ⟨xn.toNat, by have := hxo.n; simp at this; omega⟩
     have hn2 : n ≤ 2000 := by have := hxo.n; simp at this; omega
     have ha1 : 0 ≤ xa ∧ xa < 65536 := hxo.a
     have KX : Hid (∀ W, Below w.heap.size w W → Below w.heap.size w W ∧ W.cell? ⟨g, k * 4 + 0, none⟩ = some (.int .i64 xt) ∧ W.cell? ⟨g, k * 4 + 1, none⟩ = some (.int .i64 xa) ∧ W.cell? ⟨g, k * 4 + 2, none⟩ = some (.int .i64 (n : Int)) ∧ W.cell? ⟨g, k * 4 + 3, none⟩ = some (.bool xw)) := fun W hW =>
      ⟨hW, aA HC W hW k _ (aA HX) 0 _ rfl, aA HC W hW k _ (aA HX) 1 _ rfl, aA HC W hW k _ (aA HX) 2 _ rfl, aA HC W hW k _ (aA HX) 3 _ rfl⟩
     have HS := hide (uF (fun x : Tch => mayB x.wr rs x.t x.a x.n.toNat) ts k ⟨xt, xa, (n : Int), xw⟩ (aA HX) (aA HA2))
     have HF := hide (zP (fun x : Tch => mayB x.wr rs x.t x.a x.n.toNat) ts k ⟨xt, xa, (n : Int), xw⟩ (aA HX))
     simp only [Int.toNat_natCast] at HS HF
     have hlt' : (k : Int) < (ts.length : Int) := by omega
     clear hx hxo
     simp only [Nat.add_zero] at KX
     go_wp2
     go_loopw [10, 11] (fun j _ wr => ∃ m : Nat, m ≤ n ∧ j = .int .i64 m ∧ Hid ((List.range m).all (fun q => rs.any (fun x => lets xw x && x.over xt (xa + q))) = true) ∧ Hid (Below w.heap.size w wr)) (fun j _ _ => n - (intOf j).toNat)
     case atStart => exact ⟨0, by omega, rfl, rfl, HB⟩
     case round =>
      clear HB
      obtain ⟨m, hm, rfl, HM, HB⟩ := hrel
      have q2 := (aA KX wr (aA HB)).2.2.2.1
      by_cases hlm : m < n
      ·have hlm' : (m : Int) < (n : Int) := by omega
       have hw6 : IntKind.i64.wrap (xa + (m : Int)) = xa + (m : Int) := by rw [IntKind.wrap_i64]; omega
       go_wp2_with fail
       go_region_held3 (fun W => Below w.heap.size w W ∧ W.cell? ⟨g, k * 4, none⟩ = some (.int .i64 xt) ∧ W.cell? ⟨g, k * 4 + 1, none⟩ = some (.int .i64 xa) ∧ W.cell? ⟨g, k * 4 + 2, none⟩ = some (.int .i64 (n : Int)) ∧ W.cell? ⟨g, k * 4 + 3, none⟩ = some (.bool xw))
        ((refine aA KX _ ?_; repeat (first
          | exact aA HB
          | exact And.left (by assumption)
          | assumption
          | refine Below.drew ?_)))
        (first
          | (go_at_call 180; refine (aA HMAY _ (And.left (by assumption)) _ _ _).mono ?_; rintro e w2 ⟨rfl, hbm⟩)
          | fail)
       have HBM := hide hbm
       have HN := hide (aBi (fun q : Nat => rs.any (fun x => lets xw x && x.over xt (xa + (q : Int)))) m (aA HM))
       have HQ := hide (aBh (fun q : Nat => rs.any (fun x => lets xw x && x.over xt (xa + (q : Int)))) m n hlm)
       clear hbm
       generalize (rs.any fun x => lets xw x && x.over xt (xa + (m : Int))) = hb at HN HQ
       cases hb with
       | true =>
        go_wp2
        go_roundw
        case rel => exact ⟨m + 1, by omega, by go_num, aA HN rfl, HBM⟩
        case measure => simp [intOf]; omega
       | false =>
        have HT : Hid (barI y rs ts = 4) := by
         show _ = _
         unfold barI
         rw [if_pos (aA HA), aA HF (aA HQ rfl)]
         rfl
        go_wp2
        go_ret
        exact ⟨fL (aA HT).symm, aA HBM⟩
      ·obtain rfl : m = n := by omega
       have HT := hide (aA HS (aA HM))
       go_wp2
       go_roundw
       case rel => exact ⟨k + 1, by omega, by go_num, aA HT, HB⟩
       case measure => simp [intOf]; omega
    ·obtain rfl : k = ts.length := by omega
     rw [List.take_length] at HA2
     have HT : Hid (barI y rs ts = 0) := by
      show _ = _
      unfold barI
      rw [if_pos (aA HA), if_pos (aA HA2)]
     go_wp2
     go_ret
     exact ⟨fL (aA HT).symm, aA HB⟩
end Go.Proofs.YtfekelmldebplaaGreatDoor
namespace Go.Proofs.YtfekelmldebplaaGreatDoor
open Go.RowKit Go.MuLone
theorem oI {w : World} {b o : Nat} {xs : List Int} (hc : ∀ i, i < xs.length → w.cell? ⟨b, o + i, none⟩ = some (.int .i64 (xs.getD i 0))) :
  ∀ j u, (xs.map (Value.int .i64))[j]? = some u → w.cell? ((⟨b, o, none⟩ : Addr).add j) = some u := fun j u hu => by
 have hj : j < xs.length := by
  rcases Nat.lt_or_ge j xs.length with h | h
  ·exact h
  ·rw [List.getElem?_eq_none (by simpa using h)] at hu
   cases hu
 have e1 : (⟨b, o, none⟩ : Addr).add j = ⟨b, o + j, none⟩ := by unfold Addr.add; split <;> simp_all
 rw [e1, hc j hj]
 rw [List.getElem?_map, List.getElem?_eq_getElem hj] at hu
 simpa [List.getD, List.getElem?_eq_getElem hj] using hu
theorem qQ (xs : List Int) : ∀ u ∈ xs.map (Value.int .i64), u.oneCell' = true := fun u hu => by
 obtain ⟨x, _, rfl⟩ := List.mem_map.1 hu
 rfl
section
variable {ev : Operand → Value} {w : World} {dst : Option Tmp} {T : TypeId} {p : String} {af : Array Edge} {g : Option (Nat × Bool)}
theorem kG (x : Operand) (b : Addr) (hx : ev x = .pointer (some b)) : (execOp ev { dst := dst, op := .nilCheck x, type := T, pos := p, after := af, guard := g }).run Tryz.prog w = .ok (.value (.pointer (some b))) w := by
 simp [go_sem, hx]
theorem jA (x : Operand) (b : Nat) (hx : ev x = .pointer (some ⟨b, 0, none⟩)) : (execOp ev { dst := dst, op := .fieldAddr 248 x 1, type := T, pos := p, after := af, guard := g }).run Tryz.prog w = .ok (.value (.pointer (some ⟨b, 6, none⟩))) w := by
 simp [go_sem, hx]
theorem lF (x y : Operand) (b i : Nat) (hx : ev x = .pointer (some ⟨b, 6, none⟩)) (hy : ev y = .int .i64 (i : Int)) (hi : i < 4) : (execOp ev { dst := dst, op := .indexAddr 72 x y, type := T, pos := p, after := af, guard := g }).run Tryz.prog w = .ok (.value (.pointer (some ⟨b, 6 + i, none⟩))) w := by
 have h1 : (i : Int) < 4 := by omega
 simp [go_sem, hx, hy, h1]
theorem iR (x : Operand) (b : Addr) (a : Option Addr) (n c : Nat) (hx : ev x = .pointer (some b)) (hc : w.cell? b = some (.slice a n c)) : (execOp ev { dst := dst, op := .load 24 x, type := T, pos := p, after := af, guard := g }).run Tryz.prog w = .ok (.value (.slice a n c)) w := by
 simp [go_sem, hx, hc]
end
theorem aFb (a : Act) (Q : Exit → Act → World → Prop) (w : World) (id : Nat) (yb i N gb A m : Nat) (xs : List Int) (hsz : 41 ≤ a.tmps.size) (hi : i < 4) (hN : N ≤ 200) (hAN : A + m ≤ N) (hm1 : 0 < m) (hll : xs.length = m) (c1 : w.cell? ⟨yb, 6 + i, none⟩ = some (.slice (some ⟨gb, 0, none⟩) N N)) (hcn : ∀ q, q < m → w.cell? ⟨gb, A + q, none⟩ = some (.int .i64 (xs.getD q 0)))
  (h0 : a.eval (.tmp 0) = .pointer (some ⟨yb, 0, none⟩)) (h1 : a.eval (.tmp 1) = .int .i64 (i : Int)) (h2 : a.eval (.tmp 2) = .int .i64 (A : Int)) (h3 : a.eval (.tmp 3) = .int .i64 (m : Int)) (h11 : a.eval (.tmp 11) = .slice none 0 0)
  (hend : ∀ a' v w', a'.defers = a.defers → a'.tmps.size = a.tmps.size → a'.eval (.tmp 11) = v → aS w' w.heap.size v xs → Below w.heap.size w w' → Q .normal a' w') :
  (Code.region id ([⟨some 27, .move (.tmp 11), 24, "relay.go:156", #[], none⟩,
 ⟨some 28, .move (.tmp 0), 120, "relay.go:156", #[], none⟩,
 ⟨some 29, .move (.tmp 1), 3, "relay.go:156", #[], none⟩,
 ⟨some 30, .nilCheck (.tmp 28), 0, "relay.go:156", #[⟨1, .data⟩], none⟩,
 ⟨some 31, .fieldAddr 248 (.tmp 30) 1, 0, "relay.go:156", #[⟨3, .data⟩], none⟩,
 ⟨some 32, .indexAddr 72 (.tmp 31) (.tmp 29), 0, "relay.go:156", #[⟨4, .data⟩, ⟨2, .data⟩], none⟩,
 ⟨some 33, .load 24 (.tmp 32), 24, "relay.go:156", #[⟨5, .data⟩], none⟩,
 ⟨some 34, .move (.tmp 2), 3, "relay.go:156", #[], none⟩,
 ⟨some 35, .move (.tmp 2), 3, "relay.go:156", #[], none⟩,
 ⟨some 36, .move (.tmp 3), 3, "relay.go:156", #[], none⟩,
 ⟨some 37, .binOp .add 3 (.tmp 35) (.tmp 36) 3, 3, "relay.go:156", #[⟨8, .data⟩, ⟨9, .data⟩], none⟩,
 ⟨some 38, .slice 24 (.tmp 33) (some (.tmp 34)) (some (.tmp 37)) none, 24, "relay.go:156", #[⟨6, .data⟩, ⟨7, .data⟩, ⟨10, .data⟩], none⟩,
 ⟨some 39, .call { callee := .builtin .append, args := #[.tmp 27, .tmp 38], argTypes := #[24, 24] }, 24, "relay.go:156", #[⟨0, .data⟩, ⟨11, .data⟩], none⟩,
 ⟨some 11, .assign (.tmp 39), 24, "relay.go:156", #[⟨12, .data⟩, ⟨12, .chain⟩, ⟨0, .phase⟩, ⟨1, .phase⟩, ⟨2, .phase⟩, ⟨3, .phase⟩, ⟨4, .phase⟩, ⟨5, .phase⟩, ⟨6, .phase⟩, ⟨7, .phase⟩, ⟨8, .phase⟩, ⟨9, .phase⟩, ⟨10, .phase⟩, ⟨11, .phase⟩, ⟨12, .phase⟩], none⟩] : List Oper).toArray false).wp Tryz.prog Q a w := by
 obtain ⟨i0, hi0_, hz0, hz1, hz2⟩ := info_parts kS
 refine wp_region_lit ?_
 refine aG rfl ((aC _).trans (congrArg (fun v => Result.ok (Next.value v) w) (show _ = Value.slice none 0 0 from h11))) ?_
 refine aG rfl ((aC _).trans (congrArg (fun v => Result.ok (Next.value v) w) (show _ = Value.pointer (some ⟨yb, 0, none⟩) from (by rw [pne _ _ _ _ (by decide)]; exact h0)))) ?_
 refine aG rfl ((aC _).trans (congrArg (fun v => Result.ok (Next.value v) w) (show _ = Value.int .i64 (i : Int) from (by rw [pne _ _ _ _ (by decide), pne _ _ _ _ (by decide)]; exact h1)))) ?_
 refine aG rfl (kG _ ⟨yb, 0, none⟩ (by rw [pne _ _ _ _ (by decide), aI _ _ _ _ (by (try simp only [aE]); omega), if_pos rfl])) ?_
 refine aG rfl (jA _ yb (by rw [aI _ _ _ _ (by (try simp only [aE]); omega), if_pos rfl])) ?_
 refine aG rfl (lF _ _ yb i (by rw [aI _ _ _ _ (by (try simp only [aE]); omega), if_pos rfl]) (by rw [pne _ _ _ _ (by decide), pne _ _ _ _ (by decide), aI _ _ _ _ (by (try simp only [aE]); omega), if_pos rfl]) hi) ?_
 refine aG rfl (iR _ ⟨yb, 6 + i, none⟩ _ _ _ (by rw [aI _ _ _ _ (by (try simp only [aE]); omega), if_pos rfl]) c1) ?_
 refine aG rfl ((aC _).trans (congrArg (fun v => Result.ok (Next.value v) w) (show _ = Value.int .i64 (A : Int) from (by rw [pne _ _ _ _ (by decide), pne _ _ _ _ (by decide), pne _ _ _ _ (by decide), pne _ _ _ _ (by decide), pne _ _ _ _ (by decide), pne _ _ _ _ (by decide), pne _ _ _ _ (by decide)]; exact h2)))) ?_
 refine aG rfl ((aC _).trans (congrArg (fun v => Result.ok (Next.value v) w) (show _ = Value.int .i64 (A : Int) from (by rw [pne _ _ _ _ (by decide), pne _ _ _ _ (by decide), pne _ _ _ _ (by decide), pne _ _ _ _ (by decide), pne _ _ _ _ (by decide), pne _ _ _ _ (by decide), pne _ _ _ _ (by decide), pne _ _ _ _ (by decide)]; exact h2)))) ?_
 refine aG rfl ((aC _).trans (congrArg (fun v => Result.ok (Next.value v) w) (show _ = Value.int .i64 (m : Int) from (by rw [pne _ _ _ _ (by decide), pne _ _ _ _ (by decide), pne _ _ _ _ (by decide), pne _ _ _ _ (by decide), pne _ _ _ _ (by decide), pne _ _ _ _ (by decide), pne _ _ _ _ (by decide), pne _ _ _ _ (by decide), pne _ _ _ _ (by decide)]; exact h3)))) ?_
 refine aG rfl (iB _ _ (A : Int) (m : Int) (by rw [pne _ _ _ _ (by decide), aI _ _ _ _ (by (try simp only [aE]); omega), if_pos rfl]) (by rw [aI _ _ _ _ (by (try simp only [aE]); omega), if_pos rfl]) (by omega) (by omega) (by omega) (by omega)) ?_
 refine aG rfl (qK _ _ _ gb N N A (A + m) (by rw [pne _ _ _ _ (by decide), pne _ _ _ _ (by decide), pne _ _ _ _ (by decide), pne _ _ _ _ (by decide), aI _ _ _ _ (by (try simp only [aE]); omega), if_pos rfl]) (by rw [pne _ _ _ _ (by decide), pne _ _ _ _ (by decide), pne _ _ _ _ (by decide), aI _ _ _ _ (by (try simp only [aE]); omega), if_pos rfl]) (by rw [aI _ _ _ _ (by (try simp only [aE]); omega), if_pos rfl]; rfl) (by omega) (by omega) (by omega)) ?_
 refine aT w rfl (.tmp 27) (.tmp 38) 24 rfl w.heap.size 3 i0 (.int .i64 0) 1 8 Tryz.underlying24 hi0_ hz0 hz1 hz2 rfl (by decide) (.slice none 0 0) 0 [] (by rw [pne _ _ _ _ (by decide), pne _ _ _ _ (by decide), pne _ _ _ _ (by decide), pne _ _ _ _ (by decide), pne _ _ _ _ (by decide), pne _ _ _ _ (by decide), pne _ _ _ _ (by decide), pne _ _ _ _ (by decide), pne _ _ _ _ (by decide), pne _ _ _ _ (by decide), pne _ _ _ _ (by decide), aI _ _ _ _ (by (try simp only [aE]); omega), if_pos rfl]) (World.ownsRow_nil _ _ _ _) ⟨gb, A, none⟩ (A + m - A) (N - A) (xs.map (Value.int .i64)) (by rw [aI _ _ _ _ (by (try simp only [aE]); omega), if_pos rfl]) (by rw [List.length_map, hll, Nat.mul_one]; omega) (oI (fun q hq => hcn q (by omega))) (qQ xs) (by omega) (by unfold maxLen; omega) (by omega) (Nat.le_refl _) ?_
 intro v' w' r k2
 refine aG rfl ((aX _).trans (congrArg (fun v => Result.ok (Next.value v) w') (show _ = v' by rw [aI _ _ _ _ (by (try simp only [aE]); omega), if_pos rfl]))) (wpList_nil ?_)
 refine hend _ v' w' ?_ ?_ ?_ ?_ (bT (Below.refl _ _) (fun j e => by cases e) k2)
 ·simp only [aK]
 ·simp only [aE]
 ·rw [aI _ _ _ _ (by (try simp only [aE]); omega), if_pos rfl]
 ·unfold aS
  rw [hll]
  have e : 0 + (A + m - A) = m := by omega
  rw [e] at r
  exact r
def RGot (w w' : World) (er : Int) (v : Value) (xs : List Int) : Prop := (er = 0 → aS w' w.heap.size v xs) ∧ (er ≠ 0 → v = .slice none 0 0) ∧ Below w.heap.size w w'
theorem aC4 (yb : Nat) (s0 s1 s2 s3 rv : Value) (y : T4) (LL : List (List Rule)) (i : Nat) (hi : i < 4) (a n : Int) (w : World) (h : RefAt w yb s0 s1 s2 s3 rv y LL) (ha : -9223372036854775808 ≤ a ∧ a ≤ 9223372036854775807) :
  Calls Tryz.prog 91 #[.pointer (some ⟨yb, 0, none⟩), .int .i64 (i : Int), .int .i64 a, .int .i64 n] w fun r w' => ∃ v, r = .returned (.tuple #[v, .int .i64 (eL (y.at i).L.length a n)]) ∧ RGot w w' (eL (y.at i).L.length a n) v (((y.at i).L.drop a.toNat).take n.toNat) := by
 obtain ⟨i0, hi0_, hz0, hz1, hz2⟩ := info_parts kS
 have HTAB := hide (h.tab i hi)
 have HENT := hide (h.ent i hi)
 have hi0 : decide ((i : Int) < 0) = false := by simp
 have hi4 : decide ((4 : Int) ≤ (i : Int)) = false := by simp; omega
 have hl := h.len i hi
 by_cases hn : n < 0
 ·have HE : Hid (eL (y.at i).L.length a n = 5) := if_pos hn
  go_enter Tryz.func91, Tryz.ntmps91
  go_wp2
  go_ret2
  rw [aA HE]
  exact ⟨_, rfl, fun e => absurd e (by decide), fun _ => rfl, Below.refl _ _⟩
 ·have hn' : decide (n < 0) = false := decide_eq_false hn
  have HT := hide (lW yb i (y.at i).L.length _ _ a n w hi (h.tab i hi) (h.len i hi) (by omega))
  by_cases hh : hasB (y.at i).L.length a n = true
  ·have HE : Hid (eL (y.at i).L.length a n = 0) := by
    show _ = _
    unfold eL
    rw [if_neg hn, if_pos hh]
   rw [hh] at HT
   obtain ⟨A, rfl⟩ : ∃ A : Nat, a = (A : Int) := ⟨a.toNat, by simp [hasB] at hh; omega⟩
   obtain ⟨m, rfl⟩ : ∃ m : Nat, n = (m : Int) := ⟨n.toNat, by omega⟩
   have hAN : A + m ≤ (y.at i).L.length := by simp [hasB] at hh; omega
   obtain ⟨N, hN⟩ : ∃ N, N = (y.at i).L.length := ⟨_, rfl⟩
   obtain ⟨gb, hgb⟩ : ∃ gb, gb = (y.at i).g := ⟨_, rfl⟩
   have c1 : w.cell? ⟨yb, 6 + i, none⟩ = some (.slice (some ⟨gb, 0, none⟩) N N) := by rw [aA HTAB, dV, ← hN, ← hgb]
   have hgl : gb < w.heap.size := by rw [hgb]; exact (Array.getElem?_eq_some_iff.1 (aA HENT)).1
   rw [← hN] at hAN hl
   have hll : (((y.at i).L.drop A).take m).length = m := by simp; omega
   obtain ⟨xs, hxs⟩ : ∃ xs, xs = ((y.at i).L.drop A).take m := ⟨_, rfl⟩
   rw [← hxs] at hll
   have HCN : Hid (∀ q, q < m → w.cell? ⟨gb, A + q, none⟩ = some (.int .i64 (xs.getD q 0))) := fun q hq => by
    rw [hgb, dP (aA HENT) (A + q) (by omega), hxs]
    congr 2
    simp only [List.getD_eq_getElem?_getD, List.getElem?_take, List.getElem?_drop]
    rw [if_pos hq]
   have HXS := hide hxs
   have HN := hide hN
   have hi' : (i : Int) < 4 := by omega
   have hw6 : IntKind.i64.wrap ((A : Int) + (m : Int)) = (A : Int) + (m : Int) := by rw [IntKind.wrap_i64]; omega
   have hAm : (A : Int) ≤ (A : Int) + (m : Int) := by omega
   have hAm2 : (A : Int) + (m : Int) ≤ (N : Int) := by omega
   clear hN hgb hxs hh
   by_cases hm0 : m = 0
   ·subst hm0
    obtain rfl : xs = [] := List.length_eq_zero_iff.1 hll
    go_enter Tryz.func91, Tryz.ntmps91
    go_wp2_with fail
    refine (aA HT).mono ?_
    rintro e w ⟨rfl, rfl⟩
    go_wp2
    all_goals
     go_ret2
     rw [aA HE]
     refine ⟨_, rfl, fun _ => ?_, fun e => absurd rfl e, Below.refl _ _⟩
     rw [Int.toNat_natCast, Int.toNat_natCast, ← aA HXS]
     exact World.ownsRow_nil _ _ _ _
   ·have hm1 : 0 < m := by omega
    go_enter Tryz.func91, Tryz.ntmps91
    go_wp2_with fail
    refine (aA HT).mono ?_
    rintro e w ⟨rfl, rfl⟩
    go_upto_region 9 with fail
    rename_i K hK
    refine aFb _ _ w 9 yb i N gb A m xs (by simp) hi hl hAN hm1 hll c1 (aA HCN) rfl rfl rfl rfl rfl (fun a' v w' hd hz hv ho hb => hK _ _ ?_)
    refine wp_seq (wp_region_lit ?_)
    refine aG rfl ((aC _).trans (congrArg (fun v => Result.ok (Next.value v) w') hv)) ?_
    refine aG rfl ((aX _).trans (congrArg (fun v => Result.ok (Next.value v) w') (show _ = v by rw [aI _ _ _ _ (by rw [hz]; simp), if_pos rfl]))) ?_
    refine aG rfl (aX _) (wpList_nil (wp_ret ?_))
    refine bodyPost_ret (results_tmp2 Tryz.results91 _ _ _) (by rw [aK, aK, aK]; exact hd) ?_
    have E8 : (((a'.put (some 40) v).put (some 8) v).put (some 9) (.int .i64 0)).eval (.tmp 8) = v := by
     rw [aI _ _ _ _ (by rw [aE, aE, hz]; simp), if_neg (by decide), aI _ _ _ _ (by rw [aE, hz]; simp), if_pos rfl]
    have E9 : (((a'.put (some 40) v).put (some 8) v).put (some 9) (.int .i64 0)).eval (.tmp 9) = .int .i64 0 := by
     rw [aI _ _ _ _ (by rw [aE, aE, hz]; simp), if_pos rfl]
    rw [aA HE]
    refine ⟨v, congrArg Ending.returned (congrArg Value.tuple ?_), fun _ => ?_, fun e => absurd rfl e, hb⟩
    ·exact (congrArg (fun x => #[x, _]) E8).trans (congrArg (fun x => #[v, x]) E9)
    ·rw [Int.toNat_natCast, Int.toNat_natCast, ← aA HXS]
     exact ho
  ·have hh' : hasB (y.at i).L.length a n = false := by simpa using hh
   have HE : Hid (eL (y.at i).L.length a n = 4) := by
    show _ = _
    unfold eL
    rw [if_neg hn, if_neg hh]
   rw [hh'] at HT
   go_enter Tryz.func91, Tryz.ntmps91
   go_wp2_with fail
   refine (aA HT).mono ?_
   rintro e w ⟨rfl, rfl⟩
   go_wp2
   go_ret2
   rw [aA HE]
   exact ⟨_, rfl, fun e => absurd e (by decide), fun _ => rfl, Below.refl _ _⟩
theorem aA7 (yb : Nat) (t a n : Int) (w : World) (ht : t < 0 ∨ 4 ≤ t) :
  Calls Tryz.prog 91 #[.pointer (some ⟨yb, 0, none⟩), .int .i64 t, .int .i64 a, .int .i64 n] w fun r w' => r = .returned (.tuple #[.slice none 0 0, .int .i64 3]) ∧ w' = w := by
 rcases ht with h | h
 ·go_enter Tryz.func91, Tryz.ntmps91
  go_wp2
  go_ret2
  exact ⟨rfl, rfl⟩
 ·have h0 : decide (t < 0) = false := by simp; omega
  go_enter Tryz.func91, Tryz.ntmps91
  go_wp2
  go_ret2
  exact ⟨rfl, rfl⟩
end Go.Proofs.YtfekelmldebplaaGreatDoor
namespace Go.Proofs.YtfekelmldebplaaGreatDoor
open Go.RowKit
theorem jQ (f : Int) (bs : List Int) (q : Req) (e : aO f bs = .inr q) :
  (f = 23 ∧ q.keep = 0 ∧ q.t = 3) ∨ (f = 22 ∧ q.wc = 1 ∧ q.rc = 1 ∧ q.ra = q.wa ∧ q.t = 3 ∧ ∃ z, q.vals = [z]) ∨ (f ≠ 22 ∧ f ≠ 23 ∧ 1 ≤ f ∧ f ≤ 4 ∧ q.wc = 0 ∧ q.wa = 0 ∧ q.vals = [] ∧ q.keep = 0 ∧ q.echo = []) ∨ (f ≠ 22 ∧ f ≠ 23 ∧ q.wc ≠ 0 ∧ q.ra = 0 ∧ q.rc = 0 ∧ q.keep = 0) := by
 have hR : ∀ t m, 1 ≤ f → f ≤ 4 → aW f bs t m = .inr q → (f ≠ 22 ∧ f ≠ 23 ∧ 1 ≤ f ∧ f ≤ 4 ∧ q.wc = 0 ∧ q.wa = 0 ∧ q.vals = [] ∧ q.keep = 0 ∧ q.echo = []) := fun t m h1 h2 h => by
  unfold aW at h
  split at h
  ·cases h
   exact ⟨by omega, by omega, h1, h2, rfl, rfl, rfl, rfl, rfl⟩
  ·cases h
 unfold aO at e
 split at e
 ·exact Or.inr (Or.inr (Or.inl (hR _ _ (by omega) (by omega) e)))
 split at e
 ·exact Or.inr (Or.inr (Or.inl (hR _ _ (by omega) (by omega) e)))
 split at e
 ·exact Or.inr (Or.inr (Or.inl (hR _ _ (by omega) (by omega) e)))
 split at e
 ·exact Or.inr (Or.inr (Or.inl (hR _ _ (by omega) (by omega) e)))
 split at e
 ·unfold dK at e
  split at e
  ·cases e
   exact Or.inr (Or.inr (Or.inr ⟨by omega, by omega, Nat.one_ne_zero, rfl, rfl, rfl⟩))
  ·cases e
 split at e
 ·unfold eD at e
  split at e
  ·cases e
   exact Or.inr (Or.inr (Or.inr ⟨by omega, by omega, Nat.one_ne_zero, rfl, rfl, rfl⟩))
  ·cases e
 split at e
 ·unfold eQ at e
  split at e
  ·rename_i h
   cases e
   have h2 := h.2.1
   simp only [bS, Bool.and_eq_true, decide_eq_true_eq] at h2
   exact Or.inr (Or.inr (Or.inr ⟨by omega, by omega, by show wAt bs 1 ≠ 0; omega, rfl, rfl, rfl⟩))
  ·cases e
 split at e
 ·unfold eP at e
  split at e
  ·rename_i h
   cases e
   have h2 := h.2.1
   simp only [bS, Bool.and_eq_true, decide_eq_true_eq] at h2
   exact Or.inr (Or.inr (Or.inr ⟨by omega, by omega, by show wAt bs 1 ≠ 0; omega, rfl, rfl, rfl⟩))
  ·cases e
 split at e
 ·unfold dE at e
  split at e
  ·rename_i hf _
   cases e
   exact Or.inr (Or.inl ⟨hf, rfl, rfl, rfl, rfl, _, rfl⟩)
  ·cases e
 split at e
 ·unfold cM at e
  split at e
  ·rename_i hf _
   cases e
   exact Or.inl ⟨hf, rfl, rfl⟩
  ·cases e
 ·cases e
theorem qZ (n : Nat) : hasB n ((0 : Nat) : Int) ((0 : Nat) : Int) = true := by simp [hasB]
theorem qX (wr : Bool) (rs : List Rule) (t a : Int) : mayB wr rs t a 0 = true := by simp [mayB]
theorem zZ (y : T4) (rs : List Rule) (f : Int) (bs : List Int) (q : Req) (e : aO f bs = .inr q) : barI y rs (aM q) = excL (y.at q.t).L.length rs q := by
 have hf := gU f bs q e
 unfold barI aM excL
 rw [hf]
 rcases jQ f bs q e with ⟨h, -⟩ | ⟨h, -⟩ | ⟨h1, h2, -, -, h3, h4, -⟩ | ⟨h1, h2, h3, h4, h5, -⟩
 ·rw [if_pos h]
  simp only [List.all_cons, List.all_nil, Bool.and_true, Int.toNat_natCast]
  rw [Bool.and_comm (hasB _ _ _), Bool.and_comm (mayB _ _ _ _ _)]
 ·have h23 : ¬ (f = 23) := by omega
  rw [if_neg h23, if_pos h]
  simp only [List.all_cons, List.all_nil, Bool.and_true, Int.toNat_natCast]
 ·rw [if_neg h2, if_neg h1, if_pos h3, h3, h4, qZ, qX]
  simp only [List.all_cons, List.all_nil, Bool.and_true, Int.toNat_natCast]
 ·rw [if_neg h2, if_neg h1, if_neg h3, h4, h5, qZ, qX]
  simp only [List.all_cons, List.all_nil, Bool.and_true, Bool.true_and, Int.toNat_natCast]
theorem nU (f : Int) (bs : List Int) (q : Req) (hb : Bys bs) (hl : bs.length ≤ 252) (e : aO f bs = .inr q) : ∀ x ∈ aM q, x.Ok := by
 have ok := cZ f bs hb hl q e
 have h1 := ok.t
 have h2 := ok.ra
 have h3 := ok.rc
 have h4 := ok.wa
 have h5 := ok.wc
 intro x hx
 have hx' : x = ⟨(q.t : Int), (q.wa : Int), (q.wc : Int), true⟩ ∨ x = ⟨(q.t : Int), (q.ra : Int), (q.rc : Int), false⟩ := by
  unfold aM at hx
  split at hx
  ·simpa using hx
  split at hx
  ·refine Or.symm ?_
   simpa using hx
  split at hx
  ·exact Or.inr (by simpa using hx)
  ·exact Or.inl (by simpa using hx)
 rcases hx' with rfl | rfl
 ·constructor <;> dsimp only <;> omega
 ·constructor <;> dsimp only <;> omega
theorem jI (q : Req) : (aM q).length ≤ 2 := by
 unfold aM
 split
 ·exact Nat.le_refl _
 split
 ·exact Nat.le_refl _
 split <;> exact Nat.le_succ _
theorem aEj (f : Int) (h : 0 ≤ f ∧ f < 256) : IntKind.u8.wrap (f % 128 + 128) = bits BinOp.or IntKind.u8 f 128 := by
 obtain ⟨n, rfl⟩ := Int.eq_ofNat_of_zero_le h.1
 have hn : n < 256 := by omega
 have key : ∀ n : Fin 256, IntKind.u8.wrap (((n.1 : Nat) : Int) % 128 + 128) = bits BinOp.or IntKind.u8 ((n.1 : Nat) : Int) 128 := by decide
 exact key ⟨n, hn⟩
end Go.Proofs.YtfekelmldebplaaGreatDoor
namespace Go.Proofs.YtfekelmldebplaaGreatDoor
open Go.RowKit Go.MuLone
theorem vG (yb : Nat) (s0 s1 s2 s3 rv : Value) (y : T4) (LL : List (List Rule)) (cl : Int) (v : Value) (w : World) (h : RefAt w yb s0 s1 s2 s3 rv y LL) (hv : ∃ a n c, v = .slice a n c) (hc : cl < 0 ∨ (LL.length : Int) ≤ cl) :
  Calls Tryz.prog 94 #[.pointer (some ⟨yb, 0, none⟩), .int .i64 cl, v] w fun r w' => r = .returned (.tuple #[.slice none 0 0, .int .i64 6]) ∧ w' = w := by
 obtain ⟨a, n, c, rfl⟩ := hv
 obtain ⟨ra, rc, e, hl⟩ := h.rules
 have h5 : w.cell? ⟨yb, 5, none⟩ = some rv := by
  rw [cell_of_row _ _ _ _ _ _ h.row]
  rfl
 rw [e] at h5
 clear h hl
 by_cases h0 : cl < 0
 ·go_enter Tryz.func94, Tryz.ntmps94
  go_wp2
  go_ret2
  exact ⟨rfl, rfl⟩
 ·have h0' : decide (cl < 0) = false := decide_eq_false h0
  have h1 : (LL.length : Int) ≤ cl := by omega
  go_enter Tryz.func94, Tryz.ntmps94
  go_wp2
  go_ret2
  exact ⟨rfl, rfl⟩
theorem aDg (yb : Nat) (s0 s1 s2 s3 rv : Value) (y : T4) (LL : List (List Rule)) (cl : Nat) (a : Option Addr) (n c : Nat) (w : World) (h : RefAt w yb s0 s1 s2 s3 rv y LL) (hc : cl < LL.length) (hn : n < 1 ∨ 253 < n) :
  Calls Tryz.prog 94 #[.pointer (some ⟨yb, 0, none⟩), .int .i64 (cl : Int), .slice a n c] w fun r w' => r = .returned (.tuple #[.slice none 0 0, .int .i64 1]) ∧ w' = w := by
 obtain ⟨ra, rc, e, hl⟩ := h.rules
 have h5 : w.cell? ⟨yb, 5, none⟩ = some rv := by
  rw [cell_of_row _ _ _ _ _ _ h.row]
  rfl
 rw [e] at h5
 clear h hl
 have hc1 : decide ((cl : Int) < 0) = false := by simp
 have hc2 : decide ((LL.length : Int) ≤ (cl : Int)) = false := by simp; omega
 by_cases h0 : n < 1
 ·have h1 : (n : Int) < 1 := by omega
  go_enter Tryz.func94, Tryz.ntmps94
  go_wp2
  go_ret2
  exact ⟨rfl, rfl⟩
 ·have h0' : decide ((n : Int) < 1) = false := by simp; omega
  have h1 : (253 : Int) < (n : Int) := by omega
  go_enter Tryz.func94, Tryz.ntmps94
  go_wp2
  go_ret2
  exact ⟨rfl, rfl⟩
def nN (w : World) (f x : Int) (r : Ending) (w' : World) : Prop := ∃ a n c, r = .returned (.tuple #[.slice a n c, .int .i64 0]) ∧ Owns w' w.heap.size (.slice a n c) (excB f x) ∧ Below w.heap.size w w'
theorem aBw (f : Int) (bs : List Int) (x : Int) (h : aO f bs = .inl x) : x = 1 ∨ x = 3 := by
 have key : ∀ (p : Prop) [Decidable p] (q : Req) , (if p then (Sum.inr q : Int ⊕ Req) else .inl 3) = .inl x → x = 1 ∨ x = 3 := fun p _ q e => by
  split at e
  ·cases e
  ·cases e
   exact Or.inr rfl
 unfold aO at h
 split at h
 ·exact key _ _ h
 split at h
 ·exact key _ _ h
 split at h
 ·exact key _ _ h
 split at h
 ·exact key _ _ h
 split at h
 ·exact key _ _ h
 split at h
 ·exact key _ _ h
 split at h
 ·exact key _ _ h
 split at h
 ·exact key _ _ h
 split at h
 ·exact key _ _ h
 split at h
 ·exact key _ _ h
 cases h
 exact Or.inl rfl
theorem rE (f : Int) (h : 0 ≤ f ∧ f < 256) : f % 128 + 128 = bits BinOp.or IntKind.u8 f 128 := by
 rw [← aEj f h]
 simp [IntKind.wrap, IntKind.bits, IntKind.signed]
 omega
theorem zV {w W : World} {f x : Int} (hb : Below w.heap.size w W) : nN w f x (.returned (.tuple #[.slice (some ⟨W.heap.size, 0, none⟩) 2 2, .int .i64 0])) (W.alloc (.cells #[.int .u8 (bits BinOp.or IntKind.u8 f 128), .int .u8 x] 5)) := by
 refine ⟨_, _, _, rfl, ?_, aD hb (aZ W _)⟩
 exact ⟨by simp [excB], .inr ⟨W.heap.size, 2, #[.int .u8 (bits BinOp.or IntKind.u8 f 128), .int .u8 x], rfl, hb.size, heap_alloc_new W _, Nat.le_refl _, by unfold maxLen; omega, rfl, rfl⟩⟩
theorem RefAt.below {w W : World} {yb : Nat} {s0 s1 s2 s3 rv : Value} {y : T4} {LL : List (List Rule)} (h : RefAt w yb s0 s1 s2 s3 rv y LL) (hW : Below w.heap.size w W) : RefAt W yb s0 s1 s2 s3 rv y LL :=
 ⟨(hW.block _ (Array.getElem?_eq_some_iff.1 h.row).1).trans h.row, h.rules.below hW, fun i hi => (hW.block _ (Array.getElem?_eq_some_iff.1 (h.ent i hi)).1).trans (h.ent i hi), h.len, h.nd⟩
theorem pQ (w W : World) (hW : Below w.heap.size w W) (z cs : Array Value) (T : TypeId) : Below w.heap.size w ((W.alloc (.cells z T)).setRow W.heap.size cs) ∧ ((W.alloc (.cells z T)).setRow W.heap.size cs).heap[W.heap.size]? = some (.cells cs T (0, 0)) ∧ Below W.heap.size W ((W.alloc (.cells z T)).setRow W.heap.size cs) :=
 ⟨below_setRow (aD hW (aZ W _)) hW.size cs, setRow_heap _ _ _ _ _ _ (heap_alloc_new W _), below_setRow (aZ W _) (Nat.le_refl _) cs⟩
theorem aDj (yb : Nat) (s0 s1 s2 s3 rv : Value) (y : T4) (LL : List (List Rule)) (cl : Nat) (f : Nat) (bs : List Int) (x : Int) (v : Value) (w : World) (h : RefAt w yb s0 s1 s2 s3 rv y LL) (hc : cl < LL.length) (hv : Lies w v ((f : Int) :: bs)) (hf : f < 256) (hbs : Bys bs) (hlen : bs.length ≤ 252) (hj : aO (f : Int) bs = .inl x) :
  Calls Tryz.prog 94 #[.pointer (some ⟨yb, 0, none⟩), .int .i64 (cl : Int), v] w fun r w' => nN w (f : Int) x r w' := by
 obtain ⟨b, o, c1, rfl, hlc, hbl, hcc⟩ := hv.shape (by simp)
 have hx0 := hcc 0 (by simp)
 rw [Nat.add_zero] at hx0
 simp only [List.getD_cons_zero] at hx0
 have hcc' : ∀ i, i < bs.length → w.cell? ⟨b, o + 1 + i, none⟩ = some (.int .u8 (bs.getD i 0)) := fun i hi => by
  have := hcc (i + 1) (by simp; omega)
  rw [List.getD_cons_succ] at this
  rw [← this]
  congr 2
  omega
 have HASK := hide (tX b o c1 f bs w hf hbl hx0 hcc' hbs hlen (by simpa using hlc))
 rw [hj] at HASK
 obtain ⟨ra, rc, e, hl⟩ := h.rules
 have h5 : w.cell? ⟨yb, 5, none⟩ = some rv := by
  rw [cell_of_row _ _ _ _ _ _ h.row]
  rfl
 rw [e] at h5
 have hx := aBw _ _ _ hj
 have hx' : x ≠ 0 := by omega
 have HX : Hid (x % 256 = x) := by
  show _ = _
  omega
 have HEB := hide (rE (f : Int) ⟨by omega, by omega⟩)
 have HL : Hid (((f : Int) :: bs).length = bs.length + 1) := List.length_cons
 have HB := hide hbl
 have HX0 := hide hx0
 clear h hl hv hcc hcc' hj hlc hx hbl hx0 hbs e
 obtain ⟨m, hm⟩ : ∃ m, m = bs.length + 1 := ⟨_, rfl⟩
 rw [aA HL, ← hm]
 rw [← hm] at HASK
 have hm1 : decide ((m : Int) < 1) = false := by simp; omega
 have hm2 : decide ((253 : Int) < (m : Int)) = false := by simp; omega
 have hm0 : 0 < m := by omega
 clear hm HL hlen
 have hc1 : decide ((cl : Int) < 0) = false := by simp
 have hc2 : decide ((LL.length : Int) ≤ (cl : Int)) = false := by simp; omega
 go_enter Tryz.func94, Tryz.ntmps94
 go_wp2_with fail
 refine (aA HASK).mono ?_
 rintro e W ⟨rfl, hW⟩
 go_upto_region 6 with (refine wpList_store_row rfl 252 _ _ rfl W.heap.size #[.slice none 0 0, .slice none 0 0, .int .i64 0, .int .i64 0] rfl rfl 252 _ (heap_alloc_new W _) gW rfl (by simp [Value.oneCell']) ?_)
 have HAL := hide (pQ w W hW #[.slice none 0 0, .slice none 0 0, .int .i64 0, .int .i64 0] #[.slice none 0 0, .slice none 0 0, .int .i64 0, .int .i64 0] 252)
 generalize (W.alloc (.cells #[.slice none 0 0, .slice none 0 0, .int .i64 0, .int .i64 0] 252)).setRow W.heap.size #[.slice none 0 0, .slice none 0 0, .int .i64 0, .int .i64 0] = W2 at HAL ⊢
 have hx0 := ((aA HAL).1.cell (by exact aA HB)).trans (aA HX0)
 have HB2 := hide (aA HAL).1
 have hq1 : decide (x = 0) = false := decide_eq_false hx'
 go_wp2
 go_ret2
 rw [aA HX, aA HEB]
 exact zV (aA HB2)
theorem aDi (yb : Nat) (s0 s1 s2 s3 rv : Value) (y : T4) (LL : List (List Rule)) (cl : Nat) (rs : List Rule) (f : Nat) (bs : List Int) (q : Req) (v : Value) (w : World) (h : RefAt w yb s0 s1 s2 s3 rv y LL) (hcl : LL[cl]? = some rs) (h8 : rs.length ≤ 8) (hv : Lies w v ((f : Int) :: bs)) (hf : f < 256) (hbs : Bys bs) (hlen : bs.length ≤ 252) (hj : aO (f : Int) bs = .inr q) (he : excL (y.at q.t).L.length rs q ≠ 0) :
  Calls Tryz.prog 94 #[.pointer (some ⟨yb, 0, none⟩), .int .i64 (cl : Int), v] w fun r w' => nN w (f : Int) (excL (y.at q.t).L.length rs q) r w' := by
 obtain ⟨b, o, c1, rfl, hlc, hbl, hcc⟩ := hv.shape (by simp)
 have hx0 := hcc 0 (by simp)
 rw [Nat.add_zero] at hx0
 simp only [List.getD_cons_zero] at hx0
 have hcc' : ∀ i, i < bs.length → w.cell? ⟨b, o + 1 + i, none⟩ = some (.int .u8 (bs.getD i 0)) := fun i hi => by
  have := hcc (i + 1) (by simp; omega)
  rw [List.getD_cons_succ] at this
  rw [← this]
  congr 2
  omega
 have HASK := hide (tX b o c1 f bs w hf hbl hx0 hcc' hbs hlen (by simpa using hlc))
 rw [hj] at HASK
 obtain ⟨ra, rc, e, hl⟩ := h.rules
 have h5 : w.cell? ⟨yb, 5, none⟩ = some rv := by
  rw [cell_of_row _ _ _ _ _ _ h.row]
  rfl
 rw [e] at h5
 obtain ⟨ts, hts⟩ : ∃ ts, ts = aM q := ⟨_, rfl⟩
 have HBAR : Hid (∀ W g, Below w.heap.size w W → W.heap[g]? = some (.cells (ts.flatMap fun x => x.cells.toList).toArray 257 (0, 0)) → Calls Tryz.prog 146 #[.pointer (some ⟨yb, 0, none⟩), .int .i64 (cl : Int), .slice (some ⟨g, 0, none⟩) ts.length ts.length] W fun e w' => e = .returned (.int .i64 (excL (y.at q.t).L.length rs q)) ∧ Below W.heap.size W w') := fun W g hW hg => by
  rw [← zZ y rs _ bs q hj, ← hts]
  exact pO 0 yb g s0 s1 s2 s3 rv y LL cl rs ts W (h.below hW) hcl h8 ⟨g, rfl, Nat.zero_le _, hg⟩ (by rw [hts]; exact nU _ bs q hbs hlen hj) (by rw [hts]; exact jI q)
 have hc : cl < LL.length := (List.getElem?_eq_some_iff.1 hcl).1
 obtain ⟨x, hx⟩ : ∃ x, x = excL (y.at q.t).L.length rs q := ⟨_, rfl⟩
 rw [← hx] at HBAR he ⊢
 have hx2 : x = 2 ∨ x = 4 := by
  rw [hx] at he ⊢
  unfold excL at he ⊢
  split
  ·rw [if_pos (by assumption)] at he
   split
   ·rw [if_pos (by assumption)] at he
    exact absurd rfl he
   ·exact Or.inr rfl
  ·exact Or.inl rfl
 have HX : Hid (x % 256 = x) := by
  show _ = _
  omega
 have HEB := hide (rE (f : Int) ⟨by omega, by omega⟩)
 have HL : Hid (((f : Int) :: bs).length = bs.length + 1) := List.length_cons
 have HB := hide hbl
 have HX0 := hide hx0
 have HTS := hide hts
 clear h hl hv hcc hcc' hj hlc hx hbl hx0 hbs e hts hx2
 obtain ⟨m, hm⟩ : ∃ m, m = bs.length + 1 := ⟨_, rfl⟩
 rw [aA HL, ← hm]
 rw [← hm] at HASK
 have hm1 : decide ((m : Int) < 1) = false := by simp; omega
 have hm2 : decide ((253 : Int) < (m : Int)) = false := by simp; omega
 have hm0 : 0 < m := by omega
 clear hm HL hlen
 have hc1 : decide ((cl : Int) < 0) = false := by simp
 have hc2 : decide ((LL.length : Int) ≤ (cl : Int)) = false := by simp; omega
 go_enter Tryz.func94, Tryz.ntmps94
 go_wp2_with fail
 refine (aA HASK).mono ?_
 rintro e W ⟨ta, tn, tc, va, vn, vc, rfl, ⟨g, hge, hgb, hgr⟩, hvs, hW⟩
 rw [← aA HTS] at hge hgr
 cases hge
 have HGR := hide hgr
 have HW := hide hW
 clear hgr hvs hW hgb
 generalize xQ q = qx
 generalize yQ q = qy
 go_upto_region 6 with (refine wpList_store_row rfl 252 _ _ rfl W.heap.size #[.slice (some ⟨g, 0, none⟩) ts.length ts.length, .slice va vn vc, .int .i64 qx, .int .i64 qy] rfl rfl 252 _ (heap_alloc_new W _) gW rfl (by simp [Value.oneCell']) ?_)
 have HAL := hide (pQ w W (aA HW) #[.slice none 0 0, .slice none 0 0, .int .i64 0, .int .i64 0] #[.slice (some ⟨g, 0, none⟩) ts.length ts.length, .slice va vn vc, .int .i64 qx, .int .i64 qy] 252)
 generalize (W.alloc (.cells #[.slice none 0 0, .slice none 0 0, .int .i64 0, .int .i64 0] 252)).setRow W.heap.size #[.slice (some ⟨g, 0, none⟩) ts.length ts.length, .slice va vn vc, .int .i64 qx, .int .i64 qy] = W2 at HAL ⊢
 have hr0 := cell_of_row _ _ 0 _ _ _ (aA HAL).2.1
 simp at hr0
 have HBB := hide (aA HBAR W2 g (aA HAL).1 (((aA HAL).2.2.block g (Array.getElem?_eq_some_iff.1 (aA HGR)).1).trans (aA HGR)))
 have hq1 : decide (x = 0) = false := decide_eq_false he
 go_wp2_with fail
 refine (aA HBB).mono ?_
 rintro e W3 ⟨rfl, hW3⟩
 have HB2 := hide (aD (aA HAL).1 hW3)
 have hx0 := ((aA HB2).cell (by exact aA HB)).trans (aA HX0)
 clear hW3 HAL
 go_wp2
 go_ret2
 rw [aA HX, aA HEB]
 exact zV (aA HB2)
end Go.Proofs.YtfekelmldebplaaGreatDoor
namespace Go.Proofs.YtfekelmldebplaaGreatDoor
open Go.RowKit
theorem aBx {P : Program} {ops : Array Oper} {o : Oper} {a : Act} {w : World} {K : Act → World → Prop} {Q : Exit → Act → World → Prop} (hg : o.guard = none) (h : wpList P ops (fun e a' w' => e = .normal ∧ K a' w') [o] a w) : o.wp P a w K Q := by
 unfold wpList at h
 have hw : Region.wanted o (yielded ops a.tmps) = true := by
  unfold Region.wanted
  rw [hg]
 rw [hw, if_pos rfl] at h
 rcases h with h | ⟨_, _, _, e, _⟩
 ·have h2 := Oper.wp_mono (K' := K) (fun a' w' h => by unfold wpList at h; exact h.2) h
  unfold Oper.wp at h2 ⊢
  generalize (execOp a.eval o).run P w = r at h2 ⊢
  unfold Oper.upon at h2 ⊢
  split at h2
  ·exact h2
  ·exact h2
  ·exact h2
  ·refine h2.mono ?_
   intro e w' h3
   split at h3
   ·exact h3
   ·cases h3.1
   ·obtain ⟨_, _, e, _⟩ := h3
    cases e
  ·exact h2
  ·cases h2.1
  ·exact h2.elim
 ·cases e
theorem uK {o : Oper} {A : Act} {w : World} {Q : Exit → Act → World → Prop} {R : Value → World → Prop} {Le : World → World → Prop} {S : World → Prop} (d : Nat) (hd : o.dst = some d) (hgd : o.guard = none) (s x : Operand) (t : TypeId)
  (ho : o.op = .call { callee := .builtin .append, args := #[s, x], argTypes := #[t, t] })
  (base : Nat) (e : TypeId) (i : TypeInfo) (z : Value) (size bytes : Nat) (ht : Tryz.prog.underlying t = some (.slice e)) (hi : Tryz.prog.info? e = some i) (hz : i.zero = some z)
  (hsize : i.size = size) (hby : i.bytes = bytes) (hzs : z.cells.size = size) (hsz : 0 < size)
  (v : Value) (n : Nat) (xs : List Value) (hs : A.eval s = v) (hown : w.ownsRow base e size v n xs)
  (ad : Addr) (m c : Nat) (news : List Value) (hx : A.eval x = .slice (some ad) m c) (hl : news.length = m * size) (hnews : ∀ j u, news[j]? = some u → w.cell? (ad.add j) = some u) (h1 : ∀ u ∈ news, u.oneCell' = true)
  (hm : 0 < m) (h63 : n + m ≤ maxLen) (hbytes : (n + m) * bytes ≤ 140737488355328) (hbase : base ≤ w.heap.size)
  (h : ∀ v' w', w'.ownsRow base e size v' (n + m) (xs ++ news) → Kept w w' base v v' n m → R v' w' ∧ Le w w' ∧ S w') : Does Tryz.prog o A w R Le S Q :=
 ⟨aBx (ops := #[]) hgd (aT w hgd s x t ho base e i z size bytes ht hi hz hsize hby hzs hsz v n xs hs hown ad m c news hx hl hnews h1 hm h63 hbytes hbase (fun v' w' r k => wpList_nil ⟨rfl, v', rfl, by rw [hd]; exact (h v' w' r k).1, (h v' w' r k).2.1, (h v' w' r k).2.2⟩))⟩
def eU (z : Nat) (v0 : Value) (P : Program) (Q : Exit → Act → World → Prop) (a : Act) (ds : List (Option Nat)) (S : World → Prop) (Le : World → World → Prop) (R : Nat → Value → World → Prop) (ops : List Oper) (runs : List Bool) : Nat → List Oper → Prop
 | _, [] => True
 | i, o :: l => (o.dst = ds.getD i none ∧ (∀ u w, S w → u z = v0 → Deps ds R u w o.after.toList → DoesG P ops.toArray o (over a ds u) w (runs.getD i true) (R i) Le S Q)) ∧ eU z v0 P Q a ds S Le R ops runs (i + 1) l
theorem eU.cons {z : Nat} {v0 : Value} {P : Program} {Q : Exit → Act → World → Prop} {a : Act} {ds : List (Option Nat)} {S : World → Prop} {Le : World → World → Prop} {R : Nat → Value → World → Prop} {ops : List Oper} {runs : List Bool} {i : Nat} {o : Oper} {l : List Oper} (h2 : o.dst = ds.getD i none)
  (h3 : ∀ u w, S w → u z = v0 → Deps ds R u w o.after.toList → DoesG P ops.toArray o (over a ds u) w (runs.getD i true) (R i) Le S Q) (h : eU z v0 P Q a ds S Le R ops runs (i + 1) l) : eU z v0 P Q a ds S Le R ops runs i (o :: l) := ⟨⟨h2, h3⟩, h⟩
theorem eU.at {z : Nat} {v0 : Value} {P : Program} {Q : Exit → Act → World → Prop} {a : Act} {ds : List (Option Nat)} {S : World → Prop} {Le : World → World → Prop} {R : Nat → Value → World → Prop} {ops : List Oper} {runs : List Bool} : ∀ (l : List Oper) (k i : Nat) (o : Oper), eU z v0 P Q a ds S Le R ops runs k l → l[i]? = some o → (o.dst = ds.getD (k + i) none ∧ (∀ u w, S w → u z = v0 → Deps ds R u w o.after.toList → DoesG P ops.toArray o (over a ds u) w (runs.getD (k + i) true) (R (k + i)) Le S Q))
 | [], _, _, _, _, e => by simp at e
 | x :: l, k, 0, o, h, e => by
  simp at e
  subst e
  exact h.1
 | x :: l, k, i + 1, o, h, e => by
  have := eU.at l (k + 1) i o h.2 (by simpa using e)
  rw [show k + 1 + i = k + (i + 1) by omega] at this
  exact this
theorem rQ (z zi : Nat) (v0 : Value) (oz : Oper) {P : Program} {Q : Exit → Act → World → Prop} {a : Act} {ds : List (Option Nat)} {S : World → Prop} {Le : World → World → Prop} {R : Nat → Value → World → Prop} {ops : List Oper}
  (nd : ∀ (i j k : Nat), ds[i]? = some (some k) → ds[j]? = some (some k) → i = j) (hlen : ds.length = ops.length)
  (hoz : ops[zi]? = some oz) (hdz : ds[zi]? = some (some z)) (haz : (List.range ops.length).all (fun j => j == zi || oz.after.toList.any (fun e => e.on == j)) = true) (hback : cO 0 ops = true) (hrefl : ∀ w, Le w w) (hst : ∀ i v w w', R i v w → Le w w' → R i v w') (runs : List Bool) (hstep : eU z v0 P Q a ds S Le R ops runs 0 ops)
  (hend : ∀ u w, S w → (∀ i, i < ops.length → R i (bX u (ds.getD i none)) w) → Q .normal (over a ds u) w) :
  ∀ (fuel : Nat) (listed : Array Bool) (u : Nat → Value) (w : World), S w → listed.size = ops.length → (List.range ops.length).countP (fun i => !listed.getD i true) ≤ fuel → (∀ i, listed.getD i false = true → R i (bX u (ds.getD i none)) w) → (listed.getD zi false = false → u z = v0) → (listed.getD zi false = true → ∀ j, j < ops.length → j ≠ zi → listed.getD j false = true) →
   wpAny P .any ops.toArray Q fuel listed (over a ds u) w := by
 have hall : ∀ (listed : Array Bool), listed.size = ops.length → Region.ready .any ops.toArray listed = [] → ∀ i, i < ops.length → listed.getD i false = true := by
  intro listed hs hr i
  induction i using Nat.strongRecOn with
  | _ i ih =>
   intro hi
   cases hb : listed.getD i false with
   | true => rfl
   | false =>
    exfalso
    have hlt : i < listed.size := by omega
    have hb' : listed.getD i true = false := by
     simp only [Array.getD, hlt, dite_true] at hb ⊢
     exact hb
    have : i ∈ Region.ready .any ops.toArray listed := by
     unfold Region.ready
     rw [List.mem_filter]
     refine ⟨by simpa using hi, ?_⟩
     have ho : ops.toArray[i]? = some ops[i] := by simp [hi]
     rw [hb', ho]
     simp only [Bool.not_false, Option.map_some, Option.getD_some, Bool.true_and]
     rw [Array.all_eq_true]
     intro k hk
     have he := cO.at ops 0 i ops[i] hback (by simp [hi]) _ (Array.getElem_mem hk)
     rw [he.2, ih _ (by omega) (by omega)]
     rfl
    rw [hr] at this
    simp at this
 have hnorm : ∀ (listed : Array Bool) (u : Nat → Value) (w : World), S w → listed.size = ops.length → Region.ready .any ops.toArray listed = [] → (∀ i, listed.getD i false = true → R i (bX u (ds.getD i none)) w) → Q .normal (over a ds u) w := fun listed u w hS hs hr hf => hend u w hS (fun i hi => hf i (hall listed hs hr i hi))
 intro fuel
 induction fuel with
 | zero =>
  intro listed u w hS hs hc hf hz1 hz2
  have hr : Region.ready .any ops.toArray listed = [] := by
   unfold Region.ready
   rw [List.filter_eq_nil_iff]
   intro i hi
   have h0 : (List.range ops.length).countP (fun i => !listed.getD i true) = 0 := by omega
   rw [List.countP_eq_zero] at h0
   have := h0 i (by simpa using hi)
   simp only [Bool.and_eq_true, _root_.not_and]
   intro h
   exact absurd h this
  exact ⟨hr, hnorm listed u w hS hs hr hf⟩
 | succ fuel ih =>
  intro listed u w hS hs hc hf hz1 hz2
  refine ⟨fun hr => hnorm listed u w hS hs hr hf, fun i hi => ?_⟩
  unfold Region.ready at hi
  rw [List.mem_filter] at hi
  obtain ⟨hi, hp⟩ := hi
  have hi' : i < ops.length := by simpa using hi
  have ho : ops.toArray[i]? = some ops[i] := by simp [hi']
  have hol : ops[i]? = some ops[i] := by simp [hi']
  rw [ho] at hp
  simp only [Option.map_some, Option.getD_some, Bool.and_eq_true, Bool.not_eq_true'] at hp
  obtain ⟨hpl, hpa⟩ := hp
  rw [Array.all_eq_true] at hpa
  obtain ⟨s2, s3⟩ := eU.at ops 0 i ops[i] hstep hol
  rw [Nat.zero_add] at s2 s3
  have hdi : ds[i]? = some (ds.getD i none) := by
   have : i < ds.length := by omega
   simp [List.getD, List.getElem?_eq_getElem this]
  have hdm : (ops[i]).dst = none ∨ (ops[i]).dst ∈ ds := by
   rw [s2]
   exact .inr (List.mem_of_getElem? hdi)
  have hdeps : Deps ds R u w (ops[i]).after.toList := by
   have : ∀ l : List Edge, (∀ e ∈ l, e ∈ (ops[i]).after) → Deps ds R u w l := by
    intro l
    induction l with
    | nil => intro _; trivial
    | cons e l ihl =>
     intro h
     have he := h e (List.mem_cons_self ..)
     obtain ⟨k, hk, rfl⟩ := Array.getElem_of_mem he
     have hb := (cO.at ops 0 i ops[i] hback hol _ he).2
     have := hpa k hk
     rw [hb] at this
     refine ⟨hf _ (by simpa using this), ihl (fun e he => h e (List.mem_cons_of_mem _ he))⟩
   exact this _ (fun e he => by simpa using he)
  have hpl' : listed.getD i false = false := by
   have hil : i < listed.size := by omega
   simp only [Array.getD, hil, dite_true] at hpl ⊢
   exact hpl
  have hzu : listed.getD zi false = false := by
   cases hq : listed.getD zi false with
   | false => rfl
   | true =>
    by_cases e : i = zi
    ·rw [← e, hpl'] at hq
     cases hq
    ·rw [hz2 hq i hi' e] at hpl'
     cases hpl'
  have hfin : ∀ v w', R i (gF (ops[i]).dst v) w' → Le w w' → S w' → wpAny P .any ops.toArray Q fuel (listed.setIfInBounds i true) (over a ds (upd u (ops[i]).dst v)) w' := by
   intro v w' hR hLe hS'
   have hil : i < listed.size := by omega
   refine ih _ _ _ hS' (by simpa using hs) ?_ ?_ ?_ ?_
   ·have := gX (p := fun x => !listed.getD x true) (q := fun x => !(listed.setIfInBounds i true).getD x true) (i := i) (fun x hx => by
     by_cases e : x = i
     ·subst e
      simp [Array.getD, hil] at hx
     ·have e' : i ≠ x := fun h => e h.symm
      by_cases hxl : x < listed.size
      ·simp only [Array.getD, Array.size_setIfInBounds, hxl, dite_true, Array.getInternal_eq_getElem, Array.getElem_setIfInBounds_ne hxl e'] at hx ⊢
       exact hx
      ·simp [Array.getD, hxl] at hx) (by rw [hpl]; rfl) (by simp [Array.getD, hil]) (List.range ops.length) (by simpa using hi')
    omega
   ·intro j hj
    by_cases e : j = i
    ·subst e
     rw [← s2]
     have hv : bX (upd u (ops[j]).dst v) (ops[j]).dst = gF (ops[j]).dst v := by
      cases (ops[j]).dst with
      | none => rfl
      | some k => simp [bX, upd, gF]
     rw [hv]
     exact hR
    ·have e' : i ≠ j := fun h => e h.symm
     have hj' : listed.getD j false = true := by
      by_cases hxl : j < listed.size
      ·simp only [Array.getD, Array.size_setIfInBounds, hxl, dite_true, Array.getInternal_eq_getElem, Array.getElem_setIfInBounds_ne hxl e'] at hj ⊢
       exact hj
      ·simp [Array.getD, hxl] at hj
     have h1 := hst _ _ _ _ (hf j hj') hLe
     have hv : bX (upd u (ops[i]).dst v) (ds.getD j none) = bX u (ds.getD j none) := by
      cases hdj : ds.getD j none with
      | none => rfl
      | some k =>
       cases hdi2 : (ops[i]).dst with
       | none => rfl
       | some k2 =>
        have hne : k ≠ k2 := by
         intro hk
         subst hk
         refine e (nd j i k ?_ ?_)
         ·have hjl : j < ds.length := by
           by_cases hjl : j < ds.length
           ·exact hjl
           ·simp [List.getD, List.getElem?_eq_none (Nat.le_of_not_lt hjl)] at hdj
          simp [List.getD, List.getElem?_eq_getElem hjl] at hdj
          rw [List.getElem?_eq_getElem hjl, hdj]
         ·rw [hdi, ← s2, hdi2]
        simp [bX, upd, hne]
     rw [hv]
     exact h1
   ·intro hq
    have hne : i ≠ zi := by
     intro e
     rw [← e] at hq
     simp [Array.getD, hil] at hq
    have hu : (ops[i]).dst ≠ some z := by
     intro e
     exact hne (nd i zi z (by rw [hdi, ← s2, e]) hdz)
    have : upd u (ops[i]).dst v z = u z := by
     cases hd2 : (ops[i]).dst with
     | none => rfl
     | some k =>
      have : z ≠ k := fun e => hu (by rw [hd2, e])
      simp [upd, this]
    rw [this]
    exact hz1 hzu
   ·intro hq j hj hjz
    have hiz : i = zi := by
     by_cases e : i = zi
     ·exact e
     ·exfalso
      have : listed.getD zi false = true := by
       by_cases hxl : zi < listed.size
       ·simp only [Array.getD, Array.size_setIfInBounds, hxl, dite_true, Array.getInternal_eq_getElem, Array.getElem_setIfInBounds_ne hxl e] at hq ⊢
        exact hq
       ·simp [Array.getD, hxl] at hq
      rw [this] at hzu
      cases hzu
    have hoi : ops[i] = oz := by
     have hoz' : ops[i]? = some oz := by
      rw [hiz]
      exact hoz
     exact Option.some.inj (hol.symm.trans hoz')
    have hje := List.all_eq_true.1 haz j (by simpa using hj)
    rw [Bool.or_eq_true] at hje
    rcases hje with hje | hje
    ·exact absurd (by simpa using hje) hjz
    ·obtain ⟨e, he, heq⟩ := List.any_eq_true.1 hje
     have he' : e ∈ (ops[i]).after := by
      rw [hoi]
      simpa using he
     obtain ⟨k, hk, rfl⟩ := Array.getElem_of_mem he'
     have hb := (cO.at ops 0 i ops[i] hback hol _ he').2
     have h5 := hpa k hk
     rw [hb] at h5
     have h6 : listed.getD j false = true := by
      have e2 : ((ops[i]).after[k]).on = j := by simpa using heq
      rw [← e2]
      simpa using h5
     have hji : i ≠ j := fun e => hjz (by rw [← e, hiz])
     by_cases hxl : j < listed.size
     ·simp only [Array.getD, Array.size_setIfInBounds, hxl, dite_true, Array.getInternal_eq_getElem, Array.getElem_setIfInBounds_ne hxl hji] at h6 ⊢
      exact h6
     ·simp [Array.getD, hxl] at h6
  have hdo := s3 u w hS (hz1 hzu) hdeps
  unfold wpOp
  rw [ho]
  cases hrun : runs.getD i true with
  | true =>
   rw [hrun] at hdo
   simp only [hdo.want, if_true]
   refine .inl (Oper.wp_mono ?_ (hdo.does rfl).go)
   rintro a' w' ⟨v, rfl, hR, hLe, hS'⟩
   rw [gG a ds u _ v hdm]
   exact hfin v w' hR hLe hS'
  | false =>
   rw [hrun] at hdo
   simp only [hdo.want]
   have e : gF (ops[i]).dst undef = undef := by cases (ops[i]).dst <;> rfl
   show wpAny P .any ops.toArray Q fuel (listed.setIfInBounds i true) ((over a ds u).put (ops[i]).dst undef) w
   rw [gG a ds u _ undef hdm]
   exact hfin undef w (by rw [e]; exact (hdo.skip rfl).1) (hrefl w) (hdo.skip rfl).2
theorem lQ (z zi : Nat) (v0 : Value) (oz : Oper) {P : Program} {Q : Exit → Act → World → Prop} {a : Act} {w : World} {id : Nat} {ops : List Oper} (ds : List (Option Nat)) (S : World → Prop) (Le : World → World → Prop) (R : Nat → Value → World → Prop)
  (hm : P.follows .mixedOrders = true) (nd : ndB ds = true) (hlen : ds.length = ops.length)
  (hoz : ops[zi]? = some oz) (hdz : ds[zi]? = some (some z)) (haz : (List.range ops.length).all (fun j => j == zi || oz.after.toList.any (fun e => e.on == j)) = true) (hback : cO 0 ops = true) (hrefl : ∀ w, Le w w) (hst : ∀ i v w w', R i v w → Le w w' → R i v w') (hv0 : a.tmps.getD z undef = v0) (hS : S w.drew) (runs : List Bool) (hstep : eU z v0 P Q a ds S Le R ops runs 0 ops)
  (hend : ∀ u w, S w → (∀ i, i < ops.length → R i (bX u (ds.getD i none)) w) → Q .normal (over a ds u) w) : (Code.region id ops.toArray true).wp P Q a w := by
 refine wp_region_any hm ?_
 have := rQ z zi v0 oz (ndB.spec ds nd) hlen hoz hdz haz hback hrefl hst runs hstep hend ops.length (Array.replicate ops.length false) (fun k => a.tmps.getD k undef) w.drew hS (by simp) (by
  refine Nat.le_trans List.countP_le_length ?_
  simp) (fun i hi => by
  exfalso
  by_cases h : i < ops.length
  ·simp [Array.getD, h] at hi
  ·simp [Array.getD, h] at hi) (fun _ => hv0) (fun hi => by
  exfalso
  by_cases h : zi < ops.length
  ·simp [Array.getD, h] at hi
  ·simp [Array.getD, h] at hi)
 rw [iT] at this
 simpa using this
end Go.Proofs.YtfekelmldebplaaGreatDoor
