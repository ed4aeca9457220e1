import Derived.BigRegion
import Derived.Test.YtfekelmldebplaaGreatDoorJf
import Derived.Test.YtfekelmldebplaaGreatDoorSwa
import Derived.Test.YtfekelmldebplaaGreatDoorYn
set_option maxRecDepth 100000
set_option maxHeartbeats 8000000
namespace Go.Proofs.YtfekelmldebplaaGreatDoor
open Go.RowKit
theorem BP.Ok.next {w w' : World} {B : Nat} {p : BP} (h : p.Ok w B) {t' y' : T4} (g1 : fT p.t t') (g2 : fT p.y y') (hL : fP t' y') (hin : gC t') (hB : BankAt w' B p.rb p.sb p.tb p.kb t' p.LL p.us) (hR : RefAt w' p.yb p.s0 p.s1 p.s2 p.s3 p.rv y' p.LL) (hr : RulesOf w' B p.rv p.LL p.ys) : BP.Ok w' B { p with t := t', y := y' } ∧ ∀ k, BP.turns { p with t := t', y := y' } k ↔ p.turns k := by
 refine ⟨⟨hB, hR, hr, fun i hi => ?_, hL, hin, h.cl, h.rl, fun i j hi hj => ?_⟩, fun k => ?_⟩
 ·show B ≤ (y'.at i).g
  rw [g2 i hi]
  exact h.lo i hi
 ·show (t'.at i).g ≠ (y'.at j).g
  rw [g1 i hi, g2 j hj]
  exact h.sep i j hi hj
 ·constructor
  ·rintro (e | ⟨i, hi, e | e⟩)
   ·exact .inl e
   ·exact .inr ⟨i, hi, .inl (e.trans (g1 i hi))⟩
   ·exact .inr ⟨i, hi, .inr (e.trans (g2 i hi))⟩
  ·rintro (e | ⟨i, hi, e | e⟩)
   ·exact .inl e
   ·exact .inr ⟨i, hi, .inl (e.trans (g1 i hi).symm)⟩
   ·exact .inr ⟨i, hi, .inr (e.trans (g2 i hi).symm)⟩
theorem pC {t y : T4} (h : fP t y) (rs : List Rule) (f : Int) (bs : List Int) (hbs : Bys bs) (hlen : bs.length ≤ 252) : eT t rs f bs = eT y rs f bs := by
 unfold eT
 cases hp : aO f bs with
 | inl x => rfl
 | inr q =>
  have ok := cZ f bs hbs hlen q hp
  simp only
  rw [h q.t ok.t]
theorem jR {t : T4} {rs : List Rule} {f : Int} {bs : List Int} {q : Req} (hj : eT t rs f bs = .inr q) : aO f bs = .inr q ∧ excL (t.at q.t).L.length rs q = 0 := by
 unfold eT at hj
 cases hpp : aO f bs with
 | inl x => rw [hpp] at hj; cases hj
 | inr q' =>
  rw [hpp] at hj
  simp only at hj
  split at hj
  ·cases hj; exact ⟨rfl, by assumption⟩
  ·cases hj
theorem uW {t y : T4} (h : fP t y) (rs : List Rule) (f : Int) (bs : List Int) (hbs : Bys bs) (hlen : bs.length ≤ 252) : gJ t rs f bs = gJ y rs f bs := by
 unfold gJ
 rw [pC h rs f bs hbs hlen]
 cases hj : eT y rs f bs with
 | inl x => rfl
 | inr q =>
  have ok := cZ f bs hbs hlen q (jR hj).1
  simp only
  rw [h q.t ok.t]
theorem yF {t y : T4} (h : fP t y) (rs : List Rule) (f : Int) (bs : List Int) (hbs : Bys bs) (hlen : bs.length ≤ 252) : fP (iG t rs f bs) (iG y rs f bs) := by
 unfold iG
 rw [pC h rs f bs hbs hlen]
 cases hj : eT y rs f bs with
 | inl x => exact h
 | inr q =>
  have ok := cZ f bs hbs hlen q (jR hj).1
  simp only
  rw [h q.t ok.t]
  exact h.put _ _
theorem aFp (t : T4) (rs : List Rule) (f : Int) (bs : List Int) : fT t (iG t rs f bs) := by
 unfold iG
 cases eT t rs f bs with
 | inl x => exact fT.refl _
 | inr q => exact fT.put _ _ _
theorem aD4 {t : T4} (h : gC t) (rs : List Rule) (f : Int) (bs : List Int) (hbs : Bys bs) (hlen : bs.length ≤ 252) : gC (iG t rs f bs) := by
 unfold iG
 cases hj : eT t rs f bs with
 | inl x => exact h
 | inr q =>
  have ok := cZ f bs hbs hlen q (jR hj).1
  exact h.put _ _ (mQ _ q ok (h q.t ok.t) (pH (jR hj).2).2)
theorem aA9 (t : T4) (rs : List Rule) (f : Int) (bs : List Int) (hbs : Bys bs) (hlen : bs.length ≤ 252) : (gJ t rs f bs).length ≤ 1000000 := by
 unfold gJ
 cases hj : eT t rs f bs with
 | inl x => simp [excB]
 | inr q =>
  have ok := cZ f bs hbs hlen q (jR hj).1
  have hs : (bM (bI (t.at q.t).L q) q.ra q.rc).length ≤ 2000 := by
   have := ok.rc
   unfold bM
   rw [List.length_take]
   omega
  simp only
  unfold dS
  split
  ·have : (cV q.t (bM (bI (t.at q.t).L q) q.ra q.rc)).length ≤ 4000 := by
    unfold cV
    split
    ·unfold iD
     rw [eZ]
     omega
    ·rw [gQ]
     omega
   simp
   omega
  ·have := ok.elen
   simp
   omega
def ansE (n : Nat) (cl : Int) (xs : List Int) : Int := if cl < 0 ∨ (n : Int) ≤ cl then 6 else if xs.length < 1 ∨ 253 < xs.length then 1 else 0
def ansO (t : T4) (LL : List (List Rule)) (cl : Int) (xs : List Int) : List Int := if ansE LL.length cl xs = 0 then gJ t (LL.getD cl.toNat []) (xs.getD 0 0) (xs.drop 1) else []
def ansT (t : T4) (LL : List (List Rule)) (cl : Int) (xs : List Int) : T4 := if ansE LL.length cl xs = 0 then iG t (LL.getD cl.toNat []) (xs.getD 0 0) (xs.drop 1) else t
theorem tY {n : Nat} {cl : Int} {xs : List Int} (h : ansE n cl xs = 0) : (0 ≤ cl ∧ cl < (n : Int)) ∧ 1 ≤ xs.length ∧ xs.length ≤ 253 := by
 unfold ansE at h
 split at h
 ·cases h
 ·split at h
  ·cases h
  ·omega
theorem iX {xs : List Int} (h : Bys xs) : Bys (xs.drop 1) := fun x hx => h x (List.mem_of_mem_drop hx)
theorem aB7 {t y : T4} (h : fP t y) (LL : List (List Rule)) (cl : Int) (xs : List Int) (hx : Bys xs) : ansO t LL cl xs = ansO y LL cl xs := by
 unfold ansO
 split
 ·rename_i e
  have := tY e
  exact uW h _ _ _ (iX hx) (by simp; omega)
 ·rfl
theorem aB6 {t y : T4} (h : fP t y) (LL : List (List Rule)) (cl : Int) (xs : List Int) (hx : Bys xs) : fP (ansT t LL cl xs) (ansT y LL cl xs) := by
 unfold ansT
 split
 ·rename_i e
  have := tY e
  exact yF h _ _ _ (iX hx) (by simp; omega)
 ·exact h
theorem aEv (t : T4) (LL : List (List Rule)) (cl : Int) (xs : List Int) : fT t (ansT t LL cl xs) := by
 unfold ansT
 split
 ·exact aFp _ _ _ _
 ·exact fT.refl _
theorem aGi {t : T4} (h : gC t) (LL : List (List Rule)) (cl : Int) (xs : List Int) (hx : Bys xs) : gC (ansT t LL cl xs) := by
 unfold ansT
 split
 ·rename_i e
  have := tY e
  exact aD4 h _ _ _ (iX hx) (by simp; omega)
 ·exact h
theorem aEw (t : T4) (LL : List (List Rule)) (cl : Int) (xs : List Int) (hx : Bys xs) : (ansO t LL cl xs).length ≤ 1000000 := by
 unfold ansO
 split
 ·rename_i e
  have := tY e
  exact aA9 _ _ _ _ (iX hx) (by simp; omega)
 ·simp
theorem qG {xs : List Int} (h : 1 ≤ xs.length) : xs = xs.getD 0 0 :: xs.drop 1 := by
 cases xs with
 | nil => simp at h
 | cons x xs => simp
theorem zJ (B rb sb tb kb : Nat) (t : T4) (LL : List (List Rule)) (us : List Value) (cl : Int) (v : Value) (xs : List Int) (w : World) (h : BankAt w B rb sb tb kb t LL us) (h6 : LL.length ≤ 6) (h8 : ∀ rs ∈ LL, rs.length ≤ 8) (hin : gC t) (hg : dF w) (hB : 0 < B) (hx : Bys xs) (hv : Lies w v xs) (hvb : ∀ b, v.ownBlock = some b → ∃ cs fr, w.heap[b]? = some (.cells cs 5 fr)) :
  Calls Tryz.prog 28 #[.pointer (some ⟨rb, 0, none⟩), .int .i64 cl, v] w fun r w' => ∃ u, r = .returned (.tuple #[u, .int .i64 (ansE LL.length cl xs)]) ∧ Owns w' w.heap.size u (ansO t LL cl xs) ∧ (ansE LL.length cl xs ≠ 0 → u = .slice none 0 0) ∧ BankAt w' B rb sb tb kb (ansT t LL cl xs) LL us ∧ Chg w w' (iM t sb) := by
 by_cases hc : cl < 0 ∨ (LL.length : Int) ≤ cl
 ·have e : ansE LL.length cl xs = 6 := if_pos hc
  obtain ⟨va, vc, rfl⟩ := gV hv
  refine (nJ B rb sb tb kb t LL us cl _ w h hc ⟨_, _, _, rfl⟩).mono ?_
  rintro r w' ⟨rfl, hb⟩
  unfold ansO ansT
  rw [e]
  exact ⟨_, rfl, World.ownsRow_nil _ _ _ _, fun _ => rfl, h.below hb, Chg.of_below hb _⟩
 ·obtain ⟨n, rfl⟩ := Int.eq_ofNat_of_zero_le (show 0 ≤ cl by omega)
  have hn : n < LL.length := by omega
  by_cases hl : xs.length < 1 ∨ 253 < xs.length
  ·have e : ansE LL.length (n : Int) xs = 1 := by unfold ansE; rw [if_neg hc, if_pos hl]
   obtain ⟨va, vc, rfl⟩ := gV hv
   refine (zF B rb sb tb kb t LL us n va xs.length vc w h hn hl).mono ?_
   rintro r w' ⟨rfl, hb⟩
   unfold ansO ansT
   rw [e]
   exact ⟨_, rfl, World.ownsRow_nil _ _ _ _, fun _ => rfl, h.below hb, Chg.of_below hb _⟩
  ·have e : ansE LL.length (n : Int) xs = 0 := by unfold ansE; rw [if_neg hc, if_neg hl]
   have hs := qG (xs := xs) (by omega)
   have hcl : LL[n]? = some (LL.getD n []) := by rw [List.getD_eq_getElem?_getD, List.getElem?_eq_getElem hn]; rfl
   have hus : us.length = LL.length := h.st.cl.len
   have hv' : Lies w v (xs.getD 0 0 :: xs.drop 1) := by rw [← hs]; exact hv
   refine (zH B rb sb tb kb t LL us n (LL.getD n []) us[n] (xs.getD 0 0) v (xs.drop 1) w h (by omega) hcl (List.getElem?_eq_getElem (by omega)) (h8 _ (List.mem_of_getElem? hcl)) hv' hvb (by simp; omega) (iX hx) hg hB hin).mono ?_
   rintro r w' ⟨a, m, c, rfl, ho, hBk, hC⟩
   unfold ansO ansT
   rw [e]
   exact ⟨_, rfl, ho, fun q => absurd rfl q, hBk, hC⟩
theorem vC (yb : Nat) (s0 s1 s2 s3 rv : Value) (y : T4) (LL : List (List Rule)) (cl : Int) (v : Value) (xs : List Int) (w : World) (h : RefAt w yb s0 s1 s2 s3 rv y LL) (h8 : ∀ rs ∈ LL, rs.length ≤ 8) (hin : gC y) (hx : Bys xs) (hv : Lies w v xs) :
  Calls Tryz.prog 94 #[.pointer (some ⟨yb, 0, none⟩), .int .i64 cl, v] w fun r w' => ∃ u, r = .returned (.tuple #[u, .int .i64 (ansE LL.length cl xs)]) ∧ Owns w' w.heap.size u (ansO y LL cl xs) ∧ RefAt w' yb s0 s1 s2 s3 rv (ansT y LL cl xs) LL ∧ Chg w w' (fun k => ∃ i, i < 4 ∧ k = (y.at i).g) := by
 by_cases hc : cl < 0 ∨ (LL.length : Int) ≤ cl
 ·have e : ansE LL.length cl xs = 6 := if_pos hc
  obtain ⟨va, vc, rfl⟩ := gV hv
  refine (vG yb s0 s1 s2 s3 rv y LL cl _ w h ⟨_, _, _, rfl⟩ hc).mono ?_
  rintro r w' ⟨rfl, rfl⟩
  unfold ansO ansT
  rw [e]
  exact ⟨_, rfl, World.ownsRow_nil _ _ _ _, h, Chg.refl _ _⟩
 ·obtain ⟨n, rfl⟩ := Int.eq_ofNat_of_zero_le (show 0 ≤ cl by omega)
  have hn : n < LL.length := by omega
  by_cases hl : xs.length < 1 ∨ 253 < xs.length
  ·have e : ansE LL.length (n : Int) xs = 1 := by unfold ansE; rw [if_neg hc, if_pos hl]
   obtain ⟨va, vc, rfl⟩ := gV hv
   refine (aDg yb s0 s1 s2 s3 rv y LL n va xs.length vc w h hn hl).mono ?_
   rintro r w' ⟨rfl, rfl⟩
   unfold ansO ansT
   rw [e]
   exact ⟨_, rfl, World.ownsRow_nil _ _ _ _, h, Chg.refl _ _⟩
  ·have e : ansE LL.length (n : Int) xs = 0 := by unfold ansE; rw [if_neg hc, if_neg hl]
   have hs := qG (xs := xs) (by omega)
   have hcl : LL[n]? = some (LL.getD n []) := by rw [List.getD_eq_getElem?_getD, List.getElem?_eq_getElem hn]; rfl
   have h0 : 0 ≤ xs.getD 0 0 ∧ xs.getD 0 0 < 256 := hx.at 0
   obtain ⟨f, hf⟩ := Int.eq_ofNat_of_zero_le h0.1
   have hv' : Lies w v ((f : Int) :: xs.drop 1) := by rw [← hf, ← hs]; exact hv
   refine (vB yb s0 s1 s2 s3 rv y LL n (LL.getD n []) f (xs.drop 1) v w h hcl (h8 _ (List.mem_of_getElem? hcl)) hv' (by omega) (iX hx) (by simp; omega) hin).mono ?_
   rintro r w' ⟨a, m, c, rfl, ho, hR, hC⟩
   unfold ansO ansT
   rw [e, hf]
   exact ⟨_, rfl, ho, hR, hC⟩
theorem BP.Ok.half {w w1 w2 w3 : World} {B : Nat} {p : BP} {E : Nat → Prop} (h : p.Ok w B) (hb1 : Below w.heap.size w w1) (c2 : Chg w1 w2 (iM p.t p.sb)) (c3 : Chg w2 w3 E) (hE : ∀ k, E k → w.heap.size ≤ k) (mE : hG w2 E) : RefAt w3 p.yb p.s0 p.s1 p.s2 p.s3 p.rv p.y p.LL ∧ RulesOf w3 B p.rv p.LL p.ys := by
 have h1 := h.below hb1
 have m2 : hG w1 (iM p.t p.sb) := fun k e l => by
  obtain ⟨cs, T, fr, q, hs, _⟩ := h1.row (k := k) (by
   rcases e with e | ⟨i, hi, e⟩
   ·exact .inl e
   ·exact .inr ⟨i, hi, .inl e⟩)
  exact ⟨cs, T, fr, q, hs⟩
 have n2 : ∀ i, i < 4 → ¬ iM p.t p.sb (p.y.at i).g := fun i hi e => by
  rcases e with e | ⟨j, hj, e⟩
  ·exact bG (h1.ref.ent i hi) h1.bank.st.row (by decide) e
  ·exact h.sep j i hj hi e.symm
 have r2 := h1.ref.keep h1.rul c2 m2 n2
 have u2 := h1.rul.keep c2 m2
 have n3 : ∀ i, i < 4 → ¬ E (p.y.at i).g := fun i hi e => by
  have := hE _ e
  have := h.lt (k := (p.y.at i).g) (.inr ⟨i, hi, .inr rfl⟩)
  omega
 exact ⟨r2.keep u2 c3 mE n3, u2.keep c3 mE⟩
theorem BInv.both {w w1 w2 w3 w3' w4 : World} {B bw : Nat} {ps : List BP} {vp vb vi : Value} {rb ri : List Rec} {i : Nat} {p : BP} {t' y' : T4} {E : Nat → Prop} (h : BInv w B bw ps vp vb vi rb ri) (hp : ps[i]? = some p) (hb1 : Below w.heap.size w w1) (hB2 : BankAt w2 B p.rb p.sb p.tb p.kb t' p.LL p.us) (c2 : Chg w1 w2 (iM p.t p.sb)) (c3 : Chg w2 w3 E) (hE : ∀ k, E k → w.heap.size ≤ k) (mE : hG w2 E) (hb3 : Below w3.heap.size w3 w3')
  (hR4 : RefAt w4 p.yb p.s0 p.s1 p.s2 p.s3 p.rv y' p.LL) (c4 : Chg w3' w4 (fun k => ∃ i, i < 4 ∧ k = (p.y.at i).g)) (g1 : fT p.t t') (g2 : fT p.y y') (hL : fP t' y') (hin : gC t') :
  BInv w4 B bw (ps.set i { p with t := t', y := y' }) vp vb vi rb ri ∧ Chg w w4 (fun k => p.turns k ∨ w.heap.size ≤ k) ∧ rN w.heap.size (ps.set i { p with t := t', y := y' }) vp rb ri := by
 have ok := h.ok p (List.mem_of_getElem? hp)
 obtain ⟨hR3, hU3⟩ := ok.half hb1 c2 c3 hE mE
 have hR3' := hR3.below hb3
 have hU3' := hU3.keep (Chg.of_below hb3 (fun _ => False)) (fun _ e => e.elim)
 have ltt : ∀ k, p.turns k → k < w.heap.size := fun k e => ok.lt e
 have hB3 : BankAt w3 B p.rb p.sb p.tb p.kb t' p.LL p.us := hB2.keepM c3 mE (fun e => by have := hE _ e; have := ltt p.sb (.inl rfl); omega) (fun j hj e => by
  have := hE _ e
  rw [g1 j hj] at this
  have := ltt _ (.inr ⟨j, hj, .inl rfl⟩)
  omega)
 have m4 : hG w3' (fun k => ∃ i, i < 4 ∧ k = (p.y.at i).g) := fun k e _ => by
  obtain ⟨j, hj, rfl⟩ := e
  exact ⟨_, _, _, hR3'.ent j hj, by decide⟩
 have hB4 : BankAt w4 B p.rb p.sb p.tb p.kb t' p.LL p.us := (hB3.below hb3).keepM c4 m4 (fun e => by
  obtain ⟨j, hj, e⟩ := e
  exact bG (hB3.below hb3).st.row (hR3'.ent j hj) (by decide) e) (fun k hk e => by
  obtain ⟨j, hj, e⟩ := e
  rw [g1 k hk] at e
  exact ok.sep k j hk hj e)
 have hU4 := hU3'.keep c4 m4
 obtain ⟨hok, ht⟩ := ok.next g1 g2 hL hin hB4 hR4 hU4
 have c : Chg w w4 (fun k => p.turns k ∨ w.heap.size ≤ k) := by
  have a1 : Chg w w2 (fun k => p.turns k ∨ w.heap.size ≤ k) := (Chg.of_below hb1 _).trans c2 (fun k e _ => .inl (by
   rcases e with e | ⟨j, hj, e⟩
   ·exact .inl e
   ·exact .inr ⟨j, hj, .inl e⟩))
  have a2 := a1.trans c3 (fun k e _ => .inr (hE k e))
  have a3 := chg_below a2 hb3
  exact a3.trans c4 (fun k e _ => by
   obtain ⟨j, hj, e⟩ := e
   exact .inl (.inr ⟨j, hj, .inr e⟩))
 have U := h.under
 refine ⟨h.called hp c (fun k e l => e.elim id (fun e => by omega)) rfl rfl ht hok, c, fun q m k e => ?_, U.2⟩
 obtain ⟨j, hj⟩ := List.getElem?_of_mem m
 by_cases e' : i = j
 ·subst e'
  rw [List.getElem?_set_self (List.getElem?_eq_some_iff.1 hp).1] at hj
  cases hj
  exact ltt k ((ht k).1 e)
 ·rw [List.getElem?_set_ne e'] at hj
  exact U.1 q (List.mem_of_getElem? hj) k e
theorem BInv.inted {w w' : World} {B bw N : Nat} {ps : List BP} {vp vb vi v : Value} {rb ri : List Rec} {xs : List Int} (h : BInv w B bw ps vp vb vi rb ri) (hU : rN N ps vp rb ri) (hv : aS w B v xs) (hN : ∀ k, v.ownBlock = some k → N ≤ k) (hy : InB w B bw (.slice none 0 0) (.slice none 0 0) vp vb vi rb ri v w') : ∃ vi' ri', BInv w' B bw ps vp vb vi' rb ri' ∧ ri'.length = ri.length + 1 ∧ Chg w w' (fun k => k = bw ∨ vi.ownBlock = some k ∨ v.ownBlock = some k) := by
 obtain ⟨vi', r, hb, _, hr⟩ := hy.out
 refine ⟨vi', ri ++ [r], h.booked (v := v) hy.chg (fun k e _ => e.elim .inl (fun e => e.elim (fun e => .inr (.inr (.inl e))) (fun e => .inr (.inr (.inr e))))) (fun k e _ => ?_) (fun k e => ?_) hb (fun r' m => ?_), by simp, hy.chg⟩
 ·rcases e with rfl | e | e
  ·exact ⟨_, _, _, h.book.row, by decide⟩
  ·obtain ⟨cs, fr, q⟩ := bH h.book.rowI e
   exact ⟨_, _, _, q, by decide⟩
  ·obtain ⟨cs, fr, q⟩ := bH hv e
   exact ⟨_, _, _, q, by decide⟩
 ·have := hN k e
  exact ⟨fun p m t => by have := hU.1 p m k t; omega, fun t => by have := hU.2.2 k t; omega, (World.ownsRow.lt hv k e).1⟩
 ·rcases m with m | m
  ·exact .inl (.inl m)
  ·rcases List.mem_append.1 m with m | m
   ·exact .inl (.inr m)
   ·rw [List.mem_singleton.1 m]
    exact .inr hr
theorem BInv.byted {w w' : World} {B bw N : Nat} {ps : List BP} {vp vb vi v : Value} {rb ri : List Rec} {xs : List Int} (h : BInv w B bw ps vp vb vi rb ri) (hU : rN N ps vp rb ri) (hv : Owns w B v xs) (hN : ∀ k, v.ownBlock = some k → N ≤ k) (hy : BytedI w B bw (.slice none 0 0) (.slice none 0 0) vp vb vi rb ri v w') : ∃ vb' rb', BInv w' B bw ps vp vb' vi rb' ri ∧ rb'.length = rb.length + 1 ∧ Chg w w' (fun k => k = bw ∨ vb.ownBlock = some k ∨ v.ownBlock = some k) := by
 obtain ⟨vb', r, hb, _, hr⟩ := hy.out
 refine ⟨vb', rb ++ [r], h.booked (v := v) hy.chg (fun k e _ => e.elim .inl (fun e => e.elim (fun e => .inr (.inl e)) (fun e => .inr (.inr (.inr e))))) (fun k e _ => ?_) (fun k e => ?_) hb (fun r' m => ?_), by simp, hy.chg⟩
 ·rcases e with rfl | e | e
  ·exact ⟨_, _, _, h.book.row, by decide⟩
  ·obtain ⟨cs, fr, q⟩ := bH h.book.rowB e
   exact ⟨_, _, _, q, by decide⟩
  ·obtain ⟨cs, fr, q⟩ := bH hv e
   exact ⟨_, _, _, q, by decide⟩
 ·have := hN k e
  exact ⟨fun p m t => by have := hU.1 p m k t; omega, fun t => by have := hU.2.2 k t; omega, (World.ownsRow.lt hv k e).1⟩
 ·rcases m with m | m
  ·rcases List.mem_append.1 m with m | m
   ·exact .inl (.inl m)
   ·rw [List.mem_singleton.1 m]
    exact .inr hr
  ·exact .inl (.inr m)
def dY (w w' : World) (B bw : Nat) (ps : List BP) (rb ri : List Rec) : Prop :=
 ∃ ps' vp vb vi rb' ri', BInv w' B bw ps' vp vb vi rb' ri' ∧ ps'.length = ps.length ∧ rb'.length ≤ rb.length + 1 ∧ ri'.length ≤ ri.length + 1 ∧ Chg w w' (fun k => B ≤ k)
theorem nS {w : World} {B : Nat} {p : BP} (h : p.Ok w B) (_hB : B ≤ w.heap.size) {w' : World} (c : Chg w w' (fun k => p.turns k ∨ w.heap.size ≤ k)) : Chg w w' (fun k => B ≤ k) := c.mono fun k _ e => e.elim (fun e => h.ge e) (fun e => by omega)
structure Boxed (w W0 : World) (op : Array Value) (x y : Value) : Prop where
 below : Below w.heap.size w W0
 size : W0.heap.size = w.heap.size + 2
 op_ : W0.heap[w.heap.size]? = some (.cells op 95 (0, 0))
 pr : W0.heap[w.heap.size + 1]? = some (.cells #[x, y] 122 (0, 0))
theorem mR (w : World) (op : Array Value) (x y : Value) : Boxed w ((w.alloc (.cells op 95)).alloc (.cells #[x, y] 122)) op x y := by
 have e1 := heap_alloc_new (w.alloc (.cells op 95)) (.cells #[x, y] 122)
 rw [show (w.alloc (.cells op 95)).heap.size = w.heap.size + 1 by simp] at e1
 exact ⟨bL (bL (Below.refl _ _) _) _, by simp, (Below.heap_alloc _ _ _ (by simp)).trans (heap_alloc_new w _), e1⟩
theorem cB.chg0 {w w' : World} {v : Value} {xs : List Int} {D : Nat → Prop} (h : cB w v xs) (c : Chg w w' D) (hD : xs ≠ [] → ∀ b, v.ownBlock = some b → ¬ D b) : cB w' v xs := by
 by_cases e : xs = []
 ·obtain ⟨a, cc, rfl, _⟩ := h
  exact ⟨a, cc, rfl, .inl e⟩
 ·exact h.chg c (hD e)
theorem kO.blk {w : World} {S : Nat} {v : Value} {xs : List Int} (h : kO w S v xs) : ∀ k, v.ownBlock = some k → S ≤ k ∧ k < w.heap.size ∧ ∃ cs fr, w.heap[k]? = some (.cells cs 3 fr) := fun k e => by
 rcases h with ⟨rfl, _⟩ | ⟨g, c, rfl, h⟩
 ·simp [Value.ownBlock] at e
 ·have e' : (Value.slice (some ⟨g, 0, none⟩) (xs.length + 1) c).ownBlock = some k := by simpa [Value.ownBlock] using e
  have := World.ownsRow.lt h k e'
  exact ⟨this.1, this.2, bH h e'⟩
theorem kO.keep {w w' : World} {S : Nat} {v : Value} {xs : List Int} (h : kO w S v xs) (hk : ∀ k, v.ownBlock = some k → w'.heap[k]? = w.heap[k]?) : kO w' S v xs := by
 rcases h with h | ⟨g, c, rfl, h⟩
 ·exact .inl h
 ·exact .inr ⟨g, c, rfl, aJ h fun k _ _ q => hk k (by simpa [Value.ownBlock] using q)⟩
theorem aEq (A Bq C Dq : Int) (ss : ByteArray) (n0 n1 n2 n3 n4 ru li : Value) (la : Option Addr) (lc : Nat) (xs : List Int) (B bw : Nat) (ps : List BP) (vp vb vi : Value) (rb ri : List Rec) (i : Nat) (p : BP) (w : World) (h : BInv w B bw ps vp vb vi rb ri) (hp : ps[i]? = some p) (hBw : B ≤ w.heap.size) (hl : cB w (.slice la xs.length lc) xs) (hlb : xs ≠ [] → ∀ b, (Value.slice la xs.length lc).ownBlock = some b → b < B) (hn : xs.length ≤ 1000000000) (hC : -9223372036854775808 ≤ C ∧ C ≤ 9223372036854775807) :
  Calls Tryz.prog 58 #[.pointer (some ⟨bw, 0, none⟩), .agg #[.int .i64 5, .int .i64 A, .int .i64 Bq, .int .i64 C, .int .i64 Dq, .string ss, .slice la xs.length lc, n0, n1, n2, n3, n4, ru, li], .agg #[.pointer (some ⟨p.rb, 0, none⟩), .pointer (some ⟨p.yb, 0, none⟩)]] w fun e w' => e = .returned (.bool true) ∧ dY w w' B bw ps rb ri := by
 have ok := h.ok p (List.mem_of_getElem? hp)
 obtain ⟨W0, hW0⟩ : ∃ W, W = (w.alloc (.cells #[.int .i64 5, .int .i64 A, .int .i64 Bq, .int .i64 C, .int .i64 Dq, .string ss, .slice la xs.length lc, n0, n1, n2, n3, n4, ru, li] 95)).alloc (.cells #[.pointer (some ⟨p.rb, 0, none⟩), .pointer (some ⟨p.yb, 0, none⟩)] 122) := ⟨_, rfl⟩
 have bx := mR w #[.int .i64 5, .int .i64 A, .int .i64 Bq, .int .i64 C, .int .i64 Dq, .string ss, .slice la xs.length lc, n0, n1, n2, n3, n4, ru, li] (.pointer (some ⟨p.rb, 0, none⟩)) (.pointer (some ⟨p.yb, 0, none⟩))
 rw [← hW0] at bx
 have K : Hid (∀ W : World, (∀ k, w.heap.size ≤ k → k < W0.heap.size → W.heap[k]? = W0.heap[k]?) → W.cell? ⟨w.heap.size, 0, none⟩ = some (.int .i64 5) ∧ W.cell? ⟨w.heap.size, 2, none⟩ = some (.int .i64 Bq) ∧ W.cell? ⟨w.heap.size, 3, none⟩ = some (.int .i64 C) ∧ W.cell? ⟨w.heap.size, 6, none⟩ = some (.slice la xs.length lc) ∧ W.cell? ⟨w.heap.size + 1, 0, none⟩ = some (.pointer (some ⟨p.rb, 0, none⟩)) ∧ W.cell? ⟨w.heap.size + 1, 1, none⟩ = some (.pointer (some ⟨p.yb, 0, none⟩))) := fun W hW => by
  have r0 := (hW w.heap.size (Nat.le_refl _) (by have := bx.size; omega)).trans bx.op_
  have r1 := (hW (w.heap.size + 1) (by omega) (by have := bx.size; omega)).trans bx.pr
  exact ⟨cell_of_row _ _ 0 _ _ _ r0, cell_of_row _ _ 2 _ _ _ r0, cell_of_row _ _ 3 _ _ _ r0, cell_of_row _ _ 6 _ _ _ r0, cell_of_row _ _ 0 _ _ _ r1, cell_of_row _ _ 1 _ _ _ r1⟩
 have H := hide h
 have HP := hide hp
 have HL := hide hl
 have HLB := hide hlb
 have HX := hide bx
 have OK := hide ok
 have HLI := hide (tG la lc xs W0 (by
  obtain ⟨a', c', e, hh⟩ := hl.below bx.below
  cases e
  exact hh) hn)
 obtain ⟨q0, q2, q3, q6, q10, q11⟩ := aA K W0 (fun _ _ _ => rfl)
 clear h hp hl hlb bx ok
 go_enter Tryz.func58, Tryz.ntmps58
 go_upto_region 1 with fail
 rw [← hW0]
 clear hW0
 go_wp2_with fail
 refine (aA HLI).mono ?_
 rintro e w1 ⟨v, rfl, hL1, hnil, hb1⟩
 have HL1 := hide hL1
 have HB1 := hide hb1
 have hbw1 := hide (aD (aA HX).below hb1)
 obtain ⟨va, vn, vc, rfl⟩ : ∃ x n c, v = .slice x n c := by
  rcases hL1 with ⟨rfl, _⟩ | ⟨g, c, rfl, _⟩
  ·exact ⟨_, _, _, rfl⟩
  ·exact ⟨_, _, _, rfl⟩
 have HNIL := hide hnil
 have HS := hide (sD B p.rb p.sb p.tb p.kb p.t p.LL p.us Bq C (.slice va vn vc) xs w1 ((aA OK).below (aA hbw1)).bank hL1.lies (fun b e => (hL1.blk b e).2.2) hn hC.2)
 clear q0 q2 q3 q6 q10 q11 hL1 hb1 hnil HLI
 obtain ⟨q0, q2, q3, q6, q10, q11⟩ := aA K w1 (fun k _ l => (aA HB1).block k l)
 go_wp2_with fail
 refine (aA HS).mono ?_
 rintro e w2 ⟨rfl, hB2, c2⟩
 clear q0 q2 q3 q6 q10 q11 HS
 have zX := (aA HX).size
 have z1 := (aA HB1).size
 have ltt : ∀ k, iM p.t p.sb k → k < w.heap.size ∧ B ≤ k := fun k e => by
  have ht : p.turns k := by
   rcases e with e | ⟨j, hj, e⟩
   ·exact .inl e
   ·exact .inr ⟨j, hj, .inl e⟩
  exact ⟨(aA OK).lt ht, (aA OK).ge ht⟩
 have hL2 : kO w2 W0.heap.size (.slice va vn vc) xs := (aA HL1).keep fun k e => c2.block k ((aA HL1).blk k e).2.1 (fun d => by have := (ltt k d).1; have := ((aA HL1).blk k e).1; omega)
 have hl2 : cB w2 (.slice la xs.length lc) xs := ((aA HL).below (aA hbw1)).chg0 c2 (fun e0 b e d => by have := (ltt b d).2; have := aA HLB e0 b e; omega)
 have HBI := hide (tW (.slice va vn vc) la lc xs W0.heap.size w2 hL2 hl2 (aA HNIL) hn)
 have HB2 := hide hB2
 have HC2 := hide c2
 have HL2 := hide hL2
 have Hl2 := hide hl2
 have K2 : Hid (∀ k, w.heap.size ≤ k → k < W0.heap.size → w2.heap[k]? = W0.heap[k]?) := fun k l1 l2 => (c2.block k (by omega) (fun d => by have := (ltt k d).1; omega)).trans ((aA HB1).block k l2)
 obtain ⟨q0, q2, q3, q6, q10, q11⟩ := aA K w2 (aA K2)
 have LTT := hide ltt
 clear hB2 c2 hL2 hl2 ltt
 go_wp2_with fail
 refine (aA HBI).mono ?_
 rintro e w3 ⟨rfl, g3⟩
 clear q0 q2 q3 q6 q10 q11 HBI
 have c3 : Chg w2 w3 (fun k => (Value.slice va vn vc).ownBlock = some k) := Chg.of_grown g3
 have hE : ∀ k, (Value.slice va vn vc).ownBlock = some k → w.heap.size ≤ k := fun k e => by have := ((aA HL2).blk k e).1; omega
 have mE : hG w2 (fun k => (Value.slice va vn vc).ownBlock = some k) := fun k e _ => by
  obtain ⟨cs, fr, q⟩ := ((aA HL2).blk k e).2.2
  exact ⟨cs, _, fr, q, by decide⟩
 obtain ⟨hR3, hU3⟩ := (aA OK).half (aA hbw1) (aA HC2) c3 hE mE
 have hl3 : cB w3 (.slice la xs.length lc) xs := (aA Hl2).chg0 c3 (fun e0 b e d => by have := hE b d; have := aA HLB e0 b e; omega)
 have HRS := hide (aC2 p.yb p.s0 p.s1 p.s2 p.s3 p.rv p.y p.LL Bq C (.slice la xs.length lc) xs w3 hR3 hl3 (fun e0 b e j hj q => by
  have := aA HLB e0 b e
  have := (aA OK).ge (k := (p.y.at j).g) (.inr ⟨j, hj, .inr rfl⟩)
  omega) hn hC)
 have HC3 := hide c3
 have HE := hide hE
 have ME := hide mE
 obtain ⟨q0, q2, q3, q6, q10, q11⟩ := aA K w3 (fun k l1 l2 => (c3.block k (by have := (aA HC2).size; omega) (fun d => by have := ((aA HL2).blk k d).1; omega)).trans (aA K2 k l1 l2))
 clear c3 hE mE hR3 hU3 hl3 g3
 go_wp2_with fail
 refine (aA HRS).mono ?_
 rintro e w4 ⟨rfl, hR4, c4⟩
 have same : fP p.t p.y := (aA OK).same
 have fin := (aA H).both (aA HP) (aA hbw1) (aA HB2) (aA HC2) (aA HC3) (aA HE) (aA ME) (Below.refl _ _) hR4 c4 (aCg _ _ _ _) (aCg _ _ _ _) (aAr same _ _ _) (aE2 (aA OK).in_ _ _ _)
 have HF : Hid (dY w w4 B bw ps rb ri) := ⟨_, _, _, _, _, _, fin.1, by simp, by omega, by omega, nS (aA OK) hBw fin.2.1⟩
 rw [← aAs same]
 clear hR4 c4 fin same q0 q2 q3 q6 q10 q11 HRS
 go_wp2
 go_ret
 exact ⟨rfl, aA HF⟩
theorem aS.liesI {w : World} {B : Nat} {v : Value} {xs : List Int} (h : aS w B v xs) : cB w v xs := by
 obtain ⟨a, c, rfl, h1, h2⟩ := bU h
 refine ⟨a, c, rfl, ?_⟩
 cases a with
 | none => exact .inl (List.eq_nil_of_length_eq_zero (h1 rfl))
 | some x0 =>
  obtain ⟨g, rfl, _⟩ := h2 x0 rfl
  exact .inr ⟨g, 0, rfl, (World.ownsRow.lt h g rfl).2, fun i hi => by rw [Nat.zero_add]; exact aS.cells h i hi⟩
theorem BInv.getDone {w w2 w3 w4 : World} {B bw : Nat} {ps : List BP} {vp vb vi v : Value} {rb ri : List Rec} {i : Nat} {p : BP} {xs : List Int} (h : BInv w B bw ps vp vb vi rb ri) (hp : ps[i]? = some p) (hBb : B ≤ bw) (hI : BInv w2 B bw ps vp vb vi rb ri) (hc : Chg w w2 (fun k => p.turns k ∨ w.heap.size ≤ k)) (hU : rN w.heap.size ps vp rb ri) (hb : Below w2.heap.size w2 w3) (hv : aS w3 B v xs) (hN : ∀ k, v.ownBlock = some k → w.heap.size ≤ k) (hy : InB w3 B bw (.slice none 0 0) (.slice none 0 0) vp vb vi rb ri v w4) : dY w w4 B bw ps rb ri := by
 obtain ⟨vi', ri', h4, e4, c4⟩ := (hI.below hb).inted hU hv hN hy
 have hBw : B ≤ w.heap.size := by have := h.bw_lt; omega
 have cA := chg_below (nS (h.ok p (List.mem_of_getElem? hp)) hBw hc) hb
 refine ⟨_, _, _, _, _, _, h4, rfl, by omega, by omega, cA.trans c4 (fun k e _ => ?_)⟩
 rcases e with e | e | e
 ·rw [e]
  exact hBb
 ·exact (World.ownsRow.lt (hI.below hb).book.rowI k e).1
 ·exact (World.ownsRow.lt hv k e).1
theorem aCf {α : Type} (xs : List α) (i : Nat) (x : α) (h : xs[i]? = some x) : xs.set i x = xs := by
 apply List.ext_getElem?
 intro j
 by_cases e : i = j
 ·subst e
  rw [List.getElem?_set_self (List.getElem?_eq_some_iff.1 h).1, h]
 ·rw [List.getElem?_set_ne e]
theorem aEr (A Bq C Dq : Int) (ss : ByteArray) (l n0 n1 n2 n3 n4 ru li : Value) (B bw : Nat) (ps : List BP) (vp vb vi : Value) (rb ri : List Rec) (i : Nat) (p : BP) (w : World) (h : BInv w B bw ps vp vb vi rb ri) (hp : ps[i]? = some p) (hBb : B ≤ bw) (hri : ri.length ≤ 1000000000) (hC : -9223372036854775808 ≤ C ∧ C ≤ 9223372036854775807) :
  Calls Tryz.prog 58 #[.pointer (some ⟨bw, 0, none⟩), .agg #[.int .i64 6, .int .i64 A, .int .i64 Bq, .int .i64 C, .int .i64 Dq, .string ss, l, n0, n1, n2, n3, n4, ru, li], .agg #[.pointer (some ⟨p.rb, 0, none⟩), .pointer (some ⟨p.yb, 0, none⟩)]] w fun e w' => e = .returned (.bool true) ∧ dY w w' B bw ps rb ri := by
 have ok := h.ok p (List.mem_of_getElem? hp)
 have hbw := h.bw_lt
 obtain ⟨W0, hW0⟩ : ∃ W, W = (w.alloc (.cells #[.int .i64 6, .int .i64 A, .int .i64 Bq, .int .i64 C, .int .i64 Dq, .string ss, l, n0, n1, n2, n3, n4, ru, li] 95)).alloc (.cells #[.pointer (some ⟨p.rb, 0, none⟩), .pointer (some ⟨p.yb, 0, none⟩)] 122) := ⟨_, rfl⟩
 have bx := mR w #[.int .i64 6, .int .i64 A, .int .i64 Bq, .int .i64 C, .int .i64 Dq, .string ss, l, n0, n1, n2, n3, n4, ru, li] (.pointer (some ⟨p.rb, 0, none⟩)) (.pointer (some ⟨p.yb, 0, none⟩))
 rw [← hW0] at bx
 have K : Hid (∀ W : World, (∀ k, w.heap.size ≤ k → k < W0.heap.size → W.heap[k]? = W0.heap[k]?) → W.cell? ⟨w.heap.size, 0, none⟩ = some (.int .i64 6) ∧ W.cell? ⟨w.heap.size, 2, none⟩ = some (.int .i64 Bq) ∧ W.cell? ⟨w.heap.size, 3, none⟩ = some (.int .i64 C) ∧ W.cell? ⟨w.heap.size, 4, none⟩ = some (.int .i64 Dq) ∧ W.cell? ⟨w.heap.size + 1, 0, none⟩ = some (.pointer (some ⟨p.rb, 0, none⟩)) ∧ W.cell? ⟨w.heap.size + 1, 1, none⟩ = some (.pointer (some ⟨p.yb, 0, none⟩))) := fun W hW => by
  have r0 := (hW w.heap.size (Nat.le_refl _) (by have := bx.size; omega)).trans bx.op_
  have r1 := (hW (w.heap.size + 1) (by omega) (by have := bx.size; omega)).trans bx.pr
  exact ⟨cell_of_row _ _ 0 _ _ _ r0, cell_of_row _ _ 2 _ _ _ r0, cell_of_row _ _ 3 _ _ _ r0, cell_of_row _ _ 4 _ _ _ r0, cell_of_row _ _ 0 _ _ _ r1, cell_of_row _ _ 1 _ _ _ r1⟩
 have q24 : ∀ (w : World) (a : Option Addr) (n c n' c' : Nat), (binOp .eql 24 (.slice a n c) (.slice none n' c')).run Tryz.prog w = .ok (.bool a.isNone) w := fun w a n c n' c' => Lib.run_eql_slice_nil w _ _ a n c n' c' Tryz.underlying24
 have H := hide h
 have HP := hide hp
 have HX := hide bx
 have OK := hide ok
 have HS := hide (sI B p.rb p.sb p.tb p.kb p.t p.LL p.us Bq C Dq W0 (ok.below bx.below).bank hC.2)
 obtain ⟨q0, q2, q3, q4, q10, q11⟩ := aA K W0 (fun _ _ _ => rfl)
 clear h hp bx ok
 go_enter Tryz.func58, Tryz.ntmps58
 go_upto_region 1 with fail
 rw [← hW0]
 clear hW0
 go_wp2_with fail
 refine (aA HS).mono ?_
 rintro e w1 ⟨v, rfl, ho1, hnz, hB1, c1⟩
 clear q0 q2 q3 q4 q10 q11 HS
 have zX := (aA HX).size
 have c1t : Chg W0 w1 (iM p.t p.sb) := c1.mono fun k _ e => .inl e
 have lsb : p.sb < w.heap.size := (aA OK).lt (.inl rfl)
 obtain ⟨hR1, _⟩ := (aA OK).half (aA HX).below c1t (Chg.refl w1 (fun _ => False)) (fun _ e => e.elim) (fun _ e => e.elim)
 have HRG := hide (aC5 p.yb p.s0 p.s1 p.s2 p.s3 p.rv p.y p.LL Bq C Dq w1 hR1 hC)
 have HO1 := hide ho1
 have HNZ := hide hnz
 have HB1 := hide hB1
 have C1T := hide c1t
 have HR1 := hide hR1
 obtain ⟨va, vn, vc, rfl⟩ := aP ho1
 obtain ⟨q0, q2, q3, q4, q10, q11⟩ := aA K w1 (fun k l1 l2 => c1.block k l2 (by omega))
 clear ho1 hnz hB1 c1 c1t hR1
 go_wp2_with fail
 refine (aA HRG).mono ?_
 rintro e w2 ⟨u, rfl, ho2, hb2⟩
 clear q0 q2 q3 q4 q10 q11 HRG
 have same : fP p.t p.y := (aA OK).same
 have fin := (aA H).both (aA HP) (aA HX).below (aA HB1) (aA C1T) (Chg.refl w1 (fun _ => False)) (fun _ e => e.elim) (fun _ e => e.elim) (Below.refl _ _) ((aA HR1).below hb2) (Chg.of_below hb2 _) (fT.refl _) (fT.refl _) same (aA OK).in_
 have ep : ps.set i { p with t := p.t, y := p.y } = ps := aCf ps i p (aA HP)
 rw [ep] at fin
 have HF := hide fin
 have ho1' : aS w2 W0.heap.size (.slice va vn vc) (getL p.t Bq C Dq) := aJ (aA HO1) fun k _ l _ => hb2.block k l
 have hlen : (getL p.t Bq C Dq).length ≤ 200 := aEh _ _ _ _ fun j hj => ((aA OK).bank.tab j hj).2.1.len
 have HSI := hide (kN (.slice va vn vc) u _ _ w2 ho1'.liesI ho2.liesI (by omega))
 rw [← aBt same, decide_eq_true rfl] at HSI
 obtain ⟨ua, un, uc, rfl⟩ := aP ho2
 have HO2 := hide ho1'
 rw [← rD same]
 clear fin ep ho2 hb2 ho1'
 go_wp2_with fail
 refine (aA HSI).mono ?_
 rintro e w3 ⟨rfl, hb3⟩
 have hI3 := (aA HF).1.below hb3
 have ho3 : aS w3 W0.heap.size (.slice va vn vc) (getL p.t Bq C Dq) := aJ (aA HO2) fun k _ l _ => hb3.block k l
 have hN : ∀ k, (Value.slice va vn vc).ownBlock = some k → w.heap.size ≤ k := fun k e => by have := (World.ownsRow.lt ho3 k e).1; omega
 have hoB : aS w3 B (.slice va vn vc) (getL p.t Bq C Dq) := fH ho3 (by omega)
 have HIN := hide (aFs B bw (.slice none 0 0) (.slice none 0 0) vp vb vi (.slice va vn vc) rb ri _ w3 hI3.book hoB (fun r m k e e' => by have := hN k e'; have := (aA HF).2.2.2.1 r m k e; omega) (by omega) hri (by have := hI3.bw_lt; omega))
 have HOB := hide hoB
 have HN := hide hN
 have HB3 := hide hb3
 clear hI3 ho3 hN hoB hb3 HSI
 go_wp2_with fail
 refine (aA HIN).mono ?_
 rintro e w4 ⟨rfl, hy⟩
 have HE := hide (BInv.getDone (aA H) (aA HP) hBb (aA HF).1 (aA HF).2.1 (aA HF).2.2 (aA HB3) (aA HOB) (aA HN) hy)
 clear hy HIN
 by_cases hr : getR p.t Bq C Dq = 0
 ·rw [hr]
  clear hr
  go_wp2
  go_ret
  exact ⟨rfl, aA HE⟩
 ·have e0 := aA HNZ hr
  simp only [Value.slice.injEq] at e0
  obtain ⟨rfl, rfl, rfl⟩ := e0
  generalize getR p.t Bq C Dq = R at hr ⊢
  have hr' : decide (R = 0) = false := decide_eq_false hr
  go_wp2
  go_ret
  exact ⟨rfl, aA HE⟩
theorem jH.row5 {w : World} {S : Nat} {v : Value} {s : ByteArray} (h : jH w S v s) : ∀ k, v.ownBlock = some k → S ≤ k ∧ k < w.heap.size ∧ ∃ cs fr, w.heap[k]? = some (.cells cs 5 fr) := fun k e => by
 have hb := h.blk k e
 rcases h with ⟨rfl, _⟩ | ⟨g, c, rfl, h⟩
 ·simp [Value.ownBlock] at e
 ·have : g = k := by simpa [Value.ownBlock] using e
  subst this
  obtain ⟨cur, hh, _⟩ := h.row
  exact ⟨hb.1, hb.2, cur, _, hh⟩
theorem jH.keepC {w w' : World} {S : Nat} {v : Value} {s : ByteArray} {D : Nat → Prop} (h : jH w S v s) (c : Chg w w' D) (hD : ∀ k, D k → k < S) : jH w' S v s := by
 rcases h with h | ⟨g, cc, rfl, h⟩
 ·exact .inl h
 ·exact .inr ⟨g, cc, rfl, ⟨aJ h.own fun k hk p q => c.block k p (fun d => by have := hD k d; omega)⟩⟩
theorem BInv.ansDone {w w2 w3 w4 : World} {B bw : Nat} {ps ps' : List BP} {vp vb vi v : Value} {rb ri : List Rec} {i : Nat} {p : BP} {xs : List Int} (h : BInv w B bw ps vp vb vi rb ri) (hp : ps[i]? = some p) (hBb : B ≤ bw) (hl : ps'.length = ps.length) (hI : BInv w2 B bw ps' vp vb vi rb ri) (hc : Chg w w2 (fun k => p.turns k ∨ w.heap.size ≤ k)) (hU : rN w.heap.size ps' vp rb ri) (hb : Below w2.heap.size w2 w3) (hv : Owns w3 B v xs) (hN : ∀ k, v.ownBlock = some k → w.heap.size ≤ k) (hy : BytedI w3 B bw (.slice none 0 0) (.slice none 0 0) vp vb vi rb ri v w4) : dY w w4 B bw ps rb ri := by
 obtain ⟨vb', rb', h4, e4, c4⟩ := (hI.below hb).byted hU hv hN hy
 have hBw : B ≤ w.heap.size := by have := h.bw_lt; omega
 have cA := chg_below (nS (h.ok p (List.mem_of_getElem? hp)) hBw hc) hb
 refine ⟨_, _, _, _, _, _, h4, hl, by omega, by omega, cA.trans c4 (fun k e _ => ?_)⟩
 rcases e with e | e | e
 ·rw [e]
  exact hBb
 ·exact (World.ownsRow.lt (hI.below hb).book.rowB k e).1
 ·exact (World.ownsRow.lt hv k e).1
theorem wJ (A Bq C Dq : Int) (s : ByteArray) (l n0 n1 n2 n3 n4 ru li : Value) (B bw : Nat) (ps : List BP) (vp vb vi : Value) (rb ri : List Rec) (i : Nat) (p : BP) (w : World) (h : BInv w B bw ps vp vb vi rb ri) (hp : ps[i]? = some p) (hBb : B ≤ bw) (hrb : rb.length ≤ 1000000000) (hs : s.size ≤ 1000000000) (_hC : -9223372036854775808 ≤ C ∧ C ≤ 9223372036854775807) :
  Calls Tryz.prog 58 #[.pointer (some ⟨bw, 0, none⟩), .agg #[.int .i64 7, .int .i64 A, .int .i64 Bq, .int .i64 C, .int .i64 Dq, .string s, l, n0, n1, n2, n3, n4, ru, li], .agg #[.pointer (some ⟨p.rb, 0, none⟩), .pointer (some ⟨p.yb, 0, none⟩)]] w fun e w' => e = .returned (.bool true) ∧ dY w w' B bw ps rb ri := by
 have ok := h.ok p (List.mem_of_getElem? hp)
 have hbw := h.bw_lt
 obtain ⟨W0, hW0⟩ : ∃ W, W = (w.alloc (.cells #[.int .i64 7, .int .i64 A, .int .i64 Bq, .int .i64 C, .int .i64 Dq, .string s, l, n0, n1, n2, n3, n4, ru, li] 95)).alloc (.cells #[.pointer (some ⟨p.rb, 0, none⟩), .pointer (some ⟨p.yb, 0, none⟩)] 122) := ⟨_, rfl⟩
 have bx := mR w #[.int .i64 7, .int .i64 A, .int .i64 Bq, .int .i64 C, .int .i64 Dq, .string s, l, n0, n1, n2, n3, n4, ru, li] (.pointer (some ⟨p.rb, 0, none⟩)) (.pointer (some ⟨p.yb, 0, none⟩))
 rw [← hW0] at bx
 have K : Hid (∀ W : World, (∀ k, w.heap.size ≤ k → k < W0.heap.size → W.heap[k]? = W0.heap[k]?) → W.cell? ⟨w.heap.size, 0, none⟩ = some (.int .i64 7) ∧ W.cell? ⟨w.heap.size, 2, none⟩ = some (.int .i64 Bq) ∧ W.cell? ⟨w.heap.size, 3, none⟩ = some (.int .i64 C) ∧ W.cell? ⟨w.heap.size, 5, none⟩ = some (.string s) ∧ W.cell? ⟨w.heap.size + 1, 0, none⟩ = some (.pointer (some ⟨p.rb, 0, none⟩)) ∧ W.cell? ⟨w.heap.size + 1, 1, none⟩ = some (.pointer (some ⟨p.yb, 0, none⟩))) := fun W hW => by
  have r0 := (hW w.heap.size (Nat.le_refl _) (by have := bx.size; omega)).trans bx.op_
  have r1 := (hW (w.heap.size + 1) (by omega) (by have := bx.size; omega)).trans bx.pr
  exact ⟨cell_of_row _ _ 0 _ _ _ r0, cell_of_row _ _ 2 _ _ _ r0, cell_of_row _ _ 3 _ _ _ r0, cell_of_row _ _ 5 _ _ _ r0, cell_of_row _ _ 0 _ _ _ r1, cell_of_row _ _ 1 _ _ _ r1⟩
 have q29 : ∀ (w : World) (a : Option Addr) (n c n' c' : Nat), (binOp .eql 37 (.slice a n c) (.slice none n' c')).run Tryz.prog w = .ok (.bool a.isNone) w := fun w a n c n' c' => Lib.run_eql_slice_nil w _ _ a n c n' c' Tryz.underlying37
 have H := hide h
 have HP := hide hp
 have HX := hide bx
 have OK := hide ok
 have HBY := hide (aGu s)
 obtain ⟨q0, q2, q3, q5, q10, q11⟩ := aA K W0 (fun _ _ _ => rfl)
 clear h hp bx ok
 go_enter Tryz.func58, Tryz.ntmps58
 go_upto_region 1 with fail
 rw [← hW0]
 clear hW0
 go_wp2_with fail
 refine (aEb s _ W0 hs).mono ?_
 rintro e w1 ⟨v, rfl, hL, hb1⟩
 have HL := hide hL
 have HB1 := hide hb1
 have hbw1 := hide (aD (aA HX).below hb1)
 obtain ⟨va, vc, rfl⟩ := gV hL.lies
 have ok1 := (aA OK).below (aA hbw1)
 have HS := hide (zJ B p.rb p.sb p.tb p.kb p.t p.LL p.us Bq (.slice va (sb s).length vc) (sb s) w1 ok1.bank ok1.cl ok1.rl ok1.in_ ((aA H).err.below (aA hbw1)) (aA H).pos (aA HBY) hL.lies (fun b e => (hL.row5 b e).2.2))
 clear q0 q2 q3 q5 q10 q11 hL hb1 ok1
 obtain ⟨q0, q2, q3, q5, q10, q11⟩ := aA K w1 (fun k _ l => (aA HB1).block k l)
 go_wp2_with fail
 refine (aA HS).mono ?_
 rintro e w2 ⟨u, rfl, ho2, hnz, hB2, c2⟩
 clear q0 q2 q3 q5 q10 q11 HS
 have zX := (aA HX).size
 have z1 := (aA HB1).size
 have ltt : ∀ k, iM p.t p.sb k → k < w.heap.size := fun k e => by
  have ht : p.turns k := by
   rcases e with e | ⟨j, hj, e⟩
   ·exact .inl e
   ·exact .inr ⟨j, hj, .inl e⟩
  exact (aA OK).lt ht
 have hL2 : jH w2 W0.heap.size (.slice va (sb s).length vc) s := (aA HL).keepC c2 (fun k d => by have := ltt k d; omega)
 have HBI := hide (aEt s _ _ w2 hs hL2)
 have HB2 := hide hB2
 have HC2 := hide c2
 have HL2 := hide hL2
 have HO2 := hide ho2
 have HNZ := hide hnz
 have K2 : Hid (∀ k, w.heap.size ≤ k → k < W0.heap.size → w2.heap[k]? = W0.heap[k]?) := fun k l1 l2 => (c2.block k (by omega) (fun d => by have := ltt k d; omega)).trans ((aA HB1).block k l2)
 obtain ⟨q0, q2, q3, q5, q10, q11⟩ := aA K w2 (aA K2)
 obtain ⟨ua, un, uc, rfl⟩ := aP ho2
 clear hB2 c2 hL2 ltt ho2 hnz
 go_wp2_with fail
 refine (aA HBI).mono ?_
 rintro e w3 ⟨rfl, g3⟩
 clear q0 q2 q3 q5 q10 q11 HBI
 have c3 : Chg w2 w3 (fun k => (Value.slice va (sb s).length vc).ownBlock = some k) := Chg.of_grown g3
 have hE : ∀ k, (Value.slice va (sb s).length vc).ownBlock = some k → w.heap.size ≤ k := fun k e => by have := ((aA HL2).row5 k e).1; omega
 have mE : hG w2 (fun k => (Value.slice va (sb s).length vc).ownBlock = some k) := fun k e _ => by
  obtain ⟨cs, fr, q⟩ := ((aA HL2).row5 k e).2.2
  exact ⟨cs, _, fr, q, by decide⟩
 obtain ⟨hR3, hU3⟩ := (aA OK).half (aA hbw1) (aA HC2) c3 hE mE
 obtain ⟨w3', cc, hcv, hb3, hl3⟩ := yO w3 s
 have same : fP p.t p.y := (aA OK).same
 have HRS := hide (vC p.yb p.s0 p.s1 p.s2 p.s3 p.rv p.y p.LL Bq _ (sb s) w3' (hR3.below hb3) (aA OK).rl (fun j hj x hx => (aA OK).in_ j hj x (by rw [same j hj]; exact hx)) (aA HBY) hl3)
 have ho3 : Owns w3 w1.heap.size (.slice ua un uc) (ansO p.t p.LL Bq (sb s)) := aJ (aA HO2) fun k hk l _ => c3.block k l (fun d => by have := ((aA HL).row5 k d).2.1; omega)
 have HO3 := hide ho3
 have HC3 := hide c3
 have HE := hide hE
 have ME := hide mE
 have HB3 := hide hb3
 obtain ⟨q0, q2, q3, q5, q10, q11⟩ := aA K w3 (fun k l1 l2 => (c3.block k (by have := (aA HC2).size; omega) (fun d => by have := ((aA HL2).row5 k d).1; omega)).trans (aA K2 k l1 l2))
 clear c3 hE mE hR3 hU3 hl3 g3 hb3 ho3
 go_wp2_with fail
 refine (aA HRS).mono ?_
 rintro e w4 ⟨u2, rfl, ho4, hR4, c4⟩
 have fin := (aA H).both (aA HP) (aA hbw1) (aA HB2) (aA HC2) (aA HC3) (aA HE) (aA ME) (aA HB3) hR4 c4 (aEv _ _ _ _) (aEv _ _ _ _) (aB6 same _ _ _ (aA HBY)) (aGi (aA OK).in_ _ _ _ (aA HBY))
 have HF := hide fin
 have z2 := (aA HC2).size
 have z3 := (aA HC3).size
 have z3' := (aA HB3).size
 have hy4 : ∀ k, (∃ j, j < 4 ∧ k = (p.y.at j).g) → k < w.heap.size := fun k e => by
  obtain ⟨j, hj, e⟩ := e
  exact (aA OK).lt (.inr ⟨j, hj, .inr e⟩)
 have ho1 : Owns w4 w1.heap.size (.slice ua un uc) (ansO p.t p.LL Bq (sb s)) := aJ (aA HO3) fun k hk l _ => (c4.block k (by omega) (fun d => by have := hy4 k d; have := (aA hbw1).size; omega)).trans ((aA HB3).block k l)
 rw [← aB7 same _ _ _ (aA HBY)] at ho4
 have hlen := aEw p.t p.LL Bq (sb s) (aA HBY)
 have h1 := mO (Owns.lies ho1)
 have h2 := mO (Owns.lies ho4)
 have HLen := hide hlen
 have HO1 := hide ho1
 obtain ⟨ua2, un2, uc2, rfl⟩ := aP ho4
 generalize ansO p.t p.LL Bq (sb s) = XS at h1 h2 HLen HO1
 generalize strOfNums XS = str at h1 h2
 have hN : ∀ k, (Value.slice ua un uc).ownBlock = some k → w.heap.size ≤ k := fun k e => by have := (World.ownsRow.lt (aA HO1) k e).1; have := (aA hbw1).size; omega
 have HN := hide hN
 have hoB : Owns w4 B (.slice ua un uc) XS := fH (aA HO1) (by have := (aA hbw1).size; omega)
 have HOB := hide hoB
 have HBA := hide (aB4 B bw (.slice none 0 0) (.slice none 0 0) vp vb vi (.slice ua un uc) rb ri _ w4 fin.1.book hoB (fun r m k e e' => by have := hN k e'; have := fin.2.2.2.1 r m k e; omega) (by have := aA HLen; omega) hrb (by have := fin.1.bw_lt; omega))
 clear fin q0 q2 q3 q5 q10 q11 ho1 ho4 hlen hN hoB hR4 c4 HRS hcv hy4 HO3 z2 z3 z3'
 go_wp2_with fail
 refine (aA HBA).mono ?_
 rintro e w5 ⟨rfl, hy⟩
 have HEND := hide (BInv.ansDone (aA H) (aA HP) hBb (by simp) (aA HF).1 (aA HF).2.1 (aA HF).2.2 (Below.refl _ _) (aA HOB) (aA HN) hy)
 clear hy HBA h1 h2
 by_cases hr : ansE p.LL.length Bq (sb s) = 0
 ·rw [hr]
  clear hr
  go_wp2
  go_ret
  exact ⟨rfl, aA HEND⟩
 ·have e0 := aA HNZ hr
  simp only [Value.slice.injEq] at e0
  obtain ⟨rfl, rfl, rfl⟩ := e0
  generalize ansE p.LL.length Bq (sb s) = R at hr ⊢
  have hr' : decide (R = 0) = false := decide_eq_false hr
  go_wp2
  go_ret
  exact ⟨rfl, aA HEND⟩
theorem dY.from {w W w' : World} {B bw : Nat} {ps : List BP} {rb ri : List Rec} (hb : Below w.heap.size w W) (h : dY W w' B bw ps rb ri) : dY w w' B bw ps rb ri := by
 obtain ⟨ps', vp, vb, vi, rb', ri', h1, h2, h3, h4, h5⟩ := h
 exact ⟨ps', vp, vb, vi, rb', ri', h1, h2, h3, h4, (Chg.of_below hb _).trans h5 (fun _ e _ => e)⟩
theorem aFl {w : World} {B g cap : Nat} {ps : List BP} {i : Nat} {p : BP} (h : w.ownsRow B 122 2 (.slice (some ⟨g, 0, none⟩) ps.length cap) ps.length (ps.flatMap BP.cells)) (hp : ps[i]? = some p) : w.cell? ⟨g, i * 2, none⟩ = some (.pointer (some ⟨p.rb, 0, none⟩)) ∧ w.cell? ⟨g, i * 2 + 1, none⟩ = some (.pointer (some ⟨p.yb, 0, none⟩)) := by
 have hil := (List.getElem?_eq_some_iff.1 hp).1
 have key : ∀ (l : List BP) (i : Nat), l[i]? = some p → (l.flatMap BP.cells)[i * 2]? = some (.pointer (some ⟨p.rb, 0, none⟩)) ∧ (l.flatMap BP.cells)[i * 2 + 1]? = some (.pointer (some ⟨p.yb, 0, none⟩)) := by
  intro l
  induction l with
  | nil => intro i h; simp at h
  | cons q l ih =>
   intro i h
   cases i with
   | zero =>
    simp at h
    subst h
    exact ⟨rfl, rfl⟩
   | succ i =>
    have := ih i (by simpa using h)
    rw [List.flatMap_cons, show (i + 1) * 2 = i * 2 + 1 + 1 by omega]
    exact this
 rw [World.ownsRow.cellAt h (i * 2) (by omega), World.ownsRow.cellAt h (i * 2 + 1) (by omega)]
 exact key ps i hp
theorem aFe (c : Int) (n : Nat) (hn : 0 < n) (_h : -9223372036854775808 ≤ c ∧ c ≤ 9223372036854775807) : 0 ≤ kM c n ∧ kM c n < (n : Int) := by
 exact aDm c n (by omega)
theorem lY (A Bq C Dq kd : Int) (s : ByteArray) (l n0 n1 n2 n3 n4 ru li : Value) (B bw : Nat) (ps : List BP) (vp vb vi : Value) (rb ri : List Rec) (w : World) (h : BInv w B bw ps vp vb vi rb ri) (hk : kd = 5 ∨ kd = 6 ∨ kd = 7) (hps : ps.length ≤ 1000000000) (hA : -9223372036854775808 ≤ A ∧ A ≤ 9223372036854775807)
  (HBK : ∀ W (i : Nat) p, ps[i]? = some p → Below w.heap.size w W → Calls Tryz.prog 58 #[.pointer (some ⟨bw, 0, none⟩), .agg #[.int .i64 kd, .int .i64 A, .int .i64 Bq, .int .i64 C, .int .i64 Dq, .string s, l, n0, n1, n2, n3, n4, ru, li], .agg #[.pointer (some ⟨p.rb, 0, none⟩), .pointer (some ⟨p.yb, 0, none⟩)]] W fun e w' => e = .returned (.bool true) ∧ dY W w' B bw ps rb ri) :
  Calls Tryz.prog 39 #[.pointer (some ⟨bw, 0, none⟩), .agg #[.int .i64 kd, .int .i64 A, .int .i64 Bq, .int .i64 C, .int .i64 Dq, .string s, l, n0, n1, n2, n3, n4, ru, li]] w fun e w' => e = .returned (.bool true) ∧ dY w w' B bw ps rb ri := by
 obtain ⟨op, cp, rfl, hop1, hop2⟩ := bU h.rowP
 obtain ⟨W0, hW0⟩ : ∃ W, W = w.alloc (.cells #[.int .i64 kd, .int .i64 A, .int .i64 Bq, .int .i64 C, .int .i64 Dq, .string s, l, n0, n1, n2, n3, n4, ru, li] 95) := ⟨_, rfl⟩
 have hb0 : Below w.heap.size w W0 := by rw [hW0]; exact bL (Below.refl _ _) _
 have rO : W0.heap[w.heap.size]? = some (.cells #[.int .i64 kd, .int .i64 A, .int .i64 Bq, .int .i64 C, .int .i64 Dq, .string s, l, n0, n1, n2, n3, n4, ru, li] 95 (0, 0)) := by rw [hW0]; exact heap_alloc_new w _
 have hI0 := h.below hb0
 have q2 := cell_of_row _ _ 2 _ _ _ hI0.book.row
 simp [gP] at q2
 have k0 := cell_of_row _ _ 0 _ _ _ rO
 simp at k0
 have H := hide h
 have HB0 := hide hb0
 by_cases hx : ps.length = 0
 ·have HX := hide hx
  rw [hx] at q2
  have hE : dY w W0 B bw ps rb ri := ⟨_, _, _, _, _, _, hI0, rfl, by omega, by omega, Chg.of_below hb0 _⟩
  have HE := hide hE
  clear h hop1 hop2 hx hI0 HBK rO hE
  rcases hk with rfl | rfl | rfl
  ·go_enter Tryz.func39, Tryz.ntmps39
   go_upto_region 1 with fail
   rw [← hW0]
   clear hW0
   go_wp2
   go_ret
   exact ⟨rfl, aA HE⟩
  ·go_enter Tryz.func39, Tryz.ntmps39
   go_upto_region 1 with fail
   rw [← hW0]
   clear hW0
   go_wp2
   go_ret
   exact ⟨rfl, aA HE⟩
  ·go_enter Tryz.func39, Tryz.ntmps39
   go_upto_region 1 with fail
   rw [← hW0]
   clear hW0
   go_wp2
   go_ret
   exact ⟨rfl, aA HE⟩
 ·obtain ⟨x0, rfl⟩ : ∃ x, op = some x := by
   cases op with
   | none => exact absurd (hop1 rfl) hx
   | some x => exact ⟨x, rfl⟩
  obtain ⟨g, rfl, _⟩ := hop2 x0 rfl
  have hx' : (0 : Int) < (ps.length : Int) := by omega
  have hpk := aFe A ps.length (by omega) hA
  obtain ⟨i, hi⟩ : ∃ i : Nat, kM A ps.length = (i : Int) := ⟨(kM A ps.length).toNat, by omega⟩
  have hil : i < ps.length := by omega
  have hp := List.getElem?_eq_getElem hil
  generalize ps[i] = p at hp
  have hpa := aFl hI0.rowP hp
  have HPK := hide (aBp A ps.length)
  rw [hi] at HPK
  have HBW := hide fun W => HBK W i p hp
  have hi' : (i : Int) < (ps.length : Int) := by omega
  have r1 := cell_of_row _ _ 1 _ _ _ rO
  simp at r1
  have hbwl := hI0.bw_lt
  obtain ⟨hpa1, hpa2⟩ := hpa
  have c0 := cell_of_row _ _ 0 _ _ _ rO
  have c2 := cell_of_row _ _ 2 _ _ _ rO
  have c3 := cell_of_row _ _ 3 _ _ _ rO
  have c4 := cell_of_row _ _ 4 _ _ _ rO
  have c5 := cell_of_row _ _ 5 _ _ _ rO
  have c6 := cell_of_row _ _ 6 _ _ _ rO
  have c7 := cell_of_row _ _ 7 _ _ _ rO
  have c8 := cell_of_row _ _ 8 _ _ _ rO
  have c9 := cell_of_row _ _ 9 _ _ _ rO
  have c10 := cell_of_row _ _ 10 _ _ _ rO
  have c11 := cell_of_row _ _ 11 _ _ _ rO
  have c12 := cell_of_row _ _ 12 _ _ _ rO
  have c13 := cell_of_row _ _ 13 _ _ _ rO
  simp at c0 c2 c3 c4 c5 c6 c7 c8 c9 c10 c11 c12 c13
  clear h hop1 hop2 hx hI0 HBK rO
  rcases hk with rfl | rfl | rfl
  ·go_enter Tryz.func39, Tryz.ntmps39
   go_upto_region 1 with fail
   rw [← hW0]
   clear hW0
   go_wp2_with fail
   rename_i hK
   exact iN _ _ _ bw w.heap.size g cp ps.length i A _ _ _ _ _ _ _ _ _ _ _ _ _ _ _ (by simp) rfl rfl q2 hil c0 r1 c2 c3 c4 c5 c6 c7 c8 c9 c10 c11 c12 c13 hpa1 hpa2 (fun W => aA HPK W (by omega) (by omega) hA.1 hA.2) _ (aA HBW _ (aA HB0).drew) rfl _ _ _ hK (fun W hpost => ⟨rfl, hpost.from (aA HB0).drew⟩)
  ·go_enter Tryz.func39, Tryz.ntmps39
   go_upto_region 1 with fail
   rw [← hW0]
   clear hW0
   go_wp2_with fail
   rename_i hK
   exact iN _ _ _ bw w.heap.size g cp ps.length i A _ _ _ _ _ _ _ _ _ _ _ _ _ _ _ (by simp) rfl rfl q2 hil c0 r1 c2 c3 c4 c5 c6 c7 c8 c9 c10 c11 c12 c13 hpa1 hpa2 (fun W => aA HPK W (by omega) (by omega) hA.1 hA.2) _ (aA HBW _ (aA HB0).drew) rfl _ _ _ hK (fun W hpost => ⟨rfl, hpost.from (aA HB0).drew⟩)
  ·go_enter Tryz.func39, Tryz.ntmps39
   go_upto_region 1 with fail
   rw [← hW0]
   clear hW0
   go_wp2_with fail
   rename_i hK
   exact iN _ _ _ bw w.heap.size g cp ps.length i A _ _ _ _ _ _ _ _ _ _ _ _ _ _ _ (by simp) rfl rfl q2 hil c0 r1 c2 c3 c4 c5 c6 c7 c8 c9 c10 c11 c12 c13 hpa1 hpa2 (fun W => aA HPK W (by omega) (by omega) hA.1 hA.2) _ (aA HBW _ (aA HB0).drew) rfl _ _ _ hK (fun W hpost => ⟨rfl, hpost.from (aA HB0).drew⟩)
theorem uJ (A Bq C Dq : Int) (s : ByteArray) (l li : Value) (z0 z1 z2 z3 lim : Int) (a : Option Addr) (c : Nat) (LL : List (List Rule)) (B bw : Nat) (ps : List BP) (vp vb vi : Value) (rb ri : List Rec) (w : World) (h : BInv w B bw ps vp vb vi rb ri) (hB : B ≤ bw) (hl : bZ w (.slice a LL.length c) LL) (ha : a = none → c = 0) (hn : LL.length ≤ 100000000) (hr : ∀ rs ∈ LL, rs.length ≤ 100000000) (hps : ps.length ≤ 1000000000) :
  Calls Tryz.prog 39 #[.pointer (some ⟨bw, 0, none⟩), .agg #[.int .i64 4, .int .i64 A, .int .i64 Bq, .int .i64 C, .int .i64 Dq, .string s, l, .int .i64 z0, .int .i64 z1, .int .i64 z2, .int .i64 z3, .int .i64 lim, .slice a LL.length c, li]] w fun e w' => e = .returned (.bool true) ∧ iY w w' B bw ps vb vi rb ri := by
 obtain ⟨W0, hW0⟩ : ∃ W, W = w.alloc (.cells #[.int .i64 4, .int .i64 A, .int .i64 Bq, .int .i64 C, .int .i64 Dq, .string s, l, .int .i64 z0, .int .i64 z1, .int .i64 z2, .int .i64 z3, .int .i64 lim, .slice a LL.length c, li] 95) := ⟨_, rfl⟩
 have hb0 : Below w.heap.size w W0 := by rw [hW0]; exact bL (Below.refl _ _) _
 have rO : W0.heap[w.heap.size]? = some (.cells #[.int .i64 4, .int .i64 A, .int .i64 Bq, .int .i64 C, .int .i64 Dq, .string s, l, .int .i64 z0, .int .i64 z1, .int .i64 z2, .int .i64 z3, .int .i64 lim, .slice a LL.length c, li] 95 (0, 0)) := by rw [hW0]; exact heap_alloc_new w _
 have HM := hide (aD8 A Bq C Dq 4 s l li z0 z1 z2 z3 lim a c LL B bw ps vp vb vi rb ri W0 (h.below hb0) hB (hl.below hb0) ha hn hr hps)
 have HB0 := hide hb0
 have c0 := cell_of_row _ _ 0 _ _ _ rO
 have c1 := cell_of_row _ _ 1 _ _ _ rO
 have c2 := cell_of_row _ _ 2 _ _ _ rO
 have c3 := cell_of_row _ _ 3 _ _ _ rO
 have c4 := cell_of_row _ _ 4 _ _ _ rO
 have c5 := cell_of_row _ _ 5 _ _ _ rO
 have c6 := cell_of_row _ _ 6 _ _ _ rO
 have c7 := cell_of_row _ _ 7 _ _ _ rO
 have c8 := cell_of_row _ _ 8 _ _ _ rO
 have c9 := cell_of_row _ _ 9 _ _ _ rO
 have c10 := cell_of_row _ _ 10 _ _ _ rO
 have c11 := cell_of_row _ _ 11 _ _ _ rO
 have c12 := cell_of_row _ _ 12 _ _ _ rO
 have c13 := cell_of_row _ _ 13 _ _ _ rO
 simp at c0 c1 c2 c3 c4 c5 c6 c7 c8 c9 c10 c11 c12 c13
 clear h hl hr rO
 go_enter Tryz.func39, Tryz.ntmps39
 go_upto_region 1 with fail
 rw [← hW0]
 clear hW0 hb0
 go_wp2_with fail
 refine (aA HM).mono ?_
 rintro e w1 ⟨rfl, hp⟩
 have HE : Hid (iY w w1 B bw ps vb vi rb ri) := by
  obtain ⟨ps', vp', h1, h2, h3⟩ := hp
  exact ⟨ps', vp', h1, h2, (Chg.of_below (aA HB0) _).trans h3 (fun _ e _ => e)⟩
 clear hp HM c0 c1 c2 c3 c4 c5 c6 c7 c8 c9 c10 c11 c12 c13
 go_wp2
 go_ret
 exact ⟨rfl, aA HE⟩
end Go.Proofs.YtfekelmldebplaaGreatDoor
