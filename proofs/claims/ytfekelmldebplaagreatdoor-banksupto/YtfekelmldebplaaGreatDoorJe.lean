import Derived.BigRegion
import Derived.Test.YtfekelmldebplaaGreatDoorQp
import Derived.Test.YtfekelmldebplaaGreatDoorPs
import Derived.Test.YtfekelmldebplaaGreatDoorJo
import Derived.Test.YtfekelmldebplaaGreatDoorSs
import Derived.Test.YtfekelmldebplaaGreatDoorLl
import Derived.Test.YtfekelmldebplaaGreatDoorXe
set_option maxRecDepth 100000
set_option maxHeartbeats 8000000
namespace Go.Proofs.YtfekelmldebplaaGreatDoor
open Go.RowKit
theorem aDs {w : World} {B : Nat} {v : Value} {xs : List Int} (h : aS w B v xs) : ∀ b, v.ownBlock = some b → B ≤ b := fun b e => by
 rcases h.2 with ⟨rfl, _⟩ | ⟨g, cap, cur, rfl, hg, _⟩
 ·cases e
 ·have : g = b := Option.some.inj e
  omega
theorem mV {w W : World} {yb ab g b o c1 : Nat} {va : Option Addr} {vn vc : Nat} {f : Int} {bs : List Int} {q : Req} (hM : RMid w W yb ab g b o c1 va vn vc f bs q) {s0 s1 s2 s3 rv : Value} {y : T4} {LL : List (List Rule)} (h : RefAt w yb s0 s1 s2 s3 rv y LL) (i A k : Nat) (xs : List Int) (hi : i < 4) (hk : k < (aM q).length) (hx : (aM q)[k]? = some ⟨(i : Int), (A : Int), (xs.length : Int), true⟩) (hxs : lC q = xs) (hf : (f == 22) = false) (h1 : xs ≠ []) (L R : List Int) (hL : L.length = (y.at i).L.length) (hAN : A + xs.length ≤ L.length) (a : Act) (W' : World)
  (hI : LI W w.heap.size yb ab (y.at i).g (.slice (some ⟨b, o, none⟩) (bs.length + 1) c1) (k : Int) L R a W') (Z : Exit → Act → World → Prop)
  (hZ : ∀ a' W2, LI W w.heap.size yb ab (y.at i).g (.slice (some ⟨b, o, none⟩) (bs.length + 1) c1) (k : Int) (setL L A xs) R a' W2 → Z .normal a' W2) : (Code.block 1 (inC (fstC (sndC (lpC (inC (sndC (fstC (sndC (cJ 6 (cD Tryz.f94))))))))))).wp Tryz.prog Z a W' := by
 obtain ⟨v10, fA, hc, hr, ho⟩ := hI
 have hgl := (Array.getElem?_eq_some_iff.1 (h.ent i hi)).1
 have hyl := (Array.getElem?_eq_some_iff.1 h.row).1
 have hz := hM.below.size
 have hz2 := hc.size
 have hbl := hM.hb
 have ny : yb ≠ (y.at i).g := bG h.row (h.ent i hi) (by decide)
 have nb : b ≠ (y.at i).g := kD (hM.bytes 0 (by simp)) (h.ent i hi)
 obtain ⟨a0, a1, a2, a3, hab, na⟩ := hM.a0 (y.at i).g hgl W' hc
 have c1_ : W'.cell? ⟨yb, 6 + i, none⟩ = some (.slice (some ⟨(y.at i).g, 0, none⟩) L.length L.length) := by
  rw [World.cell?_of_block (hc.block yb (by omega) ny), hM.below.cell (by exact hyl), h.tab i hi, dV, hL]
 have c0 : W'.cell? ⟨b, o + 0, none⟩ = some (.int .u8 f) := by
  rw [World.cell?_of_block (hc.block b (by omega) nb), hM.below.cell (by exact hbl)]
  exact hM.bytes 0 (by simp)
 have hv := hM.vals
 rw [hxs] at hv
 obtain ⟨vb, cap, e1, hvb, hvl⟩ := Owns.shapeI hv h1
 rw [e1] at a1
 have nv : vb ≠ (y.at i).g := by omega
 have hcells := aS.cells (by rw [e1] at hv; exact hv)
 refine xC a Z W' yb ab g _ _ k (y.at i).g vb 0 cap b o (bs.length + 1) c1 L.length A xs.length i v10 f L xs fA a0 hk (hM.tch (y.at i).g k _ hx hgl W' hc) hf (by omega) hi (by rw [hL]; exact h.len i hi) rfl rfl hAN (by omega) hab (by omega) (fun _ => by omega) ny na nb nv c1_ hr c0 a1 (fun j hj => ?_) (fun a' W2 f' hc2 hr2 => hZ a' W2 ⟨v10, f', hc.trans hc2 (fun _ e _ => e), hr2, aS.keep ho hc2 (fun b' e => by intro e2; have e3 : b' = (y.at i).g := e2; have := aDs ho b' e; omega)⟩)
 rw [World.cell?_of_block (hc.block vb hvl nv), Nat.zero_add]
 exact hcells j hj
theorem uE {w W : World} {yb ab g b o c1 : Nat} {va : Option Addr} {vn vc : Nat} {f : Int} {bs : List Int} {q : Req} (hM : RMid w W yb ab g b o c1 va vn vc f bs q) {s0 s1 s2 s3 rv : Value} {y : T4} {LL : List (List Rule)} (h : RefAt w yb s0 s1 s2 s3 rv y LL) (i A k n0 qx qy : Nat) (hi : i < 4) (hk : k < (aM q).length) (hx : (aM q)[k]? = some ⟨(i : Int), (A : Int), ((1 : Nat) : Int), true⟩) (hqx : xQ q = (qx : Int)) (hqy : yQ q = (qy : Int)) (hn0 : n0 < 65536) (hqx2 : qx < 65536) (hqy2 : qy < 65536) (hf : f = 22) (L R : List Int) (hL : L.length = (y.at i).L.length) (hAN : A < L.length) (hg0 : L.getD A 0 = (n0 : Int)) (a : Act) (W' : World)
  (hI : LI W w.heap.size yb ab (y.at i).g (.slice (some ⟨b, o, none⟩) (bs.length + 1) c1) (k : Int) L R a W') (Z : Exit → Act → World → Prop)
  (hZ : ∀ a' W2, LI W w.heap.size yb ab (y.at i).g (.slice (some ⟨b, o, none⟩) (bs.length + 1) c1) (k : Int) (L.set A (eG qx n0 qy : Nat)) R a' W2 → Z .normal a' W2) : (Code.block 1 (inC (fstC (sndC (lpC (inC (sndC (fstC (sndC (cJ 6 (cD Tryz.f94))))))))))).wp Tryz.prog Z a W' := by
 obtain ⟨v10, fA, hc, hr, ho⟩ := hI
 have hgl := (Array.getElem?_eq_some_iff.1 (h.ent i hi)).1
 have hyl := (Array.getElem?_eq_some_iff.1 h.row).1
 have hz := hM.below.size
 have hz2 := hc.size
 have hbl := hM.hb
 have ny : yb ≠ (y.at i).g := bG h.row (h.ent i hi) (by decide)
 have nb : b ≠ (y.at i).g := kD (hM.bytes 0 (by simp)) (h.ent i hi)
 obtain ⟨a0, a1, a2, a3, hab, na⟩ := hM.a0 (y.at i).g hgl W' hc
 have c1_ : W'.cell? ⟨yb, 6 + i, none⟩ = some (.slice (some ⟨(y.at i).g, 0, none⟩) L.length L.length) := by
  rw [World.cell?_of_block (hc.block yb (by omega) ny), hM.below.cell (by exact hyl), h.tab i hi, dV, hL]
 have c0 : W'.cell? ⟨b, o + 0, none⟩ = some (.int .u8 f) := by
  rw [World.cell?_of_block (hc.block b (by omega) nb), hM.below.cell (by exact hbl)]
  exact hM.bytes 0 (by simp)
 rw [hqx] at a2
 rw [hqy] at a3
 rw [hf] at c0
 exact xD a Z W' yb ab g _ _ k (y.at i).g b o (bs.length + 1) c1 L.length A i n0 qx qy v10 L fA a0 hk (hM.tch (y.at i).g k _ hx hgl W' hc) (by omega) hi (by rw [hL]; exact h.len i hi) rfl hAN hn0 hqx2 hqy2 hg0 (by omega) hab (by omega) ny na nb c1_ hr c0 a2 a3 (fun a' W2 f' hc2 hr2 => hZ a' W2 ⟨v10, f', hc.trans hc2 (fun _ e _ => e), hr2, aS.keep ho hc2 (fun b' e => by intro e2; have e3 : b' = (y.at i).g := e2; have := aDs ho b' e; omega)⟩)
theorem pH {n : Nat} {rs : List Rule} {q : Req} (h : excL n rs q = 0) : q.ra + q.rc ≤ n ∧ q.wa + q.wc ≤ n := by
 unfold excL at h
 split at h
 ·rename_i hh
  simp only [hasB, Bool.and_eq_true, decide_eq_true_eq] at hh
  omega
 ·cases h
theorem rX {L : List Int} {a n : Nat} {p : Int → Prop} (h : ∀ x ∈ L, p x) : ∀ x ∈ bM L a n, p x := fun x hx => h x (List.mem_of_mem_drop (List.mem_of_mem_take hx))
theorem nW (L : List Int) (a n : Nat) (h : a + n ≤ L.length) : (bM L a n).length = n := by
 unfold bM
 simp
 omega
theorem yR (L : List Int) (q : Req) (h1 : q.wc = 0) (h2 : q.wa = 0) : bI L q = L := by
 unfold bI
 rw [h1, h2]
 simp [setL, cU, bM]
theorem sK (yb : Nat) (s0 s1 s2 s3 rv : Value) (y : T4) (LL : List (List Rule)) (cl : Nat) (rs : List Rule) (f : Nat) (bs : List Int) (q : Req) (v : Value) (w : World) (h : RefAt w yb s0 s1 s2 s3 rv y LL) (hcl : LL[cl]? = some rs) (h8 : rs.length ≤ 8) (hv : Lies w v ((f : Int) :: bs)) (hf : f < 256) (hbs : Bys bs) (hlen : bs.length ≤ 252) (hj : aO (f : Int) bs = .inr q) (he : excL (y.at q.t).L.length rs q = 0)
  (hLx : ∀ i, i < 4 → ∀ x ∈ (y.at i).L, 0 ≤ x ∧ x ≤ cT i) (n22 : ¬ q.f = 22) (n23 : ¬ q.f = 23) (hwc : q.wc = 0) (hwa : q.wa = 0) (hrc : 0 < q.rc) :
  Calls Tryz.prog 94 #[.pointer (some ⟨yb, 0, none⟩), .int .i64 (cl : Int), v] w (pS w yb s0 s1 s2 s3 rv y LL q.t (bI (y.at q.t).L q) (dS q (cV q.t (bM (bI (y.at q.t).L q) q.ra q.rc)))) := by
 have ok := cZ (f : Int) bs hbs hlen q hj
 have hin := pH he
 have ht : aM q = [⟨(q.t : Int), (q.ra : Int), (q.rc : Int), false⟩] := by
  unfold aM
  rw [if_neg n23, if_neg n22, if_pos hwc]
 have hl1 : (aM q).length = 1 := by rw [ht]; rfl
 rw [yR _ q hwc hwa]
 refine (jB yb s0 s1 s2 s3 rv y LL cl rs f bs q v w h hcl h8 hv hf hbs hlen hj he (fun _ => (y.at q.t).L) (fun k => if k = 0 then [] else bM (y.at q.t).L q.ra q.rc) rfl rfl rfl ?_ ?_ ?_).mono ?_
 ·rw [hl1]
  exact nW _ _ _ hin.1
 ·rw [hl1]
  exact rX (hLx q.t ok.t)
 ·intro W ab g b o c1 va vn vc hM k a W' hk hI Z hZ
  obtain rfl : k = 0 := by omega
  exact kQ hM h q.t q.ra q.rc 0 ok.t hk (by rw [ht]; rfl) (y.at q.t).L [] rfl hin.1 hrc a W' hI Z hZ
 ·intro e w' hh
  rw [hl1] at hh
  exact hh
theorem nK {q : Req} (ok : q.Ok) : ∀ x ∈ q.vals, 0 ≤ x ∧ x ≤ cT q.t := fun x hx => ok.vals x hx
theorem lV {i : Nat} {L : List Int} (h : ∀ x ∈ L, 0 ≤ x ∧ x ≤ cT i) : ∀ x ∈ L, 0 ≤ x ∧ x ≤ 65535 := fun x hx => by
 have := h x hx
 unfold cT at this
 split at this <;> omega
theorem pW (yb : Nat) (s0 s1 s2 s3 rv : Value) (y : T4) (LL : List (List Rule)) (cl : Nat) (rs : List Rule) (f : Nat) (bs : List Int) (q : Req) (v : Value) (w : World) (h : RefAt w yb s0 s1 s2 s3 rv y LL) (hcl : LL[cl]? = some rs) (h8 : rs.length ≤ 8) (hv : Lies w v ((f : Int) :: bs)) (hf : f < 256) (hbs : Bys bs) (hlen : bs.length ≤ 252) (hj : aO (f : Int) bs = .inr q) (he : excL (y.at q.t).L.length rs q = 0)
  (hLx : ∀ i, i < 4 → ∀ x ∈ (y.at i).L, 0 ≤ x ∧ x ≤ cT i) (n22 : ¬ q.f = 22) (n23 : ¬ q.f = 23) (hwc : q.wc ≠ 0) (hrc : q.rc = 0) (hkp : q.keep = 0) :
  Calls Tryz.prog 94 #[.pointer (some ⟨yb, 0, none⟩), .int .i64 (cl : Int), v] w (pS w yb s0 s1 s2 s3 rv y LL q.t (bI (y.at q.t).L q) (dS q (cV q.t (bM (bI (y.at q.t).L q) q.ra q.rc)))) := by
 have ok := cZ (f : Int) bs hbs hlen q hj
 have hin := pH he
 have hfq := gU (f : Int) bs q hj
 have ht : aM q = [⟨(q.t : Int), (q.wa : Int), (q.vals.length : Int), true⟩] := by
  unfold aM
  rw [if_neg n23, if_neg n22, if_neg hwc, ok.len]
 have hl1 : (aM q).length = 1 := by rw [ht]; rfl
 have hvl := ok.len
 have hne : q.vals ≠ [] := fun e => by rw [e] at hvl; simp at hvl; omega
 have hcw := mZ (y.at q.t).L q hkp ok.len hin.2 (lV (hLx q.t ok.t)) (lV (nK ok))
 have hsp : bM (setL (y.at q.t).L q.wa q.vals) q.ra q.rc = [] := by rw [hrc]; unfold bM; simp
 rw [hcw, hsp]
 refine (jB yb s0 s1 s2 s3 rv y LL cl rs f bs q v w h hcl h8 hv hf hbs hlen hj he (fun k => if k = 0 then (y.at q.t).L else setL (y.at q.t).L q.wa q.vals) (fun _ => []) rfl rfl ?_ ?_ ?_ ?_).mono ?_
 ·rw [hl1]
  exact fE _ _ _ (by omega)
 ·rw [hrc]
  rfl
 ·intro x hx
  cases hx
 ·intro W ab g b o c1 va vn vc hM k a W' hk hI Z hZ
  obtain rfl : k = 0 := by omega
  exact mV hM h q.t q.wa 0 q.vals ok.t hk (by rw [ht]; rfl) (by unfold lC; rw [if_neg n22]) (by rw [← hfq]; simpa using n22) hne (y.at q.t).L [] rfl (by omega) a W' hI Z hZ
 ·intro e w' hh
  rw [hl1] at hh
  exact hh
theorem sR (bs : List Int) (q : Req) (e : aO 23 bs = .inr q) : 1 ≤ q.wc ∧ 1 ≤ q.rc ∧ q.keep = 0 := by
 have h : cM 23 bs = .inr q := e
 unfold cM at h
 split at h
 ·rename_i hc
  have h1 := hc.2.1
  have h2 := hc.2.2.1
  simp only [bS, Bool.and_eq_true, decide_eq_true_eq] at h1 h2
  cases h
  exact ⟨h2.1, h1.1, rfl⟩
 ·cases h
theorem aCi {L xs : List Int} {a : Nat} {p : Int → Prop} (h1 : ∀ x ∈ L, p x) (h2 : ∀ x ∈ xs, p x) : ∀ x ∈ setL L a xs, p x := fun x hx => by
 rcases uL L xs a x hx with h | h
 ·exact h1 x h
 ·exact h2 x h
theorem sM (yb : Nat) (s0 s1 s2 s3 rv : Value) (y : T4) (LL : List (List Rule)) (cl : Nat) (rs : List Rule) (bs : List Int) (q : Req) (v : Value) (w : World) (h : RefAt w yb s0 s1 s2 s3 rv y LL) (hcl : LL[cl]? = some rs) (h8 : rs.length ≤ 8) (hv : Lies w v (((23 : Nat) : Int) :: bs)) (hbs : Bys bs) (hlen : bs.length ≤ 252) (hj : aO ((23 : Nat) : Int) bs = .inr q) (he : excL (y.at q.t).L.length rs q = 0)
  (hLx : ∀ i, i < 4 → ∀ x ∈ (y.at i).L, 0 ≤ x ∧ x ≤ cT i) :
  Calls Tryz.prog 94 #[.pointer (some ⟨yb, 0, none⟩), .int .i64 (cl : Int), v] w (pS w yb s0 s1 s2 s3 rv y LL q.t (bI (y.at q.t).L q) (dS q (cV q.t (bM (bI (y.at q.t).L q) q.ra q.rc)))) := by
 have ok := cZ ((23 : Nat) : Int) bs hbs hlen q hj
 have hin := pH he
 have hfq := gU ((23 : Nat) : Int) bs q hj
 obtain ⟨hwc, hrc, hkp⟩ := sR bs q hj
 have ht : aM q = [⟨(q.t : Int), (q.wa : Int), (q.vals.length : Int), true⟩, ⟨(q.t : Int), (q.ra : Int), (q.rc : Int), false⟩] := by
  unfold aM
  rw [if_pos (by rw [hfq]; rfl), ok.len]
 have hl1 : (aM q).length = 2 := by rw [ht]; rfl
 have hvl := ok.len
 have hne : q.vals ≠ [] := fun e => by rw [e] at hvl; simp at hvl; omega
 have hsl : (setL (y.at q.t).L q.wa q.vals).length = (y.at q.t).L.length := fE _ _ _ (by omega)
 rw [mZ (y.at q.t).L q hkp ok.len hin.2 (lV (hLx q.t ok.t)) (lV (nK ok))]
 refine (jB yb s0 s1 s2 s3 rv y LL cl rs 23 bs q v w h hcl h8 hv (by decide) hbs hlen hj he (fun k => if k = 0 then (y.at q.t).L else setL (y.at q.t).L q.wa q.vals) (fun k => if k = 2 then bM (setL (y.at q.t).L q.wa q.vals) q.ra q.rc else []) rfl rfl ?_ ?_ ?_ ?_).mono ?_
 ·rw [hl1]
  exact hsl
 ·rw [hl1]
  exact nW _ _ _ (by omega)
 ·rw [hl1]
  exact rX (aCi (hLx q.t ok.t) (nK ok))
 ·intro W ab g b o c1 va vn vc hM k a W' hk hI Z hZ
  have hk2 : k = 0 ∨ k = 1 := by omega
  rcases hk2 with rfl | rfl
  ·exact mV hM h q.t q.wa 0 q.vals ok.t hk (by rw [ht]; rfl) (by unfold lC; rw [if_neg (by rw [hfq]; decide)]) rfl hne (y.at q.t).L [] rfl (by omega) a W' hI Z hZ
  ·exact kQ hM h q.t q.ra q.rc 1 ok.t hk (by rw [ht]; rfl) (setL (y.at q.t).L q.wa q.vals) [] hsl (by omega) hrc a W' hI Z hZ
 ·intro e w' hh
  rw [hl1] at hh
  exact hh
theorem aCh (L : List Int) (a : Nat) (x : Int) (h : a < L.length) : setL L a [x] = L.set a x := by
 have e := mC L [x] a 0 (by simp) h
 have e0 : setL L a (List.take 0 [x]) = L := by simp [setL]
 rw [e0, Nat.add_zero] at e
 exact e.symm
theorem sL (yb : Nat) (s0 s1 s2 s3 rv : Value) (y : T4) (LL : List (List Rule)) (cl : Nat) (rs : List Rule) (bs : List Int) (q : Req) (v : Value) (w : World) (h : RefAt w yb s0 s1 s2 s3 rv y LL) (hcl : LL[cl]? = some rs) (h8 : rs.length ≤ 8) (hv : Lies w v (((22 : Nat) : Int) :: bs)) (hbs : Bys bs) (hlen : bs.length ≤ 252) (hj : aO ((22 : Nat) : Int) bs = .inr q) (he : excL (y.at q.t).L.length rs q = 0)
  (hLx : ∀ i, i < 4 → ∀ x ∈ (y.at i).L, 0 ≤ x ∧ x ≤ cT i) :
  Calls Tryz.prog 94 #[.pointer (some ⟨yb, 0, none⟩), .int .i64 (cl : Int), v] w (pS w yb s0 s1 s2 s3 rv y LL q.t (bI (y.at q.t).L q) (dS q (cV q.t (bM (bI (y.at q.t).L q) q.ra q.rc)))) := by
 have ok := cZ ((22 : Nat) : Int) bs hbs hlen q hj
 have hin := pH he
 have hfq := gU ((22 : Nat) : Int) bs q hj
 obtain ⟨hwc, hrc, hraw, z, hz⟩ : q.wc = 1 ∧ q.rc = 1 ∧ q.ra = q.wa ∧ ∃ z, q.vals = [z] := by
  rcases jQ _ bs q hj with ⟨e, _⟩ | ⟨_, e1, e2, e3, _, e4⟩ | ⟨e, _⟩ | ⟨e, _⟩
  ·exact absurd e (by decide)
  ·exact ⟨e1, e2, e3, e4⟩
  ·exact absurd rfl e
  ·exact absurd rfl e
 have hech : q.echo ≠ [] := by
  rcases kU _ bs q hj with ⟨e, _⟩ | ⟨_, e1, e2⟩ | ⟨e, _⟩
  ·exact absurd e (by decide)
  ·rw [e2]; exact e1
  ·exact absurd e (by decide)
 have ht : aM q = [⟨(q.t : Int), (q.ra : Int), (q.rc : Int), false⟩, ⟨(q.t : Int), (q.wa : Int), ((1 : Nat) : Int), true⟩] := by
  unfold aM
  rw [if_neg (by rw [hfq]; decide), if_pos (by rw [hfq]; rfl), hwc]
 have hl1 : (aM q).length = 2 := by rw [ht]; rfl
 have hA : q.wa < (y.at q.t).L.length := by omega
 have hg := lV (hLx q.t ok.t) ((y.at q.t).L.getD q.wa 0) (by rw [List.getD_eq_getElem?_getD, List.getElem?_eq_getElem hA]; exact List.getElem_mem hA)
 obtain ⟨n0, hn0⟩ : ∃ n0 : Nat, (y.at q.t).L.getD q.wa 0 = (n0 : Int) := ⟨_, (Int.toNat_of_nonneg hg.1).symm⟩
 have hzb := lV (nK ok) z (by rw [hz]; exact List.mem_singleton.2 rfl)
 obtain ⟨zn, rfl⟩ : ∃ zn : Nat, z = (zn : Int) := ⟨_, (Int.toNat_of_nonneg hzb.1).symm⟩
 have hkp := ok.keep
 have hcar : bI (y.at q.t).L q = (y.at q.t).L.set q.wa (eG q.keep n0 zn : Nat) := by
  have e : bM (y.at q.t).L q.wa 1 = [(y.at q.t).L.getD q.wa 0] := by
   unfold bM
   rw [List.drop_eq_getElem_cons hA, List.take_succ_cons, List.take_zero, List.getD_eq_getElem?_getD, List.getElem?_eq_getElem hA]
   rfl
  unfold bI
  rw [hwc, e, hz, hn0]
  show setL (y.at q.t).L q.wa [jF ((q.keep : Nat) : Int) (n0 : Int) (zn : Int)] = _
  rw [mI _ _ _ hkp (by omega) (by omega), aCh _ _ _ hA]
 have hout : dS q (cV q.t (bM (bI (y.at q.t).L q) q.ra q.rc)) = dS q (cV q.t (bM (y.at q.t).L q.ra q.rc)) := by
  unfold dS
  rw [if_neg hech, if_neg hech]
 rw [hout, hcar]
 refine (jB yb s0 s1 s2 s3 rv y LL cl rs 22 bs q v w h hcl h8 hv (by decide) hbs hlen hj he (fun k => if k = 2 then (y.at q.t).L.set q.wa (eG q.keep n0 zn : Nat) else (y.at q.t).L) (fun k => if k = 0 then [] else bM (y.at q.t).L q.ra q.rc) rfl rfl ?_ ?_ ?_ ?_).mono ?_
 ·rw [hl1]
  exact List.length_set
 ·rw [hl1]
  exact nW _ _ _ hin.1
 ·rw [hl1]
  exact rX (hLx q.t ok.t)
 ·intro W ab g b o c1 va vn vc hM k a W' hk hI Z hZ
  have hk2 : k = 0 ∨ k = 1 := by omega
  rcases hk2 with rfl | rfl
  ·exact kQ hM h q.t q.ra q.rc 0 ok.t hk (by rw [ht]; rfl) (y.at q.t).L [] rfl hin.1 (by omega) a W' hI Z hZ
  ·exact uE hM h q.t q.wa 1 n0 q.keep zn ok.t hk (by rw [ht]; rfl) (by unfold xQ; rw [if_pos (by rw [hfq]; rfl)]) (by unfold yQ; rw [if_pos (by rw [hfq]; rfl), hz]; rfl) (by omega) hkp (by omega) rfl (y.at q.t).L (bM (y.at q.t).L q.ra q.rc) rfl hA hn0 a W' hI Z hZ
 ·intro e w' hh
  rw [hl1] at hh
  exact hh
theorem aFd (yb : Nat) (s0 s1 s2 s3 rv : Value) (y : T4) (LL : List (List Rule)) (cl : Nat) (rs : List Rule) (f : Nat) (bs : List Int) (q : Req) (v : Value) (w : World) (h : RefAt w yb s0 s1 s2 s3 rv y LL) (hcl : LL[cl]? = some rs) (h8 : rs.length ≤ 8) (hv : Lies w v ((f : Int) :: bs)) (hf : f < 256) (hbs : Bys bs) (hlen : bs.length ≤ 252) (hj : aO (f : Int) bs = .inr q) (he : excL (y.at q.t).L.length rs q = 0)
  (hLx : ∀ i, i < 4 → ∀ x ∈ (y.at i).L, 0 ≤ x ∧ x ≤ cT i) :
  Calls Tryz.prog 94 #[.pointer (some ⟨yb, 0, none⟩), .int .i64 (cl : Int), v] w (pS w yb s0 s1 s2 s3 rv y LL q.t (bI (y.at q.t).L q) (dS q (cV q.t (bM (bI (y.at q.t).L q) q.ra q.rc)))) := by
 have hfq := gU (f : Int) bs q hj
 rcases jQ (f : Int) bs q hj with ⟨e, _⟩ | ⟨e, _⟩ | ⟨n1, n2, m1, m2, e1, e2, _⟩ | ⟨n1, n2, e1, _, e2, e3⟩
 ·obtain rfl : f = 23 := by omega
  exact sM yb s0 s1 s2 s3 rv y LL cl rs bs q v w h hcl h8 hv hbs hlen hj he hLx
 ·obtain rfl : f = 22 := by omega
  exact sL yb s0 s1 s2 s3 rv y LL cl rs bs q v w h hcl h8 hv hbs hlen hj he hLx
 ·have hrc : 0 < q.rc := by
   rcases kU (f : Int) bs q hj with ⟨e, _⟩ | ⟨e, _⟩ | ⟨_, _, e, _⟩
   ·omega
   ·omega
   ·exact e
  exact sK yb s0 s1 s2 s3 rv y LL cl rs f bs q v w h hcl h8 hv hf hbs hlen hj he hLx (by rw [hfq]; exact n1) (by rw [hfq]; exact n2) e1 e2 hrc
 ·exact pW yb s0 s1 s2 s3 rv y LL cl rs f bs q v w h hcl h8 hv hf hbs hlen hj he hLx (by rw [hfq]; exact n1) (by rw [hfq]; exact n2) e1 e2 e3
def wM (w : World) (yb : Nat) (s0 s1 s2 s3 rv : Value) (y : T4) (LL : List (List Rule)) (rs : List Rule) (f : Int) (bs : List Int) (r : Ending) (w' : World) : Prop :=
 ∃ a n c, r = .returned (.tuple #[.slice a n c, .int .i64 0]) ∧ Owns w' w.heap.size (.slice a n c) (gJ y rs f bs) ∧ RefAt w' yb s0 s1 s2 s3 rv (iG y rs f bs) LL ∧ Chg w w' (fun k => ∃ i, i < 4 ∧ k = (y.at i).g)
theorem vB (yb : Nat) (s0 s1 s2 s3 rv : Value) (y : T4) (LL : List (List Rule)) (cl : Nat) (rs : List Rule) (f : Nat) (bs : List Int) (v : Value) (w : World) (h : RefAt w yb s0 s1 s2 s3 rv y LL) (hcl : LL[cl]? = some rs) (h8 : rs.length ≤ 8) (hv : Lies w v ((f : Int) :: bs)) (hf : f < 256) (hbs : Bys bs) (hlen : bs.length ≤ 252)
  (hLx : ∀ i, i < 4 → ∀ x ∈ (y.at i).L, 0 ≤ x ∧ x ≤ cT i) :
  Calls Tryz.prog 94 #[.pointer (some ⟨yb, 0, none⟩), .int .i64 (cl : Int), v] w (wM w yb s0 s1 s2 s3 rv y LL rs (f : Int) bs) := by
 have hX : ∀ x, eT y rs (f : Int) bs = .inl x → ∀ r w', nN w (f : Int) x r w' → wM w yb s0 s1 s2 s3 rv y LL rs (f : Int) bs r w' := fun x hj r w' ⟨a, n, c, e, ho, hb⟩ => by
  refine ⟨a, n, c, e, ?_, ?_, Chg.of_below hb _⟩
  ·unfold gJ; rw [hj]; exact ho
  ·unfold iG; rw [hj]; exact h.below hb
 cases hp : aO (f : Int) bs with
 | inl x =>
  have hj : eT y rs (f : Int) bs = .inl x := by unfold eT; rw [hp]
  exact (aDj yb s0 s1 s2 s3 rv y LL cl f bs x v w h (List.getElem?_eq_some_iff.1 hcl).1 hv hf hbs hlen hp).mono (hX x hj)
 | inr q =>
  by_cases he : excL (y.at q.t).L.length rs q = 0
  ·have hj : eT y rs (f : Int) bs = .inr q := by unfold eT; rw [hp]; exact if_pos he
   have ok := cZ (f : Int) bs hbs hlen q hp
   refine (aFd yb s0 s1 s2 s3 rv y LL cl rs f bs q v w h hcl h8 hv hf hbs hlen hp he hLx).mono ?_
   rintro r w' ⟨a, n, c, e, ho, hb, hc⟩
   refine ⟨a, n, c, e, ?_, ?_, hc.mono fun k _ e => ⟨q.t, ok.t, e⟩⟩
   ·unfold gJ; rw [hj]; exact ho
   ·unfold iG; rw [hj]; exact hb
  ·have hj : eT y rs (f : Int) bs = .inl (excL (y.at q.t).L.length rs q) := by unfold eT; rw [hp]; exact if_neg he
   exact (aDi yb s0 s1 s2 s3 rv y LL cl rs f bs q v w h hcl h8 hv hf hbs hlen hp he).mono (hX _ hj)
def uI (T : TypeId) : Bool := T != 3 && T != 5 && T != 143 && T != 91 && T != 125 && T != 127 && T != 122
def hG (w : World) (D : Nat → Prop) : Prop := ∀ k, D k → k < w.heap.size → ∃ cs T fr, w.heap[k]? = some (.cells cs T fr) ∧ uI T = false
theorem hG.not {w : World} {D : Nat → Prop} (h : hG w D) {k : Nat} {cs : Array Value} {T : TypeId} {fr : Nat × Nat} (e : w.heap[k]? = some (.cells cs T fr)) (hT : uI T = true) : ¬ D k := fun d => by
 obtain ⟨cs', T', fr', e', h'⟩ := h k d (Array.getElem?_eq_some_iff.1 e).1
 rw [e] at e'
 cases e'
 rw [hT] at h'
 cases h'
theorem BankAt.keepM {w w' : World} {B rb sb tb kb : Nat} {t : T4} {LL : List (List Rule)} {us : List Value} {D : Nat → Prop} (h : BankAt w B rb sb tb kb t LL us) (c : Chg w w' D) (m : hG w D) (hs : ¬ D sb) (hg : ∀ i, i < 4 → ¬ D (t.at i).g) : BankAt w' B rb sb tb kb t LL us := by
 have row : ∀ {k : Nat} {cs : Array Value} {T : TypeId} {fr : Nat × Nat}, w.heap[k]? = some (.cells cs T fr) → uI T = true → w'.heap[k]? = some (.cells cs T fr) := fun e hT => (c.block _ (Array.getElem?_eq_some_iff.1 e).1 (m.not e hT)).trans e
 have tab : ∀ {e g : Nat} {T : TypeId} {hh : Int} {L : List Int}, TabAt w e g T hh L → uI T = true → ¬ D g → TabAt w' e g T hh L := fun q hT n => q.chg c (m.not q.row hT) n
 have T := h.st.tabs
 exact ⟨row h.row (by decide), ⟨(c.block _ (Array.getElem?_eq_some_iff.1 h.st.row).1 hs).trans h.st.row, ⟨row T.row (by decide), tab T.a0 (by decide) (hg 0 (by omega)), tab T.a1 (by decide) (hg 1 (by omega)), tab T.a2 (by decide) (hg 2 (by omega)), tab T.a3 (by decide) (hg 3 (by omega)), T.nd, T.lo⟩, h.st.cl.chg c (m.not h.st.cl.row (by decide)) (fun g cs fr q => m.not q (by decide)), h.st.lo⟩, h.lo⟩
theorem RulesOf.keep {w w' : World} {S : Nat} {rv : Value} {LL : List (List Rule)} {us : List Value} {D : Nat → Prop} (h : RulesOf w S rv LL us) (c : Chg w w' D) (m : hG w D) : RulesOf w' S rv LL us := by
 refine h.chg c (fun i e => ?_) (fun u hu i e => ?_)
 ·obtain ⟨cs, fr, q⟩ := bH h.row e
  exact m.not q (by decide)
 ·obtain ⟨j, hj⟩ := List.getElem?_of_mem hu
  have hl : us.length = LL.length := by have := h.row.1; omega
  have hjl := (List.getElem?_eq_some_iff.1 hj).1
  obtain ⟨cs, fr, q⟩ := bH (h.at_ j _ u (List.getElem?_eq_getElem (by omega)) hj) e
  exact m.not q (by decide)
theorem RefAt.keep {w w' : World} {S yb : Nat} {s0 s1 s2 s3 rv : Value} {y : T4} {LL : List (List Rule)} {ys : List Value} {D : Nat → Prop} (h : RefAt w yb s0 s1 s2 s3 rv y LL) (r : RulesOf w S rv LL ys) (c : Chg w w' D) (m : hG w D) (hg : ∀ i, i < 4 → ¬ D (y.at i).g) : RefAt w' yb s0 s1 s2 s3 rv y LL :=
 ⟨(c.block _ (Array.getElem?_eq_some_iff.1 h.row).1 (m.not h.row (by decide))).trans h.row, (r.keep c m).lists, fun i hi => (c.block _ (Array.getElem?_eq_some_iff.1 (h.ent i hi)).1 (hg i hi)).trans (h.ent i hi), h.len, h.nd⟩
structure BP where
 rb : Nat
 sb : Nat
 tb : Nat
 kb : Nat
 t : T4
 us : List Value
 yb : Nat
 s0 : Value
 s1 : Value
 s2 : Value
 s3 : Value
 rv : Value
 y : T4
 ys : List Value
 LL : List (List Rule)
def BP.cells (p : BP) : List Value := [.pointer (some ⟨p.rb, 0, none⟩), .pointer (some ⟨p.yb, 0, none⟩)]
def BP.turns (p : BP) (k : Nat) : Prop := k = p.sb ∨ ∃ i, i < 4 ∧ (k = (p.t.at i).g ∨ k = (p.y.at i).g)
structure BP.Ok (w : World) (B : Nat) (p : BP) : Prop where
 bank : BankAt w B p.rb p.sb p.tb p.kb p.t p.LL p.us
 ref : RefAt w p.yb p.s0 p.s1 p.s2 p.s3 p.rv p.y p.LL
 rul : RulesOf w B p.rv p.LL p.ys
 lo : ∀ i, i < 4 → B ≤ (p.y.at i).g
 same : ∀ i, i < 4 → (p.t.at i).L = (p.y.at i).L
 in_ : ∀ i, i < 4 → ∀ x ∈ (p.t.at i).L, 0 ≤ x ∧ x ≤ cT i
 cl : p.LL.length ≤ 6
 rl : ∀ rs ∈ p.LL, rs.length ≤ 8
 sep : ∀ i j, i < 4 → j < 4 → (p.t.at i).g ≠ (p.y.at j).g
theorem BP.Ok.keep {w w' : World} {B : Nat} {p : BP} {D : Nat → Prop} (h : p.Ok w B) (c : Chg w w' D) (m : hG w D) (n : ∀ k, p.turns k → ¬ D k) : p.Ok w' B :=
 ⟨h.bank.keepM c m (n _ (.inl rfl)) (fun i hi => n _ (.inr ⟨i, hi, .inl rfl⟩)), h.ref.keep h.rul c m (fun i hi => n _ (.inr ⟨i, hi, .inr rfl⟩)), h.rul.keep c m, h.lo, h.same, h.in_, h.cl, h.rl, h.sep⟩
theorem BP.Ok.below {w w' : World} {B : Nat} {p : BP} (h : p.Ok w B) (hb : Below w.heap.size w w') : p.Ok w' B :=
 h.keep (Chg.of_below hb (fun _ => False)) (fun _ e => e.elim) (fun _ _ e => e)
theorem BP.Ok.row {w : World} {B : Nat} {p : BP} (h : p.Ok w B) {k : Nat} (hk : p.turns k) : ∃ cs T fr, w.heap[k]? = some (.cells cs T fr) ∧ uI T = false ∧ (T = 3 ∨ T = 143) := by
 rcases hk with rfl | ⟨i, hi, rfl | rfl⟩
 ·exact ⟨_, _, _, h.bank.st.row, by decide, .inr rfl⟩
 ·exact ⟨_, _, _, (h.bank.tab i hi).2.1.ent, by decide, .inl rfl⟩
 ·exact ⟨_, _, _, h.ref.ent i hi, by decide, .inl rfl⟩
theorem BP.Ok.lt {w : World} {B : Nat} {p : BP} (h : p.Ok w B) {k : Nat} (hk : p.turns k) : k < w.heap.size := by
 obtain ⟨_, _, _, e, _⟩ := h.row hk
 exact (Array.getElem?_eq_some_iff.1 e).1
theorem BP.Ok.ge {w : World} {B : Nat} {p : BP} (h : p.Ok w B) {k : Nat} (hk : p.turns k) : B ≤ k := by
 rcases hk with rfl | ⟨i, hi, rfl | rfl⟩
 ·exact h.bank.st.lo
 ·have lo := h.bank.st.tabs.lo
  have hk : i = 0 ∨ i = 1 ∨ i = 2 ∨ i = 3 := by omega
  rcases hk with rfl | rfl | rfl | rfl
  ·exact lo.2.2.2.2.2.1
  ·exact lo.2.2.2.2.2.2.1
  ·exact lo.2.2.2.2.2.2.2.1
  ·exact lo.2.2.2.2.2.2.2.2
 ·exact h.lo i hi
theorem BP.Ok.moves {w : World} {B : Nat} {p : BP} (h : p.Ok w B) : hG w p.turns := fun k hk _ => by
 obtain ⟨cs, T, fr, e, hs, _⟩ := h.row hk
 exact ⟨cs, T, fr, e, hs⟩
structure BInv (w : World) (B bw : Nat) (ps : List BP) (vp vb vi : Value) (rb ri : List Rec) : Prop where
 book : BookJ w B bw (.slice none 0 0) (.slice none 0 0) vp vb vi rb ri
 rowP : w.ownsRow B 122 2 vp ps.length (ps.flatMap BP.cells)
 ok : ∀ p ∈ ps, p.Ok w B
 sep : ∀ (i j : Nat) p q, ps[i]? = some p → ps[j]? = some q → i ≠ j → ∀ k, p.turns k → ¬ q.turns k
 recs : ∀ r, (r ∈ rb ∨ r ∈ ri) → ∀ k, r.has k → (∀ p ∈ ps, ¬ p.turns k) ∧ vp.ownBlock ≠ some k
 err : dF w
 pos : 0 < B
def rN (N : Nat) (ps : List BP) (vp : Value) (rb ri : List Rec) : Prop := (∀ p ∈ ps, ∀ k, p.turns k → k < N) ∧ (∀ r, (r ∈ rb ∨ r ∈ ri) → ∀ k, r.has k → k < N) ∧ (∀ k, vp.ownBlock = some k → k < N)
theorem BInv.under {w : World} {B bw : Nat} {ps : List BP} {vp vb vi : Value} {rb ri : List Rec} (h : BInv w B bw ps vp vb vi rb ri) : rN w.heap.size ps vp rb ri :=
 ⟨fun p m _ e => (h.ok p m).lt e, fun r m k e => (h.book.sep r m k e).2.1, fun k e => (World.ownsRow.lt h.rowP k e).2⟩
theorem BInv.bw_lt {w : World} {B bw : Nat} {ps : List BP} {vp vb vi : Value} {rb ri : List Rec} (h : BInv w B bw ps vp vb vi rb ri) : bw < w.heap.size := (Array.getElem?_eq_some_iff.1 h.book.row).1
theorem BInv.below {w w' : World} {B bw : Nat} {ps : List BP} {vp vb vi : Value} {rb ri : List Rec} (h : BInv w B bw ps vp vb vi rb ri) (hb : Below w.heap.size w w') : BInv w' B bw ps vp vb vi rb ri :=
 ⟨h.book.chg (Chg.of_below hb (fun _ => False)) id (fun _ _ => id) (fun _ _ => id) (fun _ _ _ _ => id), aJ h.rowP fun i _ p _ => hb.block i p, fun p m => (h.ok p m).below hb, h.sep, h.recs, h.err.below hb, h.pos⟩
theorem tK {w w' : World} {D : Nat → Prop} (h : dF w) (c : Chg w w' D) (n : ¬ D 0) : dF w' := (World.cell?_of_block (c.block 0 (World.block_lt_of_cell? w _ h) n)).trans h
theorem qA {α β : Type} (f : α → β) (xs : List α) (k : Nat) (x x' : α) (hx : xs[k]? = some x) (hf : f x' = f x) : (xs.set k x').map f = xs.map f := by
 rw [List.map_set, hf]
 apply List.ext_getElem?
 intro i
 by_cases e : k = i
 ·subst e
  simp [List.getElem?_set, hx]
  exact (List.getElem?_eq_some_iff.1 hx).1
 ·simp [e]
theorem mL {α β : Type} (f : α → List β) (xs : List α) (k : Nat) (x x' : α) (hx : xs[k]? = some x) (hf : f x' = f x) : (xs.set k x').flatMap f = xs.flatMap f := by
 rw [List.flatMap_def, List.flatMap_def, qA f xs k x x' hx hf]
theorem BInv.called {w w' : World} {B bw : Nat} {ps : List BP} {vp vb vi : Value} {rb ri : List Rec} (h : BInv w B bw ps vp vb vi rb ri) {i : Nat} {p p' : BP} (hp : ps[i]? = some p) {D : Nat → Prop} (c : Chg w w' D) (hD : ∀ k, D k → k < w.heap.size → p.turns k) (e1 : p'.rb = p.rb) (e2 : p'.yb = p.yb) (ht : ∀ k, p'.turns k ↔ p.turns k) (hok : p'.Ok w' B) : BInv w' B bw (ps.set i p') vp vb vi rb ri := by
 have mp := List.mem_of_getElem? hp
 have okp := h.ok p mp
 have ci : Chg w w' p.turns := c.mono (fun k l e => hD k e l)
 have nrow : ∀ {k : Nat} {cs : Array Value} {T : TypeId} {fr : Nat × Nat}, w.heap[k]? = some (.cells cs T fr) → T ≠ 3 → T ≠ 143 → ¬ p.turns k := fun e n1 n2 hk => by
  obtain ⟨cs', T', fr', e', _, hT⟩ := okp.row hk
  rw [e] at e'
  cases e'
  exact hT.elim n1 n2
 have nown : ∀ {B' n size : Nat} {T : TypeId} {v : Value} {xs : List Value}, w.ownsRow B' T size v n xs → T ≠ 3 → T ≠ 143 → ∀ k, v.ownBlock = some k → ¬ p.turns k := fun r n1 n2 k e => by
  obtain ⟨cs, fr, q⟩ := bH r e
  exact nrow q n1 n2
 have hil := (List.getElem?_eq_some_iff.1 hp).1
 have mem : ∀ q ∈ ps.set i p', q = p' ∨ ∃ j, j ≠ i ∧ ps[j]? = some q := fun q m => by
  obtain ⟨j, hj⟩ := List.getElem?_of_mem m
  by_cases e : i = j
  ·subst e
   rw [List.getElem?_set_self hil] at hj
   cases hj
   exact .inl rfl
  ·rw [List.getElem?_set_ne e] at hj
   exact .inr ⟨j, fun x => e x.symm, hj⟩
 refine ⟨h.book.chg ci (nrow h.book.row (by decide) (by decide)) (nown h.book.rowB (by decide) (by decide)) (nown h.book.rowI (by decide) (by decide)) (fun r m k e => (h.recs r m k e).1 p mp), ?_, ?_, ?_, ?_, ?_, h.pos⟩
 ·rw [List.length_set, mL BP.cells ps i p p' hp (by simp only [BP.cells, e1, e2])]
  exact aJ h.rowP fun k _ l e => ci.block k l (nown h.rowP (by decide) (by decide) k e)
 ·intro q m
  rcases mem q m with rfl | ⟨j, nj, hj⟩
  ·exact hok
  ·exact (h.ok q (List.mem_of_getElem? hj)).keep ci okp.moves (fun k e e' => h.sep j i q p hj hp nj k e e')
 ·intro a b q q' ha hb n k e e'
  by_cases h1 : i = a
  ·subst h1
   rw [List.getElem?_set_self hil] at ha
   rw [List.getElem?_set_ne n] at hb
   cases ha
   exact h.sep i b p q' hp hb n k ((ht k).1 e) e'
  ·rw [List.getElem?_set_ne h1] at ha
   by_cases h2 : i = b
   ·subst h2
    rw [List.getElem?_set_self hil] at hb
    cases hb
    exact h.sep a i q p ha hp n k e ((ht k).1 e')
   ·rw [List.getElem?_set_ne h2] at hb
    exact h.sep a b q q' ha hb n k e e'
 ·intro r m k e
  refine ⟨fun q mq hq => ?_, (h.recs r m k e).2⟩
  rcases mem q mq with rfl | ⟨j, _, hj⟩
  ·exact (h.recs r m k e).1 p mp ((ht k).1 hq)
  ·exact (h.recs r m k e).1 q (List.mem_of_getElem? hj) hq
 ·exact tK h.err ci (fun e => by have := okp.ge e; have := h.pos; omega)
theorem BInv.booked {w w' : World} {B bw : Nat} {ps : List BP} {vp vb vi vb' vi' v : Value} {rb ri rb' ri' : List Rec} {D : Nat → Prop} (h : BInv w B bw ps vp vb vi rb ri) (c : Chg w w' D) (hD : ∀ k, D k → k < w.heap.size → k = bw ∨ vb.ownBlock = some k ∨ vi.ownBlock = some k ∨ v.ownBlock = some k)
  (m : hG w D) (hv : ∀ k, v.ownBlock = some k → (∀ p ∈ ps, ¬ p.turns k) ∧ vp.ownBlock ≠ some k ∧ B ≤ k) (hb : BookJ w' B bw (.slice none 0 0) (.slice none 0 0) vp vb' vi' rb' ri')
  (hr : ∀ r, (r ∈ rb' ∨ r ∈ ri') → (r ∈ rb ∨ r ∈ ri) ∨ ∀ k, r.has k → v.ownBlock = some k ∨ w.heap.size ≤ k) : BInv w' B bw ps vp vb' vi' rb' ri' := by
 have hbw := h.bw_lt
 have ncl : ∀ {k : Nat} {cs : Array Value} {T : TypeId} {fr : Nat × Nat}, w.heap[k]? = some (.cells cs T fr) → T = 3 ∨ T = 143 ∨ T = 122 → v.ownBlock ≠ some k → ¬ D k := fun {k} {cs} {T} {fr} e hT n d => by
  have hl := (Array.getElem?_eq_some_iff.1 e).1
  rcases hD k d hl with rfl | q | q | q
  ·rw [h.book.row] at e
   cases e
   exact absurd hT (by decide)
  ·have := bV h.book.rowB e q
   subst this
   exact absurd hT (by decide)
  ·have := bV h.book.rowI e q
   subst this
   exact absurd hT (by decide)
  ·exact n q
 have nt : ∀ p ∈ ps, ∀ k, p.turns k → ¬ D k := fun p mp k e d => by
  obtain ⟨cs, T, fr, hh, _, hT⟩ := (h.ok p mp).row e
  exact ncl hh (hT.elim .inl (fun e => .inr (.inl e))) (fun q => (hv k q).1 p mp e) d
 have np : ∀ k, vp.ownBlock = some k → ¬ D k := fun k e d => by
  obtain ⟨cs, fr, hh⟩ := bH h.rowP e
  exact ncl hh (.inr (.inr rfl)) (fun q => (hv k q).2.1 e) d
 refine ⟨hb, aJ h.rowP fun k _ l e => c.block k l (np k e), fun p mp => (h.ok p mp).keep c m (nt p mp), h.sep, fun r mr k e => ?_, ?_, h.pos⟩
 ·rcases hr r mr with q | q
  ·exact h.recs r q k e
  ·rcases q k e with q | q
   ·exact ⟨(hv k q).1, (hv k q).2.1⟩
   ·exact ⟨fun p mp t => by have := (h.ok p mp).lt t; omega, fun t => by have := (World.ownsRow.lt h.rowP k t).2; omega⟩
 ·refine tK h.err c (fun d => ?_)
  have h0 : 0 < w.heap.size := World.block_lt_of_cell? w _ h.err
  rcases hD 0 d h0 with q | q | q | q
  ·have e : w.cell? ⟨bw, 0, none⟩ = some (.iface 282 (.agg #[hdl 151])) := by
    rw [← q]
    exact h.err
   rw [cell_of_row _ _ 0 _ _ _ h.book.row] at e
   simp [gP] at e
  ·have := (World.ownsRow.lt h.book.rowB 0 q).1
   have := h.pos
   omega
  ·have := (World.ownsRow.lt h.book.rowI 0 q).1
   have := h.pos
   omega
  ·have := (hv 0 q).2.2
   have := h.pos
   omega
theorem hY.list {w : World} {S : Nat} {u : Value} {rs : List Rule} (h : hY w S u rs) : cK w u rs := by
 obtain ⟨g, c, rfl, hR⟩ := h
 refine ⟨_, _, rfl, .inr ⟨g, 0, rfl, (World.ownsRow.lt hR g rfl).2, fun j y hy i u hu => ?_⟩⟩
 have hi : i < 5 := by
  have := (Array.getElem?_eq_some_iff.1 hu).1
  simpa [Rule.cells] using this
 have hj := (List.getElem?_eq_some_iff.1 hy).1
 rw [Nat.zero_add, World.ownsRow.cellAt hR (j * 5 + i) (by omega), show (dC (rs ++ [fW]))[j * 5 + i]? = y.cells[i]? from gA (rs ++ [fW]) j i y (by rw [List.getElem?_append_left hj]; exact hy) hi]
 exact hu
theorem wO.lists {w : World} {S : Nat} {v : Value} {LL : List (List Rule)} (h : wO w S v LL) : bZ w v LL := by
 obtain ⟨g, c, us, x, gx, cx, rfl, hrow, _, _, hls⟩ := h
 refine ⟨_, _, rfl, .inr ⟨g, 0, rfl, (World.ownsRow.lt hrow g rfl).2, fun i rs hi => ?_⟩⟩
 have hil := (List.getElem?_eq_some_iff.1 hi).1
 have hlu := hls.len
 have hu : us[i]? = some us[i] := List.getElem?_eq_getElem (by omega)
 refine ⟨us[i], ?_, (hls.at_ i rs _ hi hu).list⟩
 rw [Nat.zero_add, World.ownsRow.cellAt hrow i (by omega), List.getElem?_append_left (by omega)]
 exact hu
def aAg (w : World) (S : Nat) (a : Option Addr) (v : Value) (LL : List (List Rule)) : Prop := (a = none ∧ v = .slice none 0 0 ∧ LL = []) ∨ (∃ ad, a = some ad) ∧ wO w S v LL
theorem aAg.lists {w : World} {S : Nat} {a : Option Addr} {v : Value} {LL : List (List Rule)} (h : aAg w S a v LL) : bZ w v LL := by
 rcases h with ⟨_, rfl, rfl⟩ | ⟨_, h⟩
 ·exact ⟨none, 0, rfl, .inl rfl⟩
 ·exact h.lists
theorem aBq {w : World} {c : Nat} {LL : List (List Rule)} (h : bZ w (.slice none LL.length c) LL) : LL = [] := by
 obtain ⟨a, c', e, hh⟩ := h
 cases e
 rcases hh with hh | ⟨b, o, e, _⟩
 ·exact hh
 ·cases e
theorem pA (z0 z1 z2 z3 lim : Int) (a : Option Addr) (c : Nat) (LL : List (List Rule)) (w : World) (h : bZ w (.slice a LL.length c) LL) (ha : a = none → c = 0) (hn : LL.length ≤ 100000000) (hr : ∀ rs ∈ LL, rs.length ≤ 100000000) :
  Calls Tryz.prog 85 #[.agg #[.int .i64 z0, .int .i64 z1, .int .i64 z2, .int .i64 z3, .int .i64 lim, .slice a LL.length c]] w fun e w' => ∃ v, e = .returned (.agg #[.int .i64 z0, .int .i64 z1, .int .i64 z2, .int .i64 z3, .int .i64 lim, v]) ∧ aAg w' w.heap.size a v LL ∧ Below w.heap.size w w' := by
 cases a with
 | none =>
  have hl := aBq h
  subst hl
  obtain rfl := ha rfl
  refine (oZ z0 z1 z2 z3 lim w).mono ?_
  rintro e w' ⟨rfl, hb⟩
  exact ⟨_, rfl, .inl ⟨rfl, rfl, rfl⟩, hb⟩
 | some ad =>
  refine (nF z0 z1 z2 z3 lim ad c LL w h hn hr).mono ?_
  rintro e w' ⟨v, rfl, hL, hb⟩
  exact ⟨v, rfl, .inr ⟨⟨ad, rfl⟩, hL⟩, hb⟩
theorem kF (z0 z1 z2 z3 lim y0 y1 y2 y3 ylim : Int) (v : Value) (a : Option Addr) (c0 : Nat) (LL : List (List Rule)) (w0 w1 w : World) (h0 : bZ w0 (.slice a LL.length c0) LL) (ha : a = none → c0 = 0) (hb1 : Below w0.heap.size w0 w1) (hL : aAg w1 w0.heap.size a v LL) (hb2 : Below w1.heap.size w1 w) (hn : LL.length ≤ 100000000) (hr : ∀ rs ∈ LL, rs.length ≤ 100000000) :
  Calls Tryz.prog 86 #[.agg #[.int .i64 z0, .int .i64 z1, .int .i64 z2, .int .i64 z3, .int .i64 lim, v], .agg #[.int .i64 y0, .int .i64 y1, .int .i64 y2, .int .i64 y3, .int .i64 ylim, .slice a LL.length c0]] w fun e w' => e = .returned (.bool true) ∧ Chg w w' (fun i => w0.heap.size ≤ i ∧ i < w1.heap.size) := by
 rcases hL with ⟨rfl, rfl, rfl⟩ | ⟨⟨ad, rfl⟩, hL⟩
 ·obtain rfl := ha rfl
  refine (pP z0 z1 z2 z3 lim y0 y1 y2 y3 ylim w).mono ?_
  rintro e w' ⟨rfl, hb⟩
  exact ⟨rfl, Chg.of_below hb _⟩
 ·exact nI z0 z1 z2 z3 lim y0 y1 y2 y3 ylim v ad c0 LL w0 w1 w h0 hb1 hL hb2 hn hr
def aEz (w : World) (z0 z1 z2 z3 lim : Int) (LL : List (List Rule)) (e : Ending) (w' : World) : Prop :=
 (eH z0 z1 z2 z3 lim LL = false ∧ e = .returned (.tuple #[.pointer none, .int .i64 2]) ∧ Below w.heap.size w w') ∨
 (eH z0 z1 z2 z3 lim LL = true ∧ ∃ rb sb tb kb e0 g0 e1 g1 e2 g2 e3 g3 us, e = .returned (.tuple #[.pointer (some ⟨rb, 0, none⟩), .int .i64 0]) ∧ BankAt w' w.heap.size rb sb tb kb ⟨⟨e0, g0, bJ z0.toNat⟩, ⟨e1, g1, bJ z1.toNat⟩, ⟨e2, g2, bJ z2.toNat⟩, ⟨e3, g3, bJ z3.toNat⟩, lim⟩ LL us ∧ Below w.heap.size w w')
theorem rI {z0 z1 z2 z3 lim : Int} {LL : List (List Rule)} (h : eH z0 z1 z2 z3 lim LL = true) : (1 ≤ lim ∧ lim ≤ 4) ∧ LL.length ≤ 6 ∧ cE LL = true ∧ (0 ≤ z0 ∧ z0 ≤ 200) ∧ (0 ≤ z1 ∧ z1 ≤ 200) ∧ (0 ≤ z2 ∧ z2 ≤ 200) ∧ (0 ≤ z3 ∧ z3 ≤ 200) := by
 unfold eH szOk at h
 simp only [Bool.and_eq_true, decide_eq_true_eq] at h
 exact ⟨h.1.1, h.1.2.1, h.1.2.2, h.2.1.1.1, h.2.1.1.2, h.2.1.2, h.2.2⟩
theorem sF (z0 z1 z2 z3 lim : Int) (v : Value) (LL : List (List Rule)) (w : World) (h : bZ w v LL) (hn : LL.length ≤ 100000000) (hr : ∀ rs ∈ LL, rs.length ≤ 100000000) :
  Calls Tryz.prog 29 #[.agg #[.int .i64 z0, .int .i64 z1, .int .i64 z2, .int .i64 z3, .int .i64 lim, v]] w fun e w' => aEz w z0 z1 z2 z3 lim LL e w' := by
 cases hc : eH z0 z1 z2 z3 lim LL with
 | false =>
  refine (sE z0 z1 z2 z3 lim v LL w h hn hr hc).mono ?_
  rintro e w' ⟨rfl, hb⟩
  exact .inl ⟨hc, rfl, hb⟩
 | true =>
  obtain ⟨hl, h6, ho, ⟨a0, b0⟩, ⟨a1, b1⟩, ⟨a2, b2⟩, ⟨a3, b3⟩⟩ := rI hc
  obtain ⟨n0, rfl⟩ := Int.eq_ofNat_of_zero_le a0
  obtain ⟨n1, rfl⟩ := Int.eq_ofNat_of_zero_le a1
  obtain ⟨n2, rfl⟩ := Int.eq_ofNat_of_zero_le a2
  obtain ⟨n3, rfl⟩ := Int.eq_ofNat_of_zero_le a3
  refine (uY n0 n1 n2 n3 lim v LL w (by omega) (by omega) (by omega) (by omega) hl.1 hl.2 h h6 ho).mono ?_
  rintro e w' ⟨rb, sb, tb, kb, e0, g0, e1, g1, e2, g2, e3, g3, us, rfl, hB, hb⟩
  exact .inr ⟨hc, rb, sb, tb, kb, e0, g0, e1, g1, e2, g2, e3, g3, us, rfl, hB, hb⟩
theorem aEe : (Tryz.prog.info? 122).map (fun i => (i.zero, i.size, i.bytes)) = some (some (.agg #[.pointer none, .pointer none]), 2, 16) := by kernel_rfl
theorem BInv.made {w w7 : World} {B bw : Nat} {ps : List BP} {vp vb vi vp' : Value} {rb ri : List Rec} {p : BP} (h : BInv w B bw ps vp vb vi rb ri) (hp : p.Ok w B) (hn : ∀ k, p.turns k → (∀ q ∈ ps, ¬ q.turns k) ∧ ∀ r, (r ∈ rb ∨ r ∈ ri) → ¬ r.has k) (o : Obj) (hk : Kept (w.alloc o) w7 B vp vp' ps.length 1) (r : w7.ownsRow B 122 2 vp' (ps.length + 1) (ps.flatMap BP.cells ++ p.cells)) : BInv (w7.setCell ⟨bw, 2, none⟩ vp') B bw (ps ++ [p]) vp' vb vi rb ri ∧ Chg w (w7.setCell ⟨bw, 2, none⟩ vp') (fun k => k = bw ∨ vp.ownBlock = some k) := by
 have hbw := h.bw_lt
 have c7 : Chg w w7 (fun k => vp.ownBlock = some k) := (Chg.of_below (bL (Below.refl _ _) _) _).trans (gY hk) (fun _ e _ => e)
 have c : Chg w (w7.setCell ⟨bw, 2, none⟩ vp') (fun k => k = bw ∨ vp.ownBlock = some k) := (c7.mono (fun _ _ e => .inr e)).trans (Chg.set w7 bw 2 vp') (fun _ e _ => .inl e)
 have mv : hG w (fun k => k = bw ∨ vp.ownBlock = some k) := fun k e _ => by
  rcases e with rfl | e
  ·exact ⟨_, _, _, h.book.row, by decide⟩
  ·obtain ⟨cs, fr, q⟩ := bH h.rowP e
   exact ⟨_, _, _, q, by decide⟩
 have nrow : ∀ {k : Nat} {cs : Array Value} {T : TypeId} {fr : Nat × Nat}, w.heap[k]? = some (.cells cs T fr) → T ≠ 91 → T ≠ 122 → ¬ (k = bw ∨ vp.ownBlock = some k) := fun {k} {cs} {T} {fr} e n1 n2 d => by
  rcases d with rfl | d
  ·rw [h.book.row] at e
   cases e
   exact n1 rfl
  ·exact n2 (bV h.rowP e d).symm
 have nown : ∀ {B' n size : Nat} {T : TypeId} {v : Value} {xs : List Value}, w.ownsRow B' T size v n xs → T ≠ 91 → T ≠ 122 → ∀ k, v.ownBlock = some k → ¬ (k = bw ∨ vp.ownBlock = some k) := fun r n1 n2 k e => by
  obtain ⟨cs, fr, q⟩ := bH r e
  exact nrow q n1 n2
 have nt : ∀ q : BP, q.Ok w B → ∀ k, q.turns k → ¬ (k = bw ∨ vp.ownBlock = some k) := fun q hq k e => by
  obtain ⟨cs, T, fr, hh, _, hT⟩ := hq.row e
  exact nrow hh (by rcases hT with rfl | rfl <;> decide) (by rcases hT with rfl | rfl <;> decide)
 have nr : ∀ r, (r ∈ rb ∨ r ∈ ri) → ∀ k, r.has k → ¬ (k = bw ∨ vp.ownBlock = some k) := fun r m k e d => d.elim (h.book.sep r m k e).2.2.1 (h.recs r m k e).2
 have row7 : w7.heap[bw]? = some (.cells (gP (.slice none 0 0) (.slice none 0 0) vp vb vi) 91 (0, 0)) := (c7.block bw hbw (fun e => absurd (bV h.rowP h.book.row e) (by decide))).trans h.book.row
 have nbw : vp'.ownBlock ≠ some bw := fun e => absurd (bV r row7 e) (by decide)
 have hvp : ∀ k, vp'.ownBlock = some k → vp.ownBlock = some k ∨ w.heap.size ≤ k := fun k e => by
  rcases hk with ⟨g, cap, e1, e2, _⟩ | ⟨⟨j, hj, q⟩, _⟩
  ·left
   rw [e1]
   rw [e2] at e
   exact e
  ·right
   have : j = k := by have := q.symm.trans e; simpa using this
   simp at hj
   omega
 refine ⟨⟨⟨?_, ?_, ?_, ?_, ?_, ?_⟩, ?_, ?_, ?_, ?_, ?_, h.pos⟩, c⟩
 ·have := heap_setCell_same w7 bw 2 _ 91 vp' row7
  simpa [gP] using this
 ·exact aJ h.book.rowB fun i _ l e => c.block i l (nown h.book.rowB (by decide) (by decide) i e)
 ·exact aJ h.book.rowI fun i _ l e => c.block i l (nown h.book.rowI (by decide) (by decide) i e)
 ·intro r m
  refine (h.book.okB r m).kept c.size fun u hu i l q => c.block i l (nr r (.inl m) i ?_)
  rcases hu with rfl | rfl | rfl | rfl <;> simp [Rec.has, q]
 ·intro r m
  refine (h.book.okI r m).kept c.size fun u hu i l q => c.block i l (nr r (.inr m) i ?_)
  rcases hu with rfl | rfl | rfl | rfl <;> simp [Rec.has, q]
 ·intro r m k e
  have q := h.book.sep r m k e
  have z := c.size
  exact ⟨q.1, by omega, q.2.2⟩
 ·have : (ps ++ [p]).flatMap BP.cells = ps.flatMap BP.cells ++ p.cells := by simp
  rw [this, List.length_append]
  exact aJ r fun i _ l e => heap_setCell_other _ _ _ _ (fun q => nbw (by rw [e]; exact congrArg some q))
 ·intro q m
  rcases List.mem_append.1 m with m | m
  ·exact (h.ok q m).keep c mv (nt q (h.ok q m))
  ·rw [List.mem_singleton.1 m]
   exact hp.keep c mv (nt p hp)
 ·intro i j q q' hi hj n k e e'
  have at_ : ∀ (i : Nat) q, (ps ++ [p])[i]? = some q → ps[i]? = some q ∨ (q = p ∧ i = ps.length) := fun i q e => by
   by_cases hl : i < ps.length
   ·rw [List.getElem?_append_left hl] at e
    exact .inl e
   ·have h1 := (List.getElem?_eq_some_iff.1 e).1
    simp at h1
    have : i = ps.length := by omega
    subst this
    rw [List.getElem?_append_right (Nat.le_refl _), Nat.sub_self] at e
    cases e
    exact .inr ⟨rfl, rfl⟩
  rcases at_ i q hi with a | ⟨rfl, a⟩ <;> rcases at_ j q' hj with b | ⟨rfl, b⟩
  ·exact h.sep i j q q' a b n k e e'
  ·exact (hn k e').1 q (List.mem_of_getElem? a) e
  ·exact (hn k e).1 q' (List.mem_of_getElem? b) e'
  ·exact n (a.trans b.symm)
 ·intro r m k e
  refine ⟨fun q mq t => ?_, fun t => ?_⟩
  ·rcases List.mem_append.1 mq with mq | mq
   ·exact (h.recs r m k e).1 q mq t
   ·rw [List.mem_singleton.1 mq] at t
    exact (hn k t).2 r m e
  ·rcases hvp k t with q | q
   ·exact (h.recs r m k e).2 q
   ·have := (h.book.sep r m k e).2.1
    omega
 ·refine tK h.err c (fun d => ?_)
  rcases d with q | q
  ·have e : w.cell? ⟨bw, 0, none⟩ = some (.iface 282 (.agg #[hdl 151])) := by
    rw [← q]
    exact h.err
   rw [cell_of_row _ _ 0 _ _ _ h.book.row] at e
   simp [gP] at e
  ·have := (World.ownsRow.lt h.rowP 0 q).1
   have := h.pos
   omega
theorem pN {w W W' : World} {D : Nat → Prop} (h : Below w.heap.size w W) (c : Chg W W' D) (hD : ∀ k, D k → w.heap.size ≤ k) : Below w.heap.size w W' :=
 ⟨c.os.trans h.os, c.tape.trans h.tape, c.output.trans h.output, Nat.le_trans h.size c.size, fun k p => (c.block k (Nat.lt_of_lt_of_le p h.size) (fun d => by have := hD k d; omega)).trans (h.block k p)⟩
theorem BankAt.weak {w : World} {B B' rb sb tb kb : Nat} {t : T4} {LL : List (List Rule)} {us : List Value} (h : BankAt w B rb sb tb kb t LL us) (hb : B' ≤ B) : BankAt w B' rb sb tb kb t LL us :=
 ⟨h.row, ⟨h.st.row, h.st.tabs.weak hb, h.st.cl.weak hb, Nat.le_trans hb h.st.lo⟩, Nat.le_trans hb h.lo⟩
theorem kX (n i : Nat) : ∀ x ∈ bJ n, 0 ≤ x ∧ x ≤ cT i := fun x hx => by
 have : x = 0 := List.eq_of_mem_replicate hx
 subst this
 unfold cT
 split <;> omega
theorem RulesOf.weak {w : World} {S S' : Nat} {rv : Value} {LL : List (List Rule)} {us : List Value} (h : RulesOf w S rv LL us) (hS : S' ≤ S) : RulesOf w S' rv LL us := ⟨fH h.row hS, fun i rs u e1 e2 => fH (h.at_ i rs u e1 e2) hS⟩
theorem aBm {w3 : World} {B1 rb sb tb kb e0 g0 e1 g1 e2 g2 e3 g3 yb N M : Nat} {L0 L1 L2 L3 : List Int} {lim : Int} {us ys : List Value} {LL : List (List Rule)} {s0 s1 s2 s3 rv : Value} (hB : BankAt w3 B1 rb sb tb kb ⟨⟨e0, g0, L0⟩, ⟨e1, g1, L1⟩, ⟨e2, g2, L2⟩, ⟨e3, g3, L3⟩, lim⟩ LL us) (h1 : N ≤ B1) (h2 : N ≤ M) (k : Nat) (hk : BP.turns ⟨rb, sb, tb, kb, ⟨⟨e0, g0, L0⟩, ⟨e1, g1, L1⟩, ⟨e2, g2, L2⟩, ⟨e3, g3, L3⟩, lim⟩, us, yb, s0, s1, s2, s3, rv, ⟨⟨0, M + 2, L0⟩, ⟨0, M + 3, L1⟩, ⟨0, M + 4, L2⟩, ⟨0, M + 5, L3⟩, lim⟩, ys, LL⟩ k) : N ≤ k := by
 have lo := hB.st.tabs.lo
 rcases hk with rfl | ⟨i, hi, rfl | rfl⟩
 ·exact Nat.le_trans h1 hB.st.lo
 ·have hk : i = 0 ∨ i = 1 ∨ i = 2 ∨ i = 3 := by omega
  rcases hk with rfl | rfl | rfl | rfl
  ·exact Nat.le_trans h1 lo.2.2.2.2.2.1
  ·exact Nat.le_trans h1 lo.2.2.2.2.2.2.1
  ·exact Nat.le_trans h1 lo.2.2.2.2.2.2.2.1
  ·exact Nat.le_trans h1 lo.2.2.2.2.2.2.2.2
 ·have hk : i = 0 ∨ i = 1 ∨ i = 2 ∨ i = 3 := by omega
  rcases hk with rfl | rfl | rfl | rfl
  ·show N ≤ M + 2; omega
  ·show N ≤ M + 3; omega
  ·show N ≤ M + 4; omega
  ·show N ≤ M + 5; omega
theorem aFn {LL : List (List Rule)} (h : cE LL = true) : ∀ rs ∈ LL, rs.length ≤ 8 := fun rs m => by
 have := List.all_eq_true.1 h rs m
 simp at this
 omega
theorem aG4 {w3 w4 w5 : World} {B B1 rb sb tb kb e0 g0 e1 g1 e2 g2 e3 g3 : Nat} {z0 z1 z2 z3 lim : Int} {us ys : List Value} {LL : List (List Rule)} {rv : Value} {D : Nat → Prop} (hcf : eH z0 z1 z2 z3 lim LL = true) (hB : BankAt w3 B1 rb sb tb kb ⟨⟨e0, g0, bJ z0.toNat⟩, ⟨e1, g1, bJ z1.toNat⟩, ⟨e2, g2, bJ z2.toNat⟩, ⟨e3, g3, bJ z3.toNat⟩, lim⟩ LL us) (c4 : Chg w3 w4 D) (hD : ∀ k, D k → k < B1)
  (hRef : RefAt w5 (w4.heap.size + 1) (.int .i64 z0) (.int .i64 z1) (.int .i64 z2) (.int .i64 z3) rv ⟨⟨0, w4.heap.size + 2, bJ z0.toNat⟩, ⟨0, w4.heap.size + 3, bJ z1.toNat⟩, ⟨0, w4.heap.size + 4, bJ z2.toNat⟩, ⟨0, w4.heap.size + 5, bJ z3.toNat⟩, lim⟩ LL) (hRul : RulesOf w5 (w4.heap.size + 6) rv LL ys) (hb5 : Below w4.heap.size w4 w5) (h1 : B ≤ B1) (h2 : B ≤ w4.heap.size) :
  BP.Ok w5 B ⟨rb, sb, tb, kb, ⟨⟨e0, g0, bJ z0.toNat⟩, ⟨e1, g1, bJ z1.toNat⟩, ⟨e2, g2, bJ z2.toNat⟩, ⟨e3, g3, bJ z3.toNat⟩, lim⟩, us, w4.heap.size + 1, .int .i64 z0, .int .i64 z1, .int .i64 z2, .int .i64 z3, rv, ⟨⟨0, w4.heap.size + 2, bJ z0.toNat⟩, ⟨0, w4.heap.size + 3, bJ z1.toNat⟩, ⟨0, w4.heap.size + 4, bJ z2.toNat⟩, ⟨0, w4.heap.size + 5, bJ z3.toNat⟩, lim⟩, ys, LL⟩ := by
 have hB4 : BankAt w4 B1 rb sb tb kb _ LL us := hB.keep c4 (fun k l d => by have := hD k d; omega)
 have cf := rI hcf
 have four : ∀ {P : Nat → Prop}, P 0 → P 1 → P 2 → P 3 → ∀ i, i < 4 → P i := fun p0 p1 p2 p3 i hi => by
  have hk : i = 0 ∨ i = 1 ∨ i = 2 ∨ i = 3 := by omega
  rcases hk with rfl | rfl | rfl | rfl <;> assumption
 have gl : ∀ i, i < 4 → ∃ d, (T4.at ⟨⟨0, w4.heap.size + 2, bJ z0.toNat⟩, ⟨0, w4.heap.size + 3, bJ z1.toNat⟩, ⟨0, w4.heap.size + 4, bJ z2.toNat⟩, ⟨0, w4.heap.size + 5, bJ z3.toNat⟩, lim⟩ i).g = w4.heap.size + d := four ⟨2, rfl⟩ ⟨3, rfl⟩ ⟨4, rfl⟩ ⟨5, rfl⟩
 refine ⟨(hB4.below hb5).weak h1, hRef, hRul.weak (by omega), fun i hi => ?_, four rfl rfl rfl rfl, four (kX _ _) (kX _ _) (kX _ _) (kX _ _), cf.2.1, aFn cf.2.2.1, fun i j hi hj e => ?_⟩
 ·obtain ⟨d, e⟩ := gl i hi
  show B ≤ (T4.at _ i).g
  rw [e]
  omega
 ·obtain ⟨d, e'⟩ := gl j hj
  have hl := (Array.getElem?_eq_some_iff.1 (hB4.tab i hi).2.1.ent).1
  have e2 : (T4.at ⟨⟨e0, g0, bJ z0.toNat⟩, ⟨e1, g1, bJ z1.toNat⟩, ⟨e2, g2, bJ z2.toNat⟩, ⟨e3, g3, bJ z3.toNat⟩, lim⟩ i).g = w4.heap.size + d := e.trans e'
  omega
def iY (w w' : World) (B bw : Nat) (ps : List BP) (vb vi : Value) (rb ri : List Rec) : Prop :=
 ∃ ps' vp', BInv w' B bw ps' vp' vb vi rb ri ∧ ps'.length ≤ ps.length + 1 ∧ Chg w w' (fun k => B ≤ k)
theorem aD8 (A Bq C Dq kd : Int) (ss : ByteArray) (l li : Value) (z0 z1 z2 z3 lim : Int) (a : Option Addr) (c : Nat) (LL : List (List Rule)) (B bw : Nat) (ps : List BP) (vp vb vi : Value) (rb ri : List Rec) (w : World) (h : BInv w B bw ps vp vb vi rb ri) (hB : B ≤ bw) (hl : bZ w (.slice a LL.length c) LL) (ha : a = none → c = 0) (hn : LL.length ≤ 100000000) (hr : ∀ rs ∈ LL, rs.length ≤ 100000000) (hps : ps.length ≤ 1000000000) :
  Calls Tryz.prog 57 #[.pointer (some ⟨bw, 0, none⟩), .agg #[.int .i64 kd, .int .i64 A, .int .i64 Bq, .int .i64 C, .int .i64 Dq, .string ss, l, .int .i64 z0, .int .i64 z1, .int .i64 z2, .int .i64 z3, .int .i64 lim, .slice a LL.length c, li]] w fun e w' => e = .returned (.bool true) ∧ iY w w' B bw ps vb vi rb ri := by
 obtain ⟨i0, hi, hz0, hz1, hz2⟩ := info_parts aEe
 obtain ⟨Wb, hWb⟩ : ∃ W, W = w.alloc (.cells #[.int .i64 kd, .int .i64 A, .int .i64 Bq, .int .i64 C, .int .i64 Dq, .string ss, l, .int .i64 z0, .int .i64 z1, .int .i64 z2, .int .i64 z3, .int .i64 lim, .slice a LL.length c, li] 95) := ⟨_, rfl⟩
 have hbb : Below w.heap.size w Wb := by rw [hWb]; exact bL (Below.refl _ _) _
 have rW : Wb.heap[w.heap.size]? = some (.cells #[.int .i64 kd, .int .i64 A, .int .i64 Bq, .int .i64 C, .int .i64 Dq, .string ss, l, .int .i64 z0, .int .i64 z1, .int .i64 z2, .int .i64 z3, .int .i64 lim, .slice a LL.length c, li] 95 (0, 0)) := by rw [hWb]; exact heap_alloc_new w _
 have zW : Wb.heap.size = w.heap.size + 1 := by rw [hWb]; simp
 have K : Hid (∀ W, Below Wb.heap.size Wb W → W.cell? ⟨w.heap.size, 7, none⟩ = some (.int .i64 z0) ∧ W.cell? ⟨w.heap.size, 8, none⟩ = some (.int .i64 z1) ∧ W.cell? ⟨w.heap.size, 9, none⟩ = some (.int .i64 z2) ∧ W.cell? ⟨w.heap.size, 10, none⟩ = some (.int .i64 z3) ∧ W.cell? ⟨w.heap.size, 11, none⟩ = some (.int .i64 lim) ∧ W.cell? ⟨w.heap.size, 12, none⟩ = some (.slice a LL.length c)) := fun W hW => by
  have r := (hW.block w.heap.size (by omega)).trans rW
  exact ⟨cell_of_row _ _ 7 _ _ _ r, cell_of_row _ _ 8 _ _ _ r, cell_of_row _ _ 9 _ _ _ r, cell_of_row _ _ 10 _ _ _ r, cell_of_row _ _ 11 _ _ _ r, cell_of_row _ _ 12 _ _ _ r⟩
 have H := hide h
 have HL := hide (hl.below hbb)
 have HBb := hide hbb
 have HR := hide hr
 clear h hl hr hbb rW
 obtain ⟨q7, q8, q9, q10, q11, q12⟩ := aA K Wb (Below.refl _ _)
 go_enter Tryz.func57, Tryz.ntmps57
 go_upto_region 1 with fail
 rw [← hWb]
 clear hWb
 have HLC := hide (pA z0 z1 z2 z3 lim a c LL Wb (aA HL) ha hn (aA HR))
 go_wp2_with fail
 refine (aA HLC).mono ?_
 rintro e w1 ⟨v, rfl, hN, hb1⟩
 have HN := hide hN
 have HB1 := hide hb1
 obtain ⟨va, vn, vc, rfl⟩ : ∃ x n c, v = .slice x n c := by
  obtain ⟨x, cc, e, _⟩ := hN.lists
  exact ⟨x, _, cc, e⟩
 clear hN hb1 HLC
 go_upto_region 2 with fail
 have rC := heap_alloc_new w1 (.cells #[.int .i64 z0, .int .i64 z1, .int .i64 z2, .int .i64 z3, .int .i64 lim, .slice va vn vc] 58)
 have hbA : Below w1.heap.size w1 (w1.alloc (.cells #[.int .i64 z0, .int .i64 z1, .int .i64 z2, .int .i64 z3, .int .i64 lim, .slice va vn vc] 58)) := bL (Below.refl _ _) _
 obtain ⟨W2, hW2⟩ : ∃ W, W = w1.alloc (.cells #[.int .i64 z0, .int .i64 z1, .int .i64 z2, .int .i64 z3, .int .i64 lim, .slice va vn vc] 58) := ⟨_, rfl⟩
 rw [← hW2] at rC hbA ⊢
 have zW2 : W2.heap.size = w1.heap.size + 1 := by rw [hW2]; simp
 clear hW2 q7 q8 q9 q10 q11 q12
 have HBA := hide hbA
 have K2 : Hid (∀ W, Below W2.heap.size W2 W → W.cell? ⟨w1.heap.size, 0, none⟩ = some (.int .i64 z0) ∧ W.cell? ⟨w1.heap.size, 1, none⟩ = some (.int .i64 z1) ∧ W.cell? ⟨w1.heap.size, 2, none⟩ = some (.int .i64 z2) ∧ W.cell? ⟨w1.heap.size, 3, none⟩ = some (.int .i64 z3) ∧ W.cell? ⟨w1.heap.size, 4, none⟩ = some (.int .i64 lim) ∧ W.cell? ⟨w1.heap.size, 5, none⟩ = some (.slice va vn vc)) := fun W hW => by
  have r := (hW.block w1.heap.size (by omega)).trans rC
  exact ⟨cell_of_row _ _ 0 _ _ _ r, cell_of_row _ _ 1 _ _ _ r, cell_of_row _ _ 2 _ _ _ r, cell_of_row _ _ 3 _ _ _ r, cell_of_row _ _ 4 _ _ _ r, cell_of_row _ _ 5 _ _ _ r⟩
 have HPN := hide (sF z0 z1 z2 z3 lim (.slice va vn vc) LL W2 ((aA HN).lists.below hbA) hn (aA HR))
 clear rC hbA
 obtain ⟨p0, p1, p2, p3, p4, p5⟩ := aA K2 W2 (Below.refl _ _)
 go_wp2_with fail
 refine (aA HPN).mono ?_
 rintro e w3 hP
 clear HPN p0 p1 p2 p3 p4 p5
 rcases hP with ⟨hcf, rfl, hb3⟩ | ⟨hcf, rb', sb, tb, kb, e0, g0, e1, g1, e2, g2, e3, g3, us', rfl, hBk, hb3⟩
 ·have HCF := hide hcf
  have HB3 := hide hb3
  have hb13 := aD (aA HBA) hb3
  have HBC := hide (kF z0 z1 z2 z3 lim z0 z1 z2 z3 lim (.slice va vn vc) a c LL Wb w1 w3 (aA HL) ha (aA HB1) (aA HN) hb13 hn (aA HR))
  have HB03 := hide (aD (aA HB1) hb13)
  obtain ⟨p0, p1, p2, p3, p4, p5⟩ := aA K2 w3 hb3
  obtain ⟨q7, q8, q9, q10, q11, q12⟩ := aA K w3 (aA HB03)
  clear hb3 hcf hb13
  go_wp2_with fail
  refine (aA HBC).mono ?_
  rintro e w4 ⟨rfl, c4⟩
  have hb4 : Below Wb.heap.size Wb w4 := pN (aA HB03) c4 (fun k e => e.1)
  have HB4 := hide hb4
  have HC4 := hide c4
  have HRN := hide (uV z0 z1 z2 z3 lim (.slice a LL.length c) LL w4 ((aA HL).below hb4) hn (aA HR))
  clear p0 p1 p2 p3 p4 p5 q7 q8 q9 q10 q11 q12 HBC c4 hb4
  obtain ⟨q7, q8, q9, q10, q11, q12⟩ := aA K w4 (aA HB4)
  go_wp2_with fail
  refine (aA HRN).mono ?_
  rintro e w5 hQ
  clear HRN q7 q8 q9 q10 q11 q12
  rcases hQ with ⟨_, rfl, hb5⟩ | ⟨hcf, _⟩
  ·have HE : Hid (iY w w5 B bw ps vb vi rb ri) := by
    have hb := aD (aD (aA HBb) (aA HB4)) hb5
    exact ⟨ps, vp, (aA H).below hb, by omega, Chg.of_below hb _⟩
   clear hb5
   go_wp2
   go_ret
   exact ⟨rfl, aA HE⟩
  ·rw [aA HCF] at hcf
   cases hcf
 ·have HCF := hide hcf
  have HB3 := hide hb3
  have HBK := hide hBk
  clear hBk
  have hb13 := aD (aA HBA) hb3
  have HBC := hide (kF z0 z1 z2 z3 lim z0 z1 z2 z3 lim (.slice va vn vc) a c LL Wb w1 w3 (aA HL) ha (aA HB1) (aA HN) hb13 hn (aA HR))
  have HB03 := hide (aD (aA HB1) hb13)
  obtain ⟨p0, p1, p2, p3, p4, p5⟩ := aA K2 w3 hb3
  obtain ⟨q7, q8, q9, q10, q11, q12⟩ := aA K w3 (aA HB03)
  clear hb3 hcf hb13
  go_wp2_with fail
  refine (aA HBC).mono ?_
  rintro e w4 ⟨rfl, c4⟩
  have hb4 : Below Wb.heap.size Wb w4 := pN (aA HB03) c4 (fun k e => e.1)
  have HB4 := hide hb4
  have HC4 := hide c4
  have HRN := hide (uV z0 z1 z2 z3 lim (.slice a LL.length c) LL w4 ((aA HL).below hb4) hn (aA HR))
  clear p0 p1 p2 p3 p4 p5 q7 q8 q9 q10 q11 q12 HBC c4 hb4
  obtain ⟨q7, q8, q9, q10, q11, q12⟩ := aA K w4 (aA HB4)
  go_wp2_with fail
  refine (aA HRN).mono ?_
  rintro e w5 hQ
  clear HRN q7 q8 q9 q10 q11 q12
  rcases hQ with ⟨hcf, _⟩ | ⟨_, rfl, rv, ys, hRef, hRul, hb5⟩
  ·rw [aA HCF] at hcf
   cases hcf
  ·obtain ⟨p, hp⟩ : ∃ p : BP, p = ⟨rb', sb, tb, kb, ⟨⟨e0, g0, bJ z0.toNat⟩, ⟨e1, g1, bJ z1.toNat⟩, ⟨e2, g2, bJ z2.toNat⟩, ⟨e3, g3, bJ z3.toNat⟩, lim⟩, us', w4.heap.size + 1, .int .i64 z0, .int .i64 z1, .int .i64 z2, .int .i64 z3, rv, ⟨⟨0, w4.heap.size + 2, bJ z0.toNat⟩, ⟨0, w4.heap.size + 3, bJ z1.toNat⟩, ⟨0, w4.heap.size + 4, bJ z2.toNat⟩, ⟨0, w4.heap.size + 5, bJ z3.toNat⟩, lim⟩, ys, LL⟩ := ⟨_, rfl⟩
   have hb := aD (aD (aA HBb) (aA HB4)) hb5
   have hI5 := (aA H).below hb
   have z1' := (aA HB1).size
   have zA := (aA HBA).size
   have z3' := (aA HB3).size
   have z4 := (aA HC4).size
   have hBw : B ≤ w.heap.size := by have := (aA H).bw_lt; omega
   have hok : p.Ok w5 B := by
    subst hp
    exact aG4 (aA HCF) (aA HBK) (aA HC4) (fun k e => by omega) hRef hRul hb5 (by omega) (by omega)
   have hnew : ∀ k, p.turns k → w.heap.size ≤ k := by
    subst hp
    exact fun k e => aBm (aA HBK) (by omega) (by omega) k e
   have hdis : ∀ k, p.turns k → (∀ q ∈ ps, ¬ q.turns k) ∧ ∀ r, (r ∈ rb ∨ r ∈ ri) → ¬ r.has k := fun k e => by
    have hN := hnew k e
    have U := (aA H).under
    exact ⟨fun q m t => by have := U.1 q m k t; omega, fun r m t => by have := U.2.1 r m k t; omega⟩
   have hpc : p.cells = [.pointer (some ⟨rb', 0, none⟩), .pointer (some ⟨w4.heap.size + 1, 0, none⟩)] := by rw [hp]; rfl
   have HM : Hid (∀ vp' w7, Kept (w5.alloc (.cells #[.pointer (some ⟨rb', 0, none⟩), .pointer (some ⟨w4.heap.size + 1, 0, none⟩)] 122)) w7 B vp vp' ps.length 1 → w7.ownsRow B 122 2 vp' (ps.length + 1) (ps.flatMap BP.cells ++ [.pointer (some ⟨rb', 0, none⟩), .pointer (some ⟨w4.heap.size + 1, 0, none⟩)]) → iY w (w7.setCell ⟨bw, 2, none⟩ vp') B bw ps vb vi rb ri ∧ w7.cell? ⟨bw, 2, none⟩ = some vp ∧ w7.frozen? ⟨bw, 2, none⟩ = false) := fun vp' w7 k7 r7 => by
    rw [← hpc] at r7
    obtain ⟨hI, hC⟩ := hI5.made hok hdis _ k7 r7
    have row7 : w7.heap[bw]? = _ := ((gY k7).block bw (by have := hI5.bw_lt; simp; omega) (fun e => absurd (bV hI5.rowP hI5.book.row e) (by decide))).trans ((Below.heap_alloc _ _ _ hI5.bw_lt).trans hI5.book.row)
    refine ⟨⟨_, _, hI, by simp, (Chg.of_below hb _).trans hC (fun k e _ => ?_)⟩, (cell_of_row _ _ 2 _ _ _ row7).trans rfl, frozen_of_row _ _ 2 _ _ row7⟩
    rcases e with e | e
    ·rw [e]
     exact hB
    ·exact (World.ownsRow.lt hI5.rowP k e).1
   have HRP := hide hI5.rowP
   have hp2 := cell_of_row _ _ 2 _ _ _ hI5.book.row
   simp [gP] at hp2
   have hB5 : B ≤ w5.heap.size := by have := hb5.size; omega
   obtain ⟨pa, pn, pc, rfl⟩ := aP hI5.rowP
   clear hI5 hok hnew hdis hpc hb hRef hRul hb5 z1' zA z3' z4 hBw HBK HB3 HC4 HB4 HB03
   generalize ps.flatMap BP.cells = PC at HM HRP
   go_wp2_with (at_builtin; (refine aT _ rfl (.tmp 49) (.tmp 53) 83 rfl B 122 i0 (.agg #[.pointer none, .pointer none]) 2 16 Tryz.underlying83 hi hz0 hz1 hz2 rfl (by decide) _ ps.length PC rfl (World.ownsRow.alloc (aA HRP) _) ⟨w5.heap.size, 0, none⟩ 1 1 [.pointer (some ⟨rb', 0, none⟩), .pointer (some ⟨w4.heap.size + 1, 0, none⟩)] rfl rfl (eE _ #[.pointer (some ⟨rb', 0, none⟩), .pointer (some ⟨w4.heap.size + 1, 0, none⟩)] 122) (by simp [Value.oneCell']) (by decide) (by unfold maxLen; omega) (by omega) (by simp; omega) ?_))
   intro v7 w7 r7 k7
   obtain ⟨hE, d2, f2⟩ := aA HM v7 w7 k7 r7
   have HE := hide hE
   obtain ⟨a7, n7, c7, rfl⟩ := aP r7
   clear r7 k7 HM hE HRP hp2
   go_wp2
   go_ret
   exact ⟨rfl, aA HE⟩
end Go.Proofs.YtfekelmldebplaaGreatDoor
