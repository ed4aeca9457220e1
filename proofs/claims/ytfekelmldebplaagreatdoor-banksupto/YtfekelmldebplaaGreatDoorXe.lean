import Derived.Test.YtfekelmldebplaaGreatDoorUl
import Derived.Test.YtfekelmldebplaaGreatDoorBb
import Derived.Test.YtfekelmldebplaaGreatDoorTi
import Derived.Test.YtfekelmldebplaaGreatDoorLd
import Derived.Test.YtfekelmldebplaaGreatDoorLl
import Derived.Test.YtfekelmldebplaaGreatDoorJo
import Derived.Test.YtfekelmldebplaaGreatDoorUc
set_option maxRecDepth 100000
set_option maxHeartbeats 8000000
namespace Go.Proofs.YtfekelmldebplaaGreatDoor
open Go.RowKit
theorem sS (w : World) (e g : Nat) (T : TypeId) (hi : Int) (L : List Int) (a c : Nat) (h : TabAt w e g T hi L) (hac : a + c ≤ L.length) (hL : ∀ x ∈ L, x = 0 ∨ x = 1) :
  Calls Tryz.prog 262 #[.pointer (some ⟨e, 0, none⟩), .int .i64 a, .int .i64 c] w fun r w' => ∃ v, r = .returned v ∧ Owns w' w.heap.size v (iD (bM L a c)) ∧ Below w.heap.size w w' := by
 have HG := hide (jT w e g T hi L a c h hac)
 have hlen := h.len
 have HP : Hid (∀ w1 k, w1.heap[k]? = some (.cells (((L.drop a).take c).map (Value.int .i64)).toArray 3 (0, 0)) → Calls Tryz.prog 264 #[.slice (some ⟨k, 0, none⟩) c c] w1 fun r w' => ∃ v', r = .returned v' ∧ Owns w' w1.heap.size v' (iD (bM L a c)) ∧ Below w1.heap.size w1 w') := fun w1 k hk => by
  have hl : ((L.drop a).take c).length = c := by simp; omega
  have q := eJ hk 0 c c (by omega)
  rw [List.drop_zero, List.take_of_length_le (by omega)] at q
  exact tQ _ _ w1 q (fun x hx => hL x (List.mem_of_mem_drop (List.mem_of_mem_take hx))) (by unfold bM; omega)
 clear h hL
 go_enter Tryz.func262, Tryz.ntmps262
 go_wp2_with fail
 refine (aA HG).mono ?_
 rintro r w1 ⟨k, rfl, hk, hr, hb⟩
 have HP1 := hide (aA HP w1 k hr)
 clear HP HG hr
 go_wp2_with fail
 refine (aA HP1).mono ?_
 rintro r w2 ⟨v', rfl, ho, hb2⟩
 have HO := hide ho
 have hz := hb.size
 obtain ⟨a', n', c', rfl⟩ := aP ho
 clear ho HP1
 go_wp2
 go_ret
 exact ⟨_, rfl, (aA HO).weak hz, aD hb hb2⟩
theorem pX (w : World) (e g : Nat) (T : TypeId) (hi : Int) (L : List Int) (a c : Nat) (h : TabAt w e g T hi L) (hac : a + c ≤ L.length) (hL : ∀ x ∈ L, 0 ≤ x ∧ x ≤ 65535) :
  Calls Tryz.prog 265 #[.pointer (some ⟨e, 0, none⟩), .int .i64 a, .int .i64 c] w fun r w' => ∃ v, r = .returned v ∧ Owns w' w.heap.size v (dH (bM L a c)) ∧ Below w.heap.size w w' := by
 have HG := hide (jT w e g T hi L a c h hac)
 have hlen := h.len
 have HP : Hid (∀ w1 k, w1.heap[k]? = some (.cells (((L.drop a).take c).map (Value.int .i64)).toArray 3 (0, 0)) → Calls Tryz.prog 266 #[.slice (some ⟨k, 0, none⟩) c c] w1 fun r w' => ∃ v', r = .returned v' ∧ Owns w' w1.heap.size v' (dH (bM L a c)) ∧ Below w1.heap.size w1 w') := fun w1 k hk => by
  have hl : ((L.drop a).take c).length = c := by simp; omega
  have q := eJ hk 0 c c (by omega)
  rw [List.drop_zero, List.take_of_length_le (by omega)] at q
  exact pV _ _ w1 q (fun x hx => hL x (List.mem_of_mem_drop (List.mem_of_mem_take hx))) (by unfold bM; omega)
 clear h hL
 go_enter Tryz.func265, Tryz.ntmps265
 go_wp2_with fail
 refine (aA HG).mono ?_
 rintro r w1 ⟨k, rfl, hk, hr, hb⟩
 have HP1 := hide (aA HP w1 k hr)
 clear HP HG hr
 go_wp2_with fail
 refine (aA HP1).mono ?_
 rintro r w2 ⟨v', rfl, ho, hb2⟩
 have HO := hide ho
 have hz := hb.size
 obtain ⟨a', n', c', rfl⟩ := aP ho
 clear ho HP1
 go_wp2
 go_ret
 exact ⟨_, rfl, (aA HO).weak hz, aD hb hb2⟩
theorem mT (q : Req) (av : Option Addr) (cv : Nat) (ve : Value) (go : Nat) (old : List Int) (w : World) (hv : cB w (.slice av q.vals.length cv) q.vals) (hr : w.heap[go]? = some (.cells (old.map (Value.int .i64)).toArray 3 (0, 0))) (hl : q.vals.length = old.length) (hn : old.length ≤ 2000) :
  Calls Tryz.prog 192 #[.agg (rrow q.f q.t q.ra q.rc q.wa q.wc (.slice av q.vals.length cv) q.keep ve), .slice (some ⟨go, 0, none⟩) old.length old.length] w fun e w' => ∃ g, e = .returned (.slice (some ⟨g, 0, none⟩) old.length old.length) ∧ w.heap.size ≤ g ∧ w'.heap[g]? = some (.cells ((cU old q.vals q.keep).map (Value.int .i64)).toArray 3 (0, 0)) ∧ Below w.heap.size w w' := by
 have hmk := oY old.length (by omega)
 unfold rrow
 obtain ⟨A, hA⟩ : ∃ A : Obj, A = .cells #[.int .u8 q.f, .int .i64 q.t, .int .i64 q.ra, .int .i64 q.rc, .int .i64 q.wa, .int .i64 q.wc, .slice av q.vals.length cv, .int .i64 q.keep, ve] 273 := ⟨_, rfl⟩
 have HBA := hide (aZ w A)
 have HRA : Hid ((w.alloc A).heap[w.heap.size]? = some A) := heap_alloc_new w A
 have HR0 : Hid (((w.alloc A).alloc (.cells ((List.replicate old.length (0 : Int)).map (Value.int .i64)).toArray 3)).heap[w.heap.size + 1]? = some (.cells (((List.range 0).map (fun i => jF (q.keep : Int) (old.getD i 0) (q.vals.getD i 0)) ++ List.replicate (old.length - 0) 0).map (Value.int .i64)).toArray 3 (0, 0))) := by
  have := heap_alloc_new (w.alloc A) (.cells ((List.replicate old.length (0 : Int)).map (Value.int .i64)).toArray 3)
  simp only [World.size_alloc] at this
  exact this
 have HB0 : Hid (Below (w.alloc A).heap.size (w.alloc A) ((w.alloc A).alloc (.cells ((List.replicate old.length (0 : Int)).map (Value.int .i64)).toArray 3))) := aZ _ _
 generalize (List.replicate old.length (0 : Int)).map (Value.int .i64) = Z at hmk HR0 HB0
 have HV := hide hv
 have HRo := hide hr
 have hgo := (Array.getElem?_eq_some_iff.1 hr).1
 have HLN := hide hl
 clear hv hr hl
 subst hA
 go_enter Tryz.func192, Tryz.ntmps192
 go_wp2
 go_loopw [12] (fun i wr => ∃ k : Nat, k ≤ old.length ∧ i = .int .i64 k ∧ Hid (wr.heap[w.heap.size + 1]? = some (.cells (((List.range k).map (fun i => jF (q.keep : Int) (old.getD i 0) (q.vals.getD i 0)) ++ List.replicate (old.length - k) 0).map (Value.int .i64)).toArray 3 (0, 0))) ∧ Hid (Below (w.heap.size + 1) (w.alloc (.cells #[.int .u8 q.f, .int .i64 q.t, .int .i64 q.ra, .int .i64 q.rc, .int .i64 q.wa, .int .i64 q.wc, .slice av q.vals.length cv, .int .i64 q.keep, ve] 273)) wr)) (fun i _ => old.length - (intOf i).toNat)
 case atStart => exact ⟨0, by omega, rfl, HR0, by have := aA HB0; simp only [World.size_alloc] at this; exact this⟩
 case round =>
  obtain ⟨k, hk, rfl, HR, HB⟩ := hrel
  by_cases hlt : k < old.length
  ·have hvne : q.vals ≠ [] := fun e => by have hl := aA HLN; rw [e] at hl; simp at hl; omega
   obtain ⟨av', cv', e1, hx⟩ := aA HV
   cases e1
   obtain ⟨b, o, rfl, hbl, hcc⟩ := hx.resolve_left hvne
   have hb1 : Below w.heap.size w wr := (aA HBA).trans ((aA HB).mono (by simp))
   have ck := (hb1.cell (by exact hbl)).trans (hcc k (by have hl := aA HLN; omega))
   have co := (hb1.cell (by exact hgo)).trans (dP (aA HRo) k hlt)
   have rA := ((aA HB).block w.heap.size (by omega)).trans (aA HRA)
   have a6 := cell_of_row _ _ 6 _ _ _ rA
   have a7 := cell_of_row _ _ 7 _ _ _ rA
   simp at a6 a7
   have HE : Hid ((fun i => jF (q.keep : Int) (old.getD i 0) (q.vals.getD i 0)) k = bits BinOp.or IntKind.i64 (bits BinOp.and IntKind.i64 (old.getD k 0) (q.keep : Int)) (bits BinOp.andNot IntKind.i64 (q.vals.getD k 0) (q.keep : Int))) := rfl
   generalize old.getD k 0 = x0 at co HE
   generalize q.vals.getD k 0 = x1 at ck HE
   have qz : ∃ z, wr.cell? ⟨w.heap.size + 1, k, none⟩ = some (.int .i64 z) := ⟨_, dP (aA HR) k (by simp; omega)⟩
   obtain ⟨z, qz⟩ := qz
   have f := frozen_of_row _ _ k _ _ (aA HR)
   have hk4 : (k : Int) < (old.length : Int) := by omega
   have hk5 : (k : Int) < (q.vals.length : Int) := by have hl := aA HLN; omega
   have HS := hide (jN (q := k) (x := (fun i => jF (q.keep : Int) (old.getD i 0) (q.vals.getD i 0)) k) (aA HR))
   rw [kT (fun i => jF (q.keep : Int) (old.getD i 0) (q.vals.getD i 0)) old.length k hlt, aA HE] at HS
   have HS2 : Hid (Below (w.heap.size + 1) (w.alloc (.cells #[.int .u8 q.f, .int .i64 q.t, .int .i64 q.ra, .int .i64 q.rc, .int .i64 q.wa, .int .i64 q.wc, .slice (some ⟨b, o, none⟩) q.vals.length cv, .int .i64 q.keep, ve] 273)) (wr.setCell ⟨w.heap.size + 1, k, none⟩ (.int .i64 (bits BinOp.or IntKind.i64 (bits BinOp.and IntKind.i64 x0 (q.keep : Int)) (bits BinOp.andNot IntKind.i64 x1 (q.keep : Int)))))) :=
    ⟨(aA HB).os, (aA HB).tape, (aA HB).output, by have := (aA HB).size; simpa [World.setCell] using this, fun j p => (heap_setCell_other _ _ _ _ (fun e => by have : j = w.heap.size + 1 := e; omega)).trans ((aA HB).block j p)⟩
   clear hcc rA hx HE
   go_wp2
   go_region
   go_wp2
   go_roundw
   case rel => exact ⟨k + 1, by omega, by go_num, aA HS, (aA HS2).drew⟩
   case measure => simp [intOf]; omega
  ·obtain rfl : k = old.length := by omega
   have HF : Hid (Below w.heap.size w wr) := (aA HBA).trans ((aA HB).mono (by simp))
   go_wp2
   go_ret
   refine ⟨_, rfl, by omega, ?_, aA HF⟩
   have := aA HR
   rw [mM] at this
   exact this
structure Req.Ok2 (q : Req) : Prop where
 rw : 1 < q.t → q.rc ≤ 125
 rd : q.echo = [] → 1 ≤ q.rc
theorem uG (bs : List Int) (h : 4 ≤ bs.length) : bs.take 4 ≠ [] := fun e => by
 have := congrArg List.length e
 rw [List.length_take, List.length_nil] at this
 omega
theorem xJ (f : Int) (bs : List Int) (q : Req) (e : aO f bs = .inr q) : q.Ok2 := by
 have rd : ∀ t m, (1 < t → m ≤ 125) → aW f bs t m = .inr q → q.Ok2 := fun t m hm e => by
  unfold aW at e
  split at e
  ·rename_i hc
   have hc2 := hc.2
   simp [bS] at hc2
   cases e
   exact ⟨fun h => by have := hm h; simp; omega, fun _ => by simp; omega⟩
  ·cases e
 unfold aO at e
 split at e
 ·exact rd _ _ (by omega) e
 split at e
 ·exact rd _ _ (by omega) e
 split at e
 ·exact rd _ _ (by omega) e
 split at e
 ·exact rd _ _ (by omega) e
 split at e
 ·unfold dK at e
  split at e
  ·rename_i hc
   cases e
   exact ⟨by simp, fun h => by simp at h; rw [h] at hc; simp at hc⟩
  ·cases e
 split at e
 ·unfold eD at e
  split at e
  ·rename_i hc
   cases e
   exact ⟨by simp, fun h => by simp at h; rw [h] at hc; simp at hc⟩
  ·cases e
 split at e
 ·unfold eQ at e
  split at e
  ·rename_i hc
   cases e
   exact ⟨by simp, fun h => absurd h (uG bs hc.1)⟩
  ·cases e
 split at e
 ·unfold eP at e
  split at e
  ·rename_i hc
   cases e
   exact ⟨by simp, fun h => absurd h (uG bs hc.1)⟩
  ·cases e
 split at e
 ·unfold dE at e
  split at e
  ·cases e
   exact ⟨by simp, by simp⟩
  ·cases e
 split at e
 ·unfold cM at e
  split at e
  ·rename_i hc
   have hc1 := hc.2.1
   simp [bS] at hc1
   cases e
   exact ⟨by simp; omega, by simp; omega⟩
  ·cases e
 ·cases e
def cT (t : Nat) : Int := if t ≤ 1 then 1 else 65535
theorem uB (old : List Int) (q : Req) (hq : q.Ok) (ho : ∀ x ∈ old, 0 ≤ x ∧ x ≤ cT q.t) (hl : old.length = q.wc) : ∀ x ∈ cU old q.vals q.keep, 0 ≤ x ∧ x ≤ cT q.t := by
 intro x hx
 obtain ⟨i, hi, rfl⟩ := List.mem_map.1 hx
 have hi' := List.mem_range.1 hi
 have hiv : i < q.vals.length := by rw [hq.len]; omega
 have o1 := ho (old.getD i 0) (by simp [List.getD, List.getElem?_eq_getElem hi'])
 have v1 : 0 ≤ q.vals.getD i 0 ∧ q.vals.getD i 0 ≤ cT q.t := by
  have := hq.vals (q.vals.getD i 0) (by simp [List.getD, List.getElem?_eq_getElem hiv])
  unfold cT
  exact this
 have top : cT q.t ≤ 65535 := by unfold cT; split <;> omega
 by_cases ht : q.t ≤ 1
 ·rw [hq.bit ht]
  have := oX (old.getD i 0) (q.vals.getD i 0) ⟨o1.1, by omega⟩ ⟨v1.1, by omega⟩
  rw [show (((0 : Nat) : Int)) = 0 from rfl, this]
  exact v1
 ·have hk := hq.keep
  have := aD7 (q.keep : Int) (old.getD i 0) (q.vals.getD i 0) ⟨by omega, by omega⟩ ⟨o1.1, by omega⟩ ⟨v1.1, by omega⟩
  unfold cT
  rw [if_neg ht]
  exact this
theorem fX (L : List Int) (a n : Nat) (h : a + n ≤ L.length) : (bM L a n).length = n := by simp [bM]; omega
theorem uM {L : List Int} {a n : Nat} {x : Int} (h : x ∈ bM L a n) : x ∈ L := List.mem_of_mem_drop (List.mem_of_mem_take h)
theorem mQ (L : List Int) (q : Req) (hq : q.Ok) (ho : ∀ x ∈ L, 0 ≤ x ∧ x ≤ cT q.t) (hw : q.wa + q.wc ≤ L.length) : ∀ x ∈ bI L q, 0 ≤ x ∧ x ≤ cT q.t := by
 intro x hx
 unfold bI setL at hx
 rcases List.mem_append.1 hx with hx | hx
 ·rcases List.mem_append.1 hx with hx | hx
  ·exact ho x (List.mem_of_mem_take hx)
  ·exact uB _ q hq (fun y hy => ho y (uM hy)) (fX L _ _ hw) x hx
 ·exact ho x (List.mem_of_mem_drop hx)
theorem jD (L : List Int) (q : Req) (hw : q.wa + q.wc ≤ L.length) : (bI L q).length = L.length := by
 unfold bI
 rw [fE]
 rw [iZ, fX L _ _ hw]
 exact hw
theorem oV (e : Nat) (w : World) : (method 484 221 (.pointer (some ⟨e, 0, none⟩)) "Pack").run Tryz.prog w = .ok (262, .pointer (some ⟨e, 0, none⟩)) w := by kernel_rfl
theorem oU (e : Nat) (w : World) : (method 484 223 (.pointer (some ⟨e, 0, none⟩)) "Pack").run Tryz.prog w = .ok (265, .pointer (some ⟨e, 0, none⟩)) w := by kernel_rfl
theorem kK (q : Req) (vv : Value) (a8 : Option Addr) (c8 : Nat) (v : Value) (p : List Int) (w : World) (he : Lies w (.slice a8 q.echo.length c8) q.echo) (hel : q.echo.length ≤ 300) (hp : Lies w v p) (hpn : q.echo = [] → p ≠ [] ∧ p.length ≤ 255) :
  Calls Tryz.prog 193 #[.agg (rrow q.f q.t q.ra q.rc q.wa q.wc vv q.keep (.slice a8 q.echo.length c8)), v] w fun r w' => ∃ v', r = .returned v' ∧ Owns w' w.heap.size v' (dS q p) ∧ Below w.heap.size w w' := by
 unfold dS rrow
 by_cases h0 : q.echo = []
 ·rw [if_pos h0, h0]
  obtain ⟨hp1, hp2⟩ := hpn h0
  obtain ⟨b, o, c, rfl, _⟩ := hp.shape hp1
  exact oJ q.f q.t q.ra q.rc q.wa q.wc vv q.keep a8 c8 b o c p w hp hp1 hp2
 ·rw [if_neg h0]
  obtain ⟨b, o, c, e, _⟩ := he.shape h0
  cases e
  exact oK q.f q.t q.ra q.rc q.wa q.wc vv q.keep b o c8 q.echo w v he h0 (by omega)
def uA (w : World) (e g : Nat) (T : TypeId) (hi : Int) (L : List Int) (q : Req) (r : Ending) (w' : World) : Prop :=
 ∃ v', r = .returned v' ∧ Owns w' w.heap.size v' (dS q (cV q.t (bM (bI L q) q.ra q.rc))) ∧ TabAt w' e g T hi (bI L q) ∧ Chg w w' (fun k => k = g)
theorem qR (t : Nat) (xs : List Int) : (cV t xs).length = if t ≤ 1 then (xs.length + 7) / 8 else 2 * xs.length := by
 unfold cV
 split
 ·simp [iD, eZ]
 ·exact gQ xs
theorem vO (w : World) (e g : Nat) (X T : TypeId) (hi : Int) (L : List Int) (t a c : Nat) (hk : (X = 221 ∧ t ≤ 1) ∨ (X = 223 ∧ 1 < t)) (h : TabAt w e g T hi L) (hac : a + c ≤ L.length) (hL : ∀ x ∈ L, 0 ≤ x ∧ x ≤ cT t) (F : Nat) (hF : ∀ w, (method 484 X (.pointer (some ⟨e, 0, none⟩)) "Pack").run Tryz.prog w = .ok (F, .pointer (some ⟨e, 0, none⟩)) w) :
  Calls Tryz.prog F #[.pointer (some ⟨e, 0, none⟩), .int .i64 a, .int .i64 c] w fun r w' => ∃ v, r = .returned v ∧ Owns w' w.heap.size v (cV t (bM L a c)) ∧ Below w.heap.size w w' := by
 rcases hk with ⟨rfl, ht⟩ | ⟨rfl, ht⟩
 ·have e1 := (hF w).symm.trans (oV e w)
  cases e1
  unfold cV
  rw [if_pos ht]
  exact sS w e g T hi L a c h hac (fun x hx => by have := hL x hx; unfold cT at this; rw [if_pos ht] at this; omega)
 ·have e1 := (hF w).symm.trans (oU e w)
  cases e1
  unfold cV
  rw [if_neg (by omega)]
  exact pX w e g T hi L a c h hac (fun x hx => by have := hL x hx; unfold cT at this; rw [if_neg (by omega)] at this; exact this)
theorem aD3 (e : Nat) (w : World) : (nilAhead 484 221 (.pointer (some ⟨e, 0, none⟩)) "Set").run Tryz.prog w = .ok (some false) w := by kernel_rfl
theorem aD2 (e : Nat) (w : World) : (nilAhead 484 223 (.pointer (some ⟨e, 0, none⟩)) "Set").run Tryz.prog w = .ok (some false) w := by kernel_rfl
structure WrAt (w w' : World) (xs : List Int) (g : Nat) : Prop where
 lo : w.heap.size ≤ g
 row : w'.heap[g]? = some (.cells (xs.map (Value.int .i64)).toArray 3 (0, 0))
 bel : Below w.heap.size w w'
structure OwAt (w w' : World) (v : Value) (xs : List Int) : Prop where
 own : Owns w' w.heap.size v xs
 bel : Below w.heap.size w w'
structure SeAt (w w' : World) (e g : Nat) (T : TypeId) (hi : Int) (L : List Int) : Prop where
 tab : TabAt w' e g T hi L
 chg : Chg w w' (fun k => k = g)
theorem yT (e g : Nat) (T : TypeId) (hi : Int) (L : List Int) (q : Req) (av : Option Addr) (cv : Nat) (a8 : Option Addr) (c8 : Nat) (w : World) (hT : TabAt w e g T hi L) (hne : e ≠ g) (hk : q.t ≤ 1) (hq : q.Ok) (hq2 : q.Ok2) (hL : ∀ x ∈ L, 0 ≤ x ∧ x ≤ cT q.t)
  (hv : cB w (.slice av q.vals.length cv) q.vals) (he : Lies w (.slice a8 q.echo.length c8) q.echo) (hvn : ∀ b, (Value.slice a8 q.echo.length c8).ownBlock = some b → b ≠ g) (hr : q.ra + q.rc ≤ L.length) (hw : q.wa + q.wc ≤ L.length) :
  Calls Tryz.prog 158 #[.iface 221 (.pointer (some ⟨e, 0, none⟩)), .agg (rrow q.f q.t q.ra q.rc q.wa q.wc (.slice av q.vals.length cv) q.keep (.slice a8 q.echo.length c8))] w fun r w' => uA w e g T hi L q r w' := by
 have mG := qW e
 have mS := qU e
 have mN := aD3 e
 have mP := oV e
 have hTl := hT.len
 have ltg := (Array.getElem?_eq_some_iff.1 hT.ent).1
 have HB0 := hide (aZ w (.cells (rrow q.f q.t q.ra q.rc q.wa q.wc (.slice av q.vals.length cv) q.keep (.slice a8 q.echo.length c8)) 273))
 have HA0 : Hid ((w.alloc (.cells (rrow q.f q.t q.ra q.rc q.wa q.wc (.slice av q.vals.length cv) q.keep (.slice a8 q.echo.length c8)) 273)).heap[w.heap.size]? = some (.cells (rrow q.f q.t q.ra q.rc q.wa q.wc (.slice av q.vals.length cv) q.keep (.slice a8 q.echo.length c8)) 273 (0, 0))) := heap_alloc_new w _
 have HT := hide hT
 have HQ := hide hq
 have HQ2 := hide hq2
 have HLL := hide hL
 have HV := hide hv
 have HE := hide he
 have HVN := hide hvn
 clear hT hq hq2 hL hv he hvn
 unfold rrow at HB0
 unfold rrow
 go_enter Tryz.func158, Tryz.ntmps158
 go_wp2_with fail
 generalize hW : w.alloc (.cells #[.int .u8 q.f, .int .i64 q.t, .int .i64 q.ra, .int .i64 q.rc, .int .i64 q.wa, .int .i64 q.wc, .slice av q.vals.length cv, .int .i64 q.keep, .slice a8 q.echo.length c8] 273) = W at HB0 ⊢
 have HA1 : Hid (W.heap[w.heap.size]? = some (.cells (rrow q.f q.t q.ra q.rc q.wa q.wc (.slice av q.vals.length cv) q.keep (.slice a8 q.echo.length c8)) 273 (0, 0))) := by
  rw [← hW]
  exact aA HA0
 clear HA0 hW
 refine (jT W e g T hi L q.wa q.wc ((aA HT).below (aA HB0)) hw).mono ?_
 rintro r w1 ⟨k, rfl, hk1, hr1, hb1⟩
 have HA2 : Hid (w1.heap[w.heap.size]? = _) := (hb1.block w.heap.size (Array.getElem?_eq_some_iff.1 (aA HA1)).1).trans (aA HA1)
 have hb01 := aD (aA HB0) hb1
 have HB1 := hide hb01
 have hln := fX L q.wa q.wc hw
 have hwl : (cU (bM L q.wa q.wc) q.vals q.keep).length = q.wc := by rw [iZ, hln]
 have HWr : Hid (Calls Tryz.prog 192 #[.agg (rrow q.f q.t q.ra q.rc q.wa q.wc (.slice av q.vals.length cv) q.keep (.slice a8 q.echo.length c8)), .slice (some ⟨k, 0, none⟩) q.wc q.wc] w1.drew fun e w' => ∃ g, e = .returned (.slice (some ⟨g, 0, none⟩) q.wc q.wc) ∧ WrAt w1 w' (cU (bM L q.wa q.wc) q.vals q.keep) g) := by
  have := mT q av cv (.slice a8 q.echo.length c8) k (bM L q.wa q.wc) w1.drew ((aA HV).below hb01.drew) hr1 (by rw [hln]; exact (aA HQ).len) (by rw [hln]; have := (aA HQ).wc; omega)
  rw [hln] at this
  refine this.mono ?_
  rintro e w' ⟨g, rfl, h1, h2, h3⟩
  exact ⟨g, rfl, h1, h2, ⟨h3.os, h3.tape, h3.output, h3.size, h3.block⟩⟩
 unfold rrow at HWr
 have HSe : Hid (∀ w2 g2, WrAt w1 w2 (cU (bM L q.wa q.wc) q.vals q.keep) g2 → Calls Tryz.prog 263 #[.pointer (some ⟨e, 0, none⟩), .int .i64 q.wa, .slice (some ⟨g2, 0, none⟩) q.wc q.wc] w2 fun r w' => r = .returned (.tuple #[]) ∧ SeAt w2 w' e g T hi (bI L q)) := fun w2 g2 hw2 => by
  have hlz := eJ hw2.row 0 q.wc q.wc (by rw [hwl]; omega)
  rw [List.drop_zero, List.take_of_length_le (by rw [hwl]; omega)] at hlz
  refine (nY w2 e g T hi L q.wa _ _ (((aA HT).below hb01).below hw2.bel) hlz (by rw [hwl]; exact hw) hne).mono ?_
  rintro r w' ⟨rfl, h1, h2⟩
  exact ⟨rfl, h1, h2⟩
 have HK : Hid (∀ w' : World, w'.heap[w.heap.size]? = some (.cells (rrow q.f q.t q.ra q.rc q.wa q.wc (.slice av q.vals.length cv) q.keep (.slice a8 q.echo.length c8)) 273 (0, 0)) → w'.cell? ⟨w.heap.size, 0, none⟩ = some (.int .u8 q.f) ∧ w'.cell? ⟨w.heap.size, 1, none⟩ = some (.int .i64 q.t) ∧ w'.cell? ⟨w.heap.size, 2, none⟩ = some (.int .i64 q.ra) ∧ w'.cell? ⟨w.heap.size, 3, none⟩ = some (.int .i64 q.rc) ∧ w'.cell? ⟨w.heap.size, 4, none⟩ = some (.int .i64 q.wa) ∧ w'.cell? ⟨w.heap.size, 5, none⟩ = some (.int .i64 q.wc) ∧ w'.cell? ⟨w.heap.size, 6, none⟩ = some (.slice av q.vals.length cv) ∧ w'.cell? ⟨w.heap.size, 7, none⟩ = some (.int .i64 q.keep) ∧ w'.cell? ⟨w.heap.size, 8, none⟩ = some (.slice a8 q.echo.length c8)) := fun w' h => by
  have z0 := cell_of_row _ _ 0 _ _ _ h
  have z1 := cell_of_row _ _ 1 _ _ _ h
  have z2 := cell_of_row _ _ 2 _ _ _ h
  have z3 := cell_of_row _ _ 3 _ _ _ h
  have z4 := cell_of_row _ _ 4 _ _ _ h
  have z5 := cell_of_row _ _ 5 _ _ _ h
  have z6 := cell_of_row _ _ 6 _ _ _ h
  have z7 := cell_of_row _ _ 7 _ _ _ h
  have z8 := cell_of_row _ _ 8 _ _ _ h
  simp [rrow] at z0 z1 z2 z3 z4 z5 z6 z7 z8
  exact ⟨z0, z1, z2, z3, z4, z5, z6, z7, z8⟩
 have HKW : Hid (∀ w2 g2, WrAt w1 w2 (cU (bM L q.wa q.wc) q.vals q.keep) g2 → w2.heap[w.heap.size]? = some (.cells (rrow q.f q.t q.ra q.rc q.wa q.wc (.slice av q.vals.length cv) q.keep (.slice a8 q.echo.length c8)) 273 (0, 0))) := fun w2 g2 h => (h.bel.block w.heap.size (Array.getElem?_eq_some_iff.1 (aA HA2)).1).trans (aA HA2)
 have HKS : Hid (∀ w2 g2 w3, WrAt w1 w2 (cU (bM L q.wa q.wc) q.vals q.keep) g2 → SeAt w2 w3 e g T hi (bI L q) → w3.heap[w.heap.size]? = some (.cells (rrow q.f q.t q.ra q.rc q.wa q.wc (.slice av q.vals.length cv) q.keep (.slice a8 q.echo.length c8)) 273 (0, 0))) := fun w2 g2 w3 h h2 => (h2.chg.block w.heap.size (Array.getElem?_eq_some_iff.1 (aA HKW w2 g2 h)).1 (fun e => by have e' : w.heap.size = g := e; omega)).trans (aA HKW w2 g2 h)
 clear hb01 hb1 hr1 hk1 hln hwl HA1
 go_wp2_with fail
 go_region_held3 (fun w' => w'.cell? ⟨w.heap.size, 0, none⟩ = some (.int .u8 q.f) ∧ w'.cell? ⟨w.heap.size, 1, none⟩ = some (.int .i64 q.t) ∧ w'.cell? ⟨w.heap.size, 2, none⟩ = some (.int .i64 q.ra) ∧ w'.cell? ⟨w.heap.size, 3, none⟩ = some (.int .i64 q.rc) ∧ w'.cell? ⟨w.heap.size, 4, none⟩ = some (.int .i64 q.wa) ∧ w'.cell? ⟨w.heap.size, 5, none⟩ = some (.int .i64 q.wc) ∧ w'.cell? ⟨w.heap.size, 6, none⟩ = some (.slice av q.vals.length cv) ∧ w'.cell? ⟨w.heap.size, 7, none⟩ = some (.int .i64 q.keep) ∧ w'.cell? ⟨w.heap.size, 8, none⟩ = some (.slice a8 q.echo.length c8))
  ((refine aA HK _ ?_; first
    | exact aA HA2
    | exact aA HKW _ _ (by assumption)
    | exact aA HKS _ _ _ (by assumption) (by assumption)))
  (first
    | (go_at_call 192; refine (aA HWr).mono ?_; rintro r w2 ⟨g2, rfl, hW2⟩)
    | (go_at_call 263; refine (aA HSe _ _ (by assumption)).mono ?_; rintro r w3 ⟨rfl, hS3⟩)
    | fail)
 all_goals
  rename_i hHeld
  clear hHeld
  have HB2 := hide (aD (aA HB1) hW2.bel)
  have HA4 := hide (aA HKS _ _ _ hW2 hS3)
  have HT3 := hide hS3.tab
  have HC3 := hide ((Chg.of_below (aA HB2) (fun k => k = g)).trans hS3.chg (fun _ e _ => e))
  have HPk : Hid (Calls Tryz.prog 262 #[.pointer (some ⟨e, 0, none⟩), .int .i64 q.ra, .int .i64 q.rc] w3.drew fun r w' => ∃ a n c, r = .returned (.slice a n c) ∧ OwAt w3 w' (.slice a n c) (cV q.t (bM (bI L q) q.ra q.rc))) := by
   refine (vO w3.drew e g 221 T hi (bI L q) q.t q.ra q.rc (.inl ⟨rfl, hk⟩) (hS3.tab.below (Below.refl _ _).drew) (by rw [jD L q hw]; exact hr) (mQ L q (aA HQ) (aA HLL) hw) 262 mP).mono ?_
   rintro r w' ⟨v, rfl, h1, h2⟩
   obtain ⟨a, n, c, rfl⟩ := aP h1
   exact ⟨a, n, c, rfl, h1, ⟨h2.os, h2.tape, h2.output, h2.size, h2.block⟩⟩
  have hpl : q.echo = [] → cV q.t (bM (bI L q) q.ra q.rc) ≠ [] ∧ (cV q.t (bM (bI L q) q.ra q.rc)).length ≤ 255 := fun e0 => by
   have h1 := (aA HQ2).rd e0
   have h2 := (aA HQ2).rw
   have hsl := fX (bI L q) q.ra q.rc (by rw [jD L q hw]; exact hr)
   have hl := qR q.t (bM (bI L q) q.ra q.rc)
   rw [hsl] at hl
   refine ⟨fun e1 => ?_, ?_⟩
   ·rw [e1] at hl
    simp at hl
    split at hl <;> omega
   ·rw [hl]
    split
    ·omega
    ·have := h2 (by omega)
     omega
  have HAn : Hid (∀ w4 a n c, OwAt w3 w4 (.slice a n c) (cV q.t (bM (bI L q) q.ra q.rc)) → Calls Tryz.prog 193 #[.agg #[.int .u8 q.f, .int .i64 q.t, .int .i64 q.ra, .int .i64 q.rc, .int .i64 q.wa, .int .i64 q.wc, .slice av q.vals.length cv, .int .i64 q.keep, .slice a8 q.echo.length c8], .slice a n c] w4 fun r w' => ∃ a n c, r = .returned (.slice a n c) ∧ OwAt w4 w' (.slice a n c) (dS q (cV q.t (bM (bI L q) q.ra q.rc)))) := fun w4 a n c h4 => by
   refine (kK q (.slice av q.vals.length cv) a8 c8 _ _ w4 (((aA HE).chg (aA HC3) (aA HVN)).below h4.bel) (aA HQ).elen h4.own.lies hpl).mono ?_
   rintro r w' ⟨v, rfl, h1, h2⟩
   obtain ⟨a, n, c, rfl⟩ := aP h1
   exact ⟨a, n, c, rfl, h1, h2⟩
  have HK2 : Hid (∀ w' : World, w'.heap[w.heap.size]? = some (.cells (rrow q.f q.t q.ra q.rc q.wa q.wc (.slice av q.vals.length cv) q.keep (.slice a8 q.echo.length c8)) 273 (0, 0)) → w'.cell? ⟨w.heap.size, 0, none⟩ = some (.int .u8 q.f) ∧ w'.cell? ⟨w.heap.size, 1, none⟩ = some (.int .i64 q.t) ∧ w'.cell? ⟨w.heap.size, 2, none⟩ = some (.int .i64 q.ra) ∧ w'.cell? ⟨w.heap.size, 3, none⟩ = some (.int .i64 q.rc) ∧ w'.cell? ⟨w.heap.size, 4, none⟩ = some (.int .i64 q.wa) ∧ w'.cell? ⟨w.heap.size, 5, none⟩ = some (.int .i64 q.wc) ∧ w'.cell? ⟨w.heap.size, 6, none⟩ = some (.slice av q.vals.length cv) ∧ w'.cell? ⟨w.heap.size, 7, none⟩ = some (.int .i64 q.keep) ∧ w'.cell? ⟨w.heap.size, 8, none⟩ = some (.slice a8 q.echo.length c8)) := fun w' h => by
   have z0 := cell_of_row _ _ 0 _ _ _ h
   have z1 := cell_of_row _ _ 1 _ _ _ h
   have z2 := cell_of_row _ _ 2 _ _ _ h
   have z3 := cell_of_row _ _ 3 _ _ _ h
   have z4 := cell_of_row _ _ 4 _ _ _ h
   have z5 := cell_of_row _ _ 5 _ _ _ h
   have z6 := cell_of_row _ _ 6 _ _ _ h
   have z7 := cell_of_row _ _ 7 _ _ _ h
   have z8 := cell_of_row _ _ 8 _ _ _ h
   simp [rrow] at z0 z1 z2 z3 z4 z5 z6 z7 z8
   exact ⟨z0, z1, z2, z3, z4, z5, z6, z7, z8⟩
  have HK3 : Hid (∀ w4 v xs, OwAt w3 w4 v xs → w4.heap[w.heap.size]? = some (.cells (rrow q.f q.t q.ra q.rc q.wa q.wc (.slice av q.vals.length cv) q.keep (.slice a8 q.echo.length c8)) 273 (0, 0))) := fun w4 v xs h => (h.bel.block w.heap.size (Array.getElem?_eq_some_iff.1 (aA HA4)).1).trans (aA HA4)
  have HK4 : Hid (∀ w4 v xs w5 v' xs', OwAt w3 w4 v xs → OwAt w4 w5 v' xs' → w5.heap[w.heap.size]? = some (.cells (rrow q.f q.t q.ra q.rc q.wa q.wc (.slice av q.vals.length cv) q.keep (.slice a8 q.echo.length c8)) 273 (0, 0))) := fun w4 v xs w5 v' xs' h h2 => (h2.bel.block w.heap.size (Array.getElem?_eq_some_iff.1 (aA HK3 w4 v xs h)).1).trans (aA HK3 w4 v xs h)
  clear HSe hW2 hS3 HK HKW HKS HWr hpl
  go_wp2_with fail
  go_region_held3 (fun w' => w'.cell? ⟨w.heap.size, 0, none⟩ = some (.int .u8 q.f) ∧ w'.cell? ⟨w.heap.size, 1, none⟩ = some (.int .i64 q.t) ∧ w'.cell? ⟨w.heap.size, 2, none⟩ = some (.int .i64 q.ra) ∧ w'.cell? ⟨w.heap.size, 3, none⟩ = some (.int .i64 q.rc) ∧ w'.cell? ⟨w.heap.size, 4, none⟩ = some (.int .i64 q.wa) ∧ w'.cell? ⟨w.heap.size, 5, none⟩ = some (.int .i64 q.wc) ∧ w'.cell? ⟨w.heap.size, 6, none⟩ = some (.slice av q.vals.length cv) ∧ w'.cell? ⟨w.heap.size, 7, none⟩ = some (.int .i64 q.keep) ∧ w'.cell? ⟨w.heap.size, 8, none⟩ = some (.slice a8 q.echo.length c8))
   ((refine aA HK2 _ ?_; first
     | exact aA HA4
     | exact aA HK3 _ _ _ (by assumption)
     | exact aA HK4 _ _ _ _ _ _ (by assumption) (by assumption)))
   (first
     | (go_at_call 193; refine (aA HAn _ _ _ _ (by assumption)).mono ?_; rintro r w5 ⟨a5, n5, c5, rfl, h5⟩)
     | (go_at_call 262; refine (aA HPk).mono ?_; rintro r w4 ⟨a4, n4, c4, rfl, h4⟩)
     | fail)
  all_goals
   rename_i hHeld
   clear hHeld
   have hz3 := (aA HC3).size
   have hz4 := h4.bel.size
   have HO5 := hide (h5.own.weak (Nat.le_trans hz3 hz4))
   have HT5 := hide (((aA HT3).below h4.bel).below h5.bel)
   have HC5 := hide (((aA HC3).trans (Chg.of_below h4.bel (fun _ => False)) (fun _ e _ => e.elim)).trans (Chg.of_below h5.bel (fun _ => False)) (fun _ e _ => e.elim))
   clear h4 h5 HAn HPk HK2 HK3 HK4
   go_wp2
   go_ret
   exact ⟨_, rfl, aA HO5, aA HT5, aA HC5⟩
theorem yS (e g : Nat) (T : TypeId) (hi : Int) (L : List Int) (q : Req) (av : Option Addr) (cv : Nat) (a8 : Option Addr) (c8 : Nat) (w : World) (hT : TabAt w e g T hi L) (hne : e ≠ g) (hk : 1 < q.t) (hq : q.Ok) (hq2 : q.Ok2) (hL : ∀ x ∈ L, 0 ≤ x ∧ x ≤ cT q.t)
  (hv : cB w (.slice av q.vals.length cv) q.vals) (he : Lies w (.slice a8 q.echo.length c8) q.echo) (hvn : ∀ b, (Value.slice a8 q.echo.length c8).ownBlock = some b → b ≠ g) (hr : q.ra + q.rc ≤ L.length) (hw : q.wa + q.wc ≤ L.length) :
  Calls Tryz.prog 158 #[.iface 223 (.pointer (some ⟨e, 0, none⟩)), .agg (rrow q.f q.t q.ra q.rc q.wa q.wc (.slice av q.vals.length cv) q.keep (.slice a8 q.echo.length c8))] w fun r w' => uA w e g T hi L q r w' := by
 have mG := qV e
 have mS := qT e
 have mN := aD2 e
 have mP := oU e
 have hTl := hT.len
 have ltg := (Array.getElem?_eq_some_iff.1 hT.ent).1
 have HB0 := hide (aZ w (.cells (rrow q.f q.t q.ra q.rc q.wa q.wc (.slice av q.vals.length cv) q.keep (.slice a8 q.echo.length c8)) 273))
 have HA0 : Hid ((w.alloc (.cells (rrow q.f q.t q.ra q.rc q.wa q.wc (.slice av q.vals.length cv) q.keep (.slice a8 q.echo.length c8)) 273)).heap[w.heap.size]? = some (.cells (rrow q.f q.t q.ra q.rc q.wa q.wc (.slice av q.vals.length cv) q.keep (.slice a8 q.echo.length c8)) 273 (0, 0))) := heap_alloc_new w _
 have HT := hide hT
 have HQ := hide hq
 have HQ2 := hide hq2
 have HLL := hide hL
 have HV := hide hv
 have HE := hide he
 have HVN := hide hvn
 clear hT hq hq2 hL hv he hvn
 unfold rrow at HB0
 unfold rrow
 go_enter Tryz.func158, Tryz.ntmps158
 go_wp2_with fail
 generalize hW : w.alloc (.cells #[.int .u8 q.f, .int .i64 q.t, .int .i64 q.ra, .int .i64 q.rc, .int .i64 q.wa, .int .i64 q.wc, .slice av q.vals.length cv, .int .i64 q.keep, .slice a8 q.echo.length c8] 273) = W at HB0 ⊢
 have HA1 : Hid (W.heap[w.heap.size]? = some (.cells (rrow q.f q.t q.ra q.rc q.wa q.wc (.slice av q.vals.length cv) q.keep (.slice a8 q.echo.length c8)) 273 (0, 0))) := by
  rw [← hW]
  exact aA HA0
 clear HA0 hW
 refine (jT W e g T hi L q.wa q.wc ((aA HT).below (aA HB0)) hw).mono ?_
 rintro r w1 ⟨k, rfl, hk1, hr1, hb1⟩
 have HA2 : Hid (w1.heap[w.heap.size]? = _) := (hb1.block w.heap.size (Array.getElem?_eq_some_iff.1 (aA HA1)).1).trans (aA HA1)
 have hb01 := aD (aA HB0) hb1
 have HB1 := hide hb01
 have hln := fX L q.wa q.wc hw
 have hwl : (cU (bM L q.wa q.wc) q.vals q.keep).length = q.wc := by rw [iZ, hln]
 have HWr : Hid (Calls Tryz.prog 192 #[.agg (rrow q.f q.t q.ra q.rc q.wa q.wc (.slice av q.vals.length cv) q.keep (.slice a8 q.echo.length c8)), .slice (some ⟨k, 0, none⟩) q.wc q.wc] w1.drew fun e w' => ∃ g, e = .returned (.slice (some ⟨g, 0, none⟩) q.wc q.wc) ∧ WrAt w1 w' (cU (bM L q.wa q.wc) q.vals q.keep) g) := by
  have := mT q av cv (.slice a8 q.echo.length c8) k (bM L q.wa q.wc) w1.drew ((aA HV).below hb01.drew) hr1 (by rw [hln]; exact (aA HQ).len) (by rw [hln]; have := (aA HQ).wc; omega)
  rw [hln] at this
  refine this.mono ?_
  rintro e w' ⟨g, rfl, h1, h2, h3⟩
  exact ⟨g, rfl, h1, h2, ⟨h3.os, h3.tape, h3.output, h3.size, h3.block⟩⟩
 unfold rrow at HWr
 have HSe : Hid (∀ w2 g2, WrAt w1 w2 (cU (bM L q.wa q.wc) q.vals q.keep) g2 → Calls Tryz.prog 263 #[.pointer (some ⟨e, 0, none⟩), .int .i64 q.wa, .slice (some ⟨g2, 0, none⟩) q.wc q.wc] w2 fun r w' => r = .returned (.tuple #[]) ∧ SeAt w2 w' e g T hi (bI L q)) := fun w2 g2 hw2 => by
  have hlz := eJ hw2.row 0 q.wc q.wc (by rw [hwl]; omega)
  rw [List.drop_zero, List.take_of_length_le (by rw [hwl]; omega)] at hlz
  refine (nY w2 e g T hi L q.wa _ _ (((aA HT).below hb01).below hw2.bel) hlz (by rw [hwl]; exact hw) hne).mono ?_
  rintro r w' ⟨rfl, h1, h2⟩
  exact ⟨rfl, h1, h2⟩
 have HK : Hid (∀ w' : World, w'.heap[w.heap.size]? = some (.cells (rrow q.f q.t q.ra q.rc q.wa q.wc (.slice av q.vals.length cv) q.keep (.slice a8 q.echo.length c8)) 273 (0, 0)) → w'.cell? ⟨w.heap.size, 0, none⟩ = some (.int .u8 q.f) ∧ w'.cell? ⟨w.heap.size, 1, none⟩ = some (.int .i64 q.t) ∧ w'.cell? ⟨w.heap.size, 2, none⟩ = some (.int .i64 q.ra) ∧ w'.cell? ⟨w.heap.size, 3, none⟩ = some (.int .i64 q.rc) ∧ w'.cell? ⟨w.heap.size, 4, none⟩ = some (.int .i64 q.wa) ∧ w'.cell? ⟨w.heap.size, 5, none⟩ = some (.int .i64 q.wc) ∧ w'.cell? ⟨w.heap.size, 6, none⟩ = some (.slice av q.vals.length cv) ∧ w'.cell? ⟨w.heap.size, 7, none⟩ = some (.int .i64 q.keep) ∧ w'.cell? ⟨w.heap.size, 8, none⟩ = some (.slice a8 q.echo.length c8)) := fun w' h => by
  have z0 := cell_of_row _ _ 0 _ _ _ h
  have z1 := cell_of_row _ _ 1 _ _ _ h
  have z2 := cell_of_row _ _ 2 _ _ _ h
  have z3 := cell_of_row _ _ 3 _ _ _ h
  have z4 := cell_of_row _ _ 4 _ _ _ h
  have z5 := cell_of_row _ _ 5 _ _ _ h
  have z6 := cell_of_row _ _ 6 _ _ _ h
  have z7 := cell_of_row _ _ 7 _ _ _ h
  have z8 := cell_of_row _ _ 8 _ _ _ h
  simp [rrow] at z0 z1 z2 z3 z4 z5 z6 z7 z8
  exact ⟨z0, z1, z2, z3, z4, z5, z6, z7, z8⟩
 have HKW : Hid (∀ w2 g2, WrAt w1 w2 (cU (bM L q.wa q.wc) q.vals q.keep) g2 → w2.heap[w.heap.size]? = some (.cells (rrow q.f q.t q.ra q.rc q.wa q.wc (.slice av q.vals.length cv) q.keep (.slice a8 q.echo.length c8)) 273 (0, 0))) := fun w2 g2 h => (h.bel.block w.heap.size (Array.getElem?_eq_some_iff.1 (aA HA2)).1).trans (aA HA2)
 have HKS : Hid (∀ w2 g2 w3, WrAt w1 w2 (cU (bM L q.wa q.wc) q.vals q.keep) g2 → SeAt w2 w3 e g T hi (bI L q) → w3.heap[w.heap.size]? = some (.cells (rrow q.f q.t q.ra q.rc q.wa q.wc (.slice av q.vals.length cv) q.keep (.slice a8 q.echo.length c8)) 273 (0, 0))) := fun w2 g2 w3 h h2 => (h2.chg.block w.heap.size (Array.getElem?_eq_some_iff.1 (aA HKW w2 g2 h)).1 (fun e => by have e' : w.heap.size = g := e; omega)).trans (aA HKW w2 g2 h)
 clear hb01 hb1 hr1 hk1 hln hwl HA1
 go_wp2_with fail
 go_region_held3 (fun w' => w'.cell? ⟨w.heap.size, 0, none⟩ = some (.int .u8 q.f) ∧ w'.cell? ⟨w.heap.size, 1, none⟩ = some (.int .i64 q.t) ∧ w'.cell? ⟨w.heap.size, 2, none⟩ = some (.int .i64 q.ra) ∧ w'.cell? ⟨w.heap.size, 3, none⟩ = some (.int .i64 q.rc) ∧ w'.cell? ⟨w.heap.size, 4, none⟩ = some (.int .i64 q.wa) ∧ w'.cell? ⟨w.heap.size, 5, none⟩ = some (.int .i64 q.wc) ∧ w'.cell? ⟨w.heap.size, 6, none⟩ = some (.slice av q.vals.length cv) ∧ w'.cell? ⟨w.heap.size, 7, none⟩ = some (.int .i64 q.keep) ∧ w'.cell? ⟨w.heap.size, 8, none⟩ = some (.slice a8 q.echo.length c8))
  ((refine aA HK _ ?_; first
    | exact aA HA2
    | exact aA HKW _ _ (by assumption)
    | exact aA HKS _ _ _ (by assumption) (by assumption)))
  (first
    | (go_at_call 192; refine (aA HWr).mono ?_; rintro r w2 ⟨g2, rfl, hW2⟩)
    | (go_at_call 263; refine (aA HSe _ _ (by assumption)).mono ?_; rintro r w3 ⟨rfl, hS3⟩)
    | fail)
 all_goals
  rename_i hHeld
  clear hHeld
  have HB2 := hide (aD (aA HB1) hW2.bel)
  have HA4 := hide (aA HKS _ _ _ hW2 hS3)
  have HT3 := hide hS3.tab
  have HC3 := hide ((Chg.of_below (aA HB2) (fun k => k = g)).trans hS3.chg (fun _ e _ => e))
  have HPk : Hid (Calls Tryz.prog 265 #[.pointer (some ⟨e, 0, none⟩), .int .i64 q.ra, .int .i64 q.rc] w3.drew fun r w' => ∃ a n c, r = .returned (.slice a n c) ∧ OwAt w3 w' (.slice a n c) (cV q.t (bM (bI L q) q.ra q.rc))) := by
   refine (vO w3.drew e g 223 T hi (bI L q) q.t q.ra q.rc (.inr ⟨rfl, hk⟩) (hS3.tab.below (Below.refl _ _).drew) (by rw [jD L q hw]; exact hr) (mQ L q (aA HQ) (aA HLL) hw) 265 mP).mono ?_
   rintro r w' ⟨v, rfl, h1, h2⟩
   obtain ⟨a, n, c, rfl⟩ := aP h1
   exact ⟨a, n, c, rfl, h1, ⟨h2.os, h2.tape, h2.output, h2.size, h2.block⟩⟩
  have hpl : q.echo = [] → cV q.t (bM (bI L q) q.ra q.rc) ≠ [] ∧ (cV q.t (bM (bI L q) q.ra q.rc)).length ≤ 255 := fun e0 => by
   have h1 := (aA HQ2).rd e0
   have h2 := (aA HQ2).rw
   have hsl := fX (bI L q) q.ra q.rc (by rw [jD L q hw]; exact hr)
   have hl := qR q.t (bM (bI L q) q.ra q.rc)
   rw [hsl] at hl
   refine ⟨fun e1 => ?_, ?_⟩
   ·rw [e1] at hl
    simp at hl
    split at hl <;> omega
   ·rw [hl]
    split
    ·omega
    ·have := h2 (by omega)
     omega
  have HAn : Hid (∀ w4 a n c, OwAt w3 w4 (.slice a n c) (cV q.t (bM (bI L q) q.ra q.rc)) → Calls Tryz.prog 193 #[.agg #[.int .u8 q.f, .int .i64 q.t, .int .i64 q.ra, .int .i64 q.rc, .int .i64 q.wa, .int .i64 q.wc, .slice av q.vals.length cv, .int .i64 q.keep, .slice a8 q.echo.length c8], .slice a n c] w4 fun r w' => ∃ a n c, r = .returned (.slice a n c) ∧ OwAt w4 w' (.slice a n c) (dS q (cV q.t (bM (bI L q) q.ra q.rc)))) := fun w4 a n c h4 => by
   refine (kK q (.slice av q.vals.length cv) a8 c8 _ _ w4 (((aA HE).chg (aA HC3) (aA HVN)).below h4.bel) (aA HQ).elen h4.own.lies hpl).mono ?_
   rintro r w' ⟨v, rfl, h1, h2⟩
   obtain ⟨a, n, c, rfl⟩ := aP h1
   exact ⟨a, n, c, rfl, h1, h2⟩
  have HK2 : Hid (∀ w' : World, w'.heap[w.heap.size]? = some (.cells (rrow q.f q.t q.ra q.rc q.wa q.wc (.slice av q.vals.length cv) q.keep (.slice a8 q.echo.length c8)) 273 (0, 0)) → w'.cell? ⟨w.heap.size, 0, none⟩ = some (.int .u8 q.f) ∧ w'.cell? ⟨w.heap.size, 1, none⟩ = some (.int .i64 q.t) ∧ w'.cell? ⟨w.heap.size, 2, none⟩ = some (.int .i64 q.ra) ∧ w'.cell? ⟨w.heap.size, 3, none⟩ = some (.int .i64 q.rc) ∧ w'.cell? ⟨w.heap.size, 4, none⟩ = some (.int .i64 q.wa) ∧ w'.cell? ⟨w.heap.size, 5, none⟩ = some (.int .i64 q.wc) ∧ w'.cell? ⟨w.heap.size, 6, none⟩ = some (.slice av q.vals.length cv) ∧ w'.cell? ⟨w.heap.size, 7, none⟩ = some (.int .i64 q.keep) ∧ w'.cell? ⟨w.heap.size, 8, none⟩ = some (.slice a8 q.echo.length c8)) := fun w' h => by
   have z0 := cell_of_row _ _ 0 _ _ _ h
   have z1 := cell_of_row _ _ 1 _ _ _ h
   have z2 := cell_of_row _ _ 2 _ _ _ h
   have z3 := cell_of_row _ _ 3 _ _ _ h
   have z4 := cell_of_row _ _ 4 _ _ _ h
   have z5 := cell_of_row _ _ 5 _ _ _ h
   have z6 := cell_of_row _ _ 6 _ _ _ h
   have z7 := cell_of_row _ _ 7 _ _ _ h
   have z8 := cell_of_row _ _ 8 _ _ _ h
   simp [rrow] at z0 z1 z2 z3 z4 z5 z6 z7 z8
   exact ⟨z0, z1, z2, z3, z4, z5, z6, z7, z8⟩
  have HK3 : Hid (∀ w4 v xs, OwAt w3 w4 v xs → w4.heap[w.heap.size]? = some (.cells (rrow q.f q.t q.ra q.rc q.wa q.wc (.slice av q.vals.length cv) q.keep (.slice a8 q.echo.length c8)) 273 (0, 0))) := fun w4 v xs h => (h.bel.block w.heap.size (Array.getElem?_eq_some_iff.1 (aA HA4)).1).trans (aA HA4)
  have HK4 : Hid (∀ w4 v xs w5 v' xs', OwAt w3 w4 v xs → OwAt w4 w5 v' xs' → w5.heap[w.heap.size]? = some (.cells (rrow q.f q.t q.ra q.rc q.wa q.wc (.slice av q.vals.length cv) q.keep (.slice a8 q.echo.length c8)) 273 (0, 0))) := fun w4 v xs w5 v' xs' h h2 => (h2.bel.block w.heap.size (Array.getElem?_eq_some_iff.1 (aA HK3 w4 v xs h)).1).trans (aA HK3 w4 v xs h)
  clear HSe hW2 hS3 HK HKW HKS HWr hpl
  go_wp2_with fail
  go_region_held3 (fun w' => w'.cell? ⟨w.heap.size, 0, none⟩ = some (.int .u8 q.f) ∧ w'.cell? ⟨w.heap.size, 1, none⟩ = some (.int .i64 q.t) ∧ w'.cell? ⟨w.heap.size, 2, none⟩ = some (.int .i64 q.ra) ∧ w'.cell? ⟨w.heap.size, 3, none⟩ = some (.int .i64 q.rc) ∧ w'.cell? ⟨w.heap.size, 4, none⟩ = some (.int .i64 q.wa) ∧ w'.cell? ⟨w.heap.size, 5, none⟩ = some (.int .i64 q.wc) ∧ w'.cell? ⟨w.heap.size, 6, none⟩ = some (.slice av q.vals.length cv) ∧ w'.cell? ⟨w.heap.size, 7, none⟩ = some (.int .i64 q.keep) ∧ w'.cell? ⟨w.heap.size, 8, none⟩ = some (.slice a8 q.echo.length c8))
   ((refine aA HK2 _ ?_; first
     | exact aA HA4
     | exact aA HK3 _ _ _ (by assumption)
     | exact aA HK4 _ _ _ _ _ _ (by assumption) (by assumption)))
   (first
     | (go_at_call 193; refine (aA HAn _ _ _ _ (by assumption)).mono ?_; rintro r w5 ⟨a5, n5, c5, rfl, h5⟩)
     | (go_at_call 265; refine (aA HPk).mono ?_; rintro r w4 ⟨a4, n4, c4, rfl, h4⟩)
     | fail)
  all_goals
   rename_i hHeld
   clear hHeld
   have hz3 := (aA HC3).size
   have hz4 := h4.bel.size
   have HO5 := hide (h5.own.weak (Nat.le_trans hz3 hz4))
   have HT5 := hide (((aA HT3).below h4.bel).below h5.bel)
   have HC5 := hide (((aA HC3).trans (Chg.of_below h4.bel (fun _ => False)) (fun _ e _ => e.elim)).trans (Chg.of_below h5.bel (fun _ => False)) (fun _ e _ => e.elim))
   clear h4 h5 HAn HPk HK2 HK3 HK4
   go_wp2
   go_ret
   exact ⟨_, rfl, aA HO5, aA HT5, aA HC5⟩
theorem tM (e g : Nat) (X T : TypeId) (hi : Int) (L : List Int) (q : Req) (av : Option Addr) (cv : Nat) (a8 : Option Addr) (c8 : Nat) (w : World) (hT : TabAt w e g T hi L) (hne : e ≠ g) (hk : (X = 221 ∧ q.t ≤ 1) ∨ (X = 223 ∧ 1 < q.t)) (hq : q.Ok) (hq2 : q.Ok2) (hL : ∀ x ∈ L, 0 ≤ x ∧ x ≤ cT q.t)
  (hv : cB w (.slice av q.vals.length cv) q.vals) (he : Lies w (.slice a8 q.echo.length c8) q.echo) (hvn : ∀ b, (Value.slice a8 q.echo.length c8).ownBlock = some b → b ≠ g) (hr : q.ra + q.rc ≤ L.length) (hw : q.wa + q.wc ≤ L.length) :
  Calls Tryz.prog 158 #[.iface X (.pointer (some ⟨e, 0, none⟩)), .agg (rrow q.f q.t q.ra q.rc q.wa q.wc (.slice av q.vals.length cv) q.keep (.slice a8 q.echo.length c8))] w fun r w' => uA w e g T hi L q r w' := by
 rcases hk with ⟨rfl, hk⟩ | ⟨rfl, hk⟩
 ·exact yT e g T hi L q av cv a8 c8 w hT hne hk hq hq2 hL hv he hvn hr hw
 ·exact yS e g T hi L q av cv a8 c8 w hT hne hk hq hq2 hL hv he hvn hr hw
end Go.Proofs.YtfekelmldebplaaGreatDoor
namespace Go.Proofs.YtfekelmldebplaaGreatDoor
open Go.RowKit Go.MuLone
theorem Sees.lock {w : World} {sb tb kb e g cl : Nat} {l lm : Int} {X T : TypeId} {hi : Int} {L : List Int} {t : Nat} {us : List Value} {u : Value} {rs : List Rule} (h : Sees w sb tb kb e g cl l lm X T hi L t us u rs) (hub : ∀ b, u.ownBlock = some b → ∃ cs fr, w.heap[b]? = some (.cells cs 52 fr)) (l' : Int) : Sees (w.setCell ⟨sb, 0, none⟩ (.int .i32 l')) sb tb kb e g cl l' lm X T hi L t us u rs := by
 have c := Chg.set w sb 0 (.int .i32 l')
 obtain ⟨tc, h1, h2⟩ := h.tabs
 have nT : T ≠ 143 := by rcases h.kind with ⟨_, rfl⟩ | ⟨_, rfl⟩ <;> decide
 refine ⟨dI h.row, ⟨tc, (c.block tb (Array.getElem?_eq_some_iff.1 h1).1 (bG h1 h.row (by decide))).trans h1, h2⟩, h.tab.chg c (bG h.tab.row h.row nT) (bG h.tab.ent h.row (by decide)), h.kind, (c.block kb (Array.getElem?_eq_some_iff.1 h.cls).1 (bG h.cls h.row (by decide))).trans h.cls, h.at_, h.list.chg c (fun b e => ?_), h.few, h.t4⟩
 obtain ⟨cs, fr, q⟩ := hub b e
 exact bG q h.row (by decide)
structure Doing (w w' : World) (sb tb kb e g cl : Nat) (X T : TypeId) (hi : Int) (L : List Int) (us : List Value) (u : Value) (rs : List Rule) (q : Req) (r : Ending) : Prop where
 sbk : w'.heap[sb]? = w.heap[sb]?
 tab : TabAt w' e g T hi (bI L q)
 chg : Chg w w' (fun k => k = sb ∨ k = g)
 ans : ∃ a n c, r = .returned (.tuple #[.slice a n c, .nilIface]) ∧ Owns w' w.heap.size (.slice a n c) (dS q (cV q.t (bM (bI L q) q.ra q.rc)))
structure CaAt (w w' : World) (e g : Nat) (T : TypeId) (hi : Int) (L : List Int) (v : Value) (xs : List Int) : Prop where
 own : Owns w' w.heap.size v xs
 tab : TabAt w' e g T hi L
 chg : Chg w w' (fun k => k = g)
theorem aHv (sb tb kb e g cl : Nat) (lm : Int) (X T : TypeId) (hi : Int) (L : List Int) (us : List Value) (u : Value) (rs : List Rule) (f : Int) (v : Value) (bs : List Int) (q : Req) (w : World) (h : Sees w sb tb kb e g cl 0 lm X T hi L q.t us u rs) (hk : (X = 221 ∧ q.t ≤ 1) ∨ (X = 223 ∧ 1 < q.t)) (hL : ∀ x ∈ L, 0 ≤ x ∧ x ≤ cT q.t)
  (hq : q.Ok) (hq2 : q.Ok2) (hv : Lies w v bs) (hvb : ∀ b, v.ownBlock = some b → ∃ cs fr, w.heap[b]? = some (.cells cs 5 fr)) (hx : excL L.length rs q = 0) (hub : ∀ b, u.ownBlock = some b → ∃ cs fr, w.heap[b]? = some (.cells cs 52 fr))
  (HP : Calls Tryz.prog 156 #[.int .u8 f, v] w fun r w' => Below w.heap.size w w' ∧ ∃ vv ve, r = .returned (.tuple #[.agg (rrow q.f q.t q.ra q.rc q.wa q.wc vv q.keep ve), .nilIface]) ∧ cB w' vv q.vals ∧ Lies w' ve q.echo ∧ (∀ b, vv.ownBlock = some b → w.heap.size ≤ b) ∧ (∀ b, ve.ownBlock = some b → v.ownBlock = some b)) :
  Calls Tryz.prog 105 #[.pointer (some ⟨sb, 0, none⟩), .int .i64 cl, .int .u8 f, v] w fun r w' => Doing w w' sb tb kb e g cl X T hi L us u rs q r := by
 have HPP := hide HP
 have HS := hide h
 obtain ⟨av, cv, rfl⟩ := hv.slice
 have lsb := (Array.getElem?_eq_some_iff.1 h.row).1
 have ltg := (Array.getElem?_eq_some_iff.1 h.tab.ent).1
 clear HP h
 go_enter_defers Tryz.func105, Tryz.ntmps105
 go_wp2_with fail
 refine (aA HPP).mono ?_
 rintro r w1 ⟨hb1, vv, ve, rfl, h2, h3, h4, h5⟩
 obtain ⟨a6, c6, rfl, _⟩ := id h2
 obtain ⟨a8, c8, rfl⟩ := h3.slice
 have H2 := hide h2
 have H3 := hide h3
 have H4 := hide h4
 have H5 := hide h5
 have HB1 := hide hb1
 clear h2 h3 h4 h5 hb1 HPP
 unfold rrow
 go_wp2_with fail
 have HB2 := hide (aD (aA HB1) (aZ w1 (.cells #[.int .u8 q.f, .int .i64 q.t, .int .i64 q.ra, .int .i64 q.rc, .int .i64 q.wa, .int .i64 q.wc, .slice a6 q.vals.length c6, .int .i64 q.keep, .slice a8 q.echo.length c8] 273)))
 have HA2 : Hid ((w1.alloc (.cells #[.int .u8 q.f, .int .i64 q.t, .int .i64 q.ra, .int .i64 q.rc, .int .i64 q.wa, .int .i64 q.wc, .slice a6 q.vals.length c6, .int .i64 q.keep, .slice a8 q.echo.length c8] 273)).heap[w1.heap.size]? = some (.cells #[.int .u8 q.f, .int .i64 q.t, .int .i64 q.ra, .int .i64 q.rc, .int .i64 q.wa, .int .i64 q.wc, .slice a6 q.vals.length c6, .int .i64 q.keep, .slice a8 q.echo.length c8] 273 (0, 0))) := heap_alloc_new w1 _
 have HV2 := hide ((aA H2).below (aZ w1 (.cells #[.int .u8 q.f, .int .i64 q.t, .int .i64 q.ra, .int .i64 q.rc, .int .i64 q.wa, .int .i64 q.wc, .slice a6 q.vals.length c6, .int .i64 q.keep, .slice a8 q.echo.length c8] 273)))
 have HE2 := hide ((aA H3).below (aZ w1 (.cells #[.int .u8 q.f, .int .i64 q.t, .int .i64 q.ra, .int .i64 q.rc, .int .i64 q.wa, .int .i64 q.wc, .slice a6 q.vals.length c6, .int .i64 q.keep, .slice a8 q.echo.length c8] 273)))
 have hrq : w.heap.size ≤ w1.heap.size := (aA HB1).size
 generalize w1.alloc (.cells #[.int .u8 q.f, .int .i64 q.t, .int .i64 q.ra, .int .i64 q.rc, .int .i64 q.wa, .int .i64 q.wc, .slice a6 q.vals.length c6, .int .i64 q.keep, .slice a8 q.echo.length c8] 273) = w2 at HB2 HA2 HV2 HE2 ⊢
 generalize w1.heap.size = rq at HA2 hrq ⊢
 clear H2 H3 HB1
 have HS2 := hide ((aA HS).below (aA HB2))
 have q0 := cell_of_row _ _ 0 _ _ _ (aA HS2).row
 have f0 := frozen_of_row _ _ 0 _ _ (aA HS2).row
 simp [srow] at q0
 refine (lock_free Tryz.muLib ⟨sb, 0, none⟩ _ q0 f0).mono ?_
 rintro r w' ⟨rfl, rfl⟩
 have hub2 : ∀ b, u.ownBlock = some b → ∃ cs fr, w2.heap[b]? = some (.cells cs 52 fr) := fun b e => by
  obtain ⟨cs, fr, q⟩ := hub b e
  exact ⟨cs, fr, ((aA HB2).block b (Array.getElem?_eq_some_iff.1 q).1).trans q⟩
 have HS3 := hide ((aA HS2).lock hub2 1)
 have hc3 : Chg w2 (w2.setCell ⟨sb, 0, none⟩ (.int .i32 1)) (fun k => k = sb) := Chg.set w2 sb 0 _
 have HC3 := hide ((Chg.of_below (aA HB2) (fun k => k = sb)).trans hc3 (fun _ e _ => e))
 have HA3 := hide ((hc3.block rq (Array.getElem?_eq_some_iff.1 (aA HA2)).1 (fun e => by have e' : rq = sb := e; omega)).trans (aA HA2))
 have HV3 := hide (fB (aA HV2) hc3 (fun b e e2 => by have := aA H4 b e; have e3 : b = sb := e2; omega))
 have nve : ∀ b, (Value.slice a8 q.echo.length c8).ownBlock = some b → b ≠ sb ∧ b ≠ g := fun b e => by
  obtain ⟨cs, fr, qq⟩ := hvb b (aA H5 b e)
  exact ⟨bG qq (aA HS).row (by decide), bG qq (aA HS).tab.ent (by decide)⟩
 have HE3 := hide ((aA HE2).chg hc3 (fun b e => (nve b e).1))
 clear hub2 hc3 q0 f0 HV2 HE2 HA2 HS2 H4 H5
 generalize w2.setCell ⟨sb, 0, none⟩ (.int .i32 1) = w3 at HS3 HC3 HA3 HV3 HE3 ⊢
 clear HB2
 have HCk := hide (rG sb tb kb e g cl 1 lm X T hi L us u rs q (.slice a6 q.vals.length c6) (.slice a8 q.echo.length c8) w3 (aA HS3) hq)
 rw [hx] at HCk
 unfold rrow at HCk
 have z0 := cell_of_row _ _ 0 _ _ _ (aA HA3)
 have z1 := cell_of_row _ _ 1 _ _ _ (aA HA3)
 have z2 := cell_of_row _ _ 2 _ _ _ (aA HA3)
 have z3 := cell_of_row _ _ 3 _ _ _ (aA HA3)
 have z4 := cell_of_row _ _ 4 _ _ _ (aA HA3)
 have z5 := cell_of_row _ _ 5 _ _ _ (aA HA3)
 have z6 := cell_of_row _ _ 6 _ _ _ (aA HA3)
 have z7 := cell_of_row _ _ 7 _ _ _ (aA HA3)
 have z8 := cell_of_row _ _ 8 _ _ _ (aA HA3)
 simp at z0 z1 z2 z3 z4 z5 z6 z7 z8
 go_wp2_with fail
 refine (aA HCk).mono ?_
 rintro r w4 ⟨hb4, hr4⟩
 rw [if_pos rfl] at hr4
 subst hr4
 have HS4 := hide ((aA HS3).below hb4)
 have HC4 := hide ((aA HC3).trans (Chg.of_below hb4 (fun _ => False)) (fun _ e _ => e.elim))
 have HA4 := hide ((hb4.block rq (Array.getElem?_eq_some_iff.1 (aA HA3)).1).trans (aA HA3))
 have HV4 := hide ((aA HV3).below hb4)
 have HE4 := hide ((aA HE3).below hb4)
 clear hb4 HCk z0 z1 z2 z3 z4 z5 z6 z7 z8 HS3 HC3 HA3 HV3 HE3
 have z0 := cell_of_row _ _ 0 _ _ _ (aA HA4)
 have z1 := cell_of_row _ _ 1 _ _ _ (aA HA4)
 have z2 := cell_of_row _ _ 2 _ _ _ (aA HA4)
 have z3 := cell_of_row _ _ 3 _ _ _ (aA HA4)
 have z4 := cell_of_row _ _ 4 _ _ _ (aA HA4)
 have z5 := cell_of_row _ _ 5 _ _ _ (aA HA4)
 have z6 := cell_of_row _ _ 6 _ _ _ (aA HA4)
 have z7 := cell_of_row _ _ 7 _ _ _ (aA HA4)
 have z8 := cell_of_row _ _ 8 _ _ _ (aA HA4)
 simp at z0 z1 z2 z3 z4 z5 z6 z7 z8
 have s2 := cell_of_row _ _ 2 _ _ _ (aA HS4).row
 obtain ⟨tc, h1, h2⟩ := (aA HS4).tabs
 have st := cell_of_row _ _ q.t _ _ _ h1
 rw [h2] at st
 simp [srow] at s2
 have ht4 := (aA HS4).t4
 have ht4' : (q.t : Int) < 4 := by omega
 have hcond : (hasB L.length q.ra q.rc = true ∧ hasB L.length q.wa q.wc = true) := by
  unfold excL at hx
  split at hx
  ·rename_i hh
   simpa using hh
  ·simp at hx
 have hrr : q.ra + q.rc ≤ L.length := by
  have := hcond.1
  simp [hasB] at this
  omega
 have hww : q.wa + q.wc ≤ L.length := by
  have := hcond.2
  simp [hasB] at this
  omega
 have nT3 : T ≠ 3 := by rcases (aA HS4).kind with ⟨_, rfl⟩ | ⟨_, rfl⟩ <;> decide
 have hCa : Calls Tryz.prog 158 #[.iface X (.pointer (some ⟨e, 0, none⟩)), .agg #[.int .u8 q.f, .int .i64 q.t, .int .i64 q.ra, .int .i64 q.rc, .int .i64 q.wa, .int .i64 q.wc, .slice a6 q.vals.length c6, .int .i64 q.keep, .slice a8 q.echo.length c8]] w4.drew fun r w' => ∃ a n c, r = .returned (.slice a n c) ∧ CaAt w4 w' e g T hi (bI L q) (.slice a n c) (dS q (cV q.t (bM (bI L q) q.ra q.rc))) := by
  have hbd : Below w4.heap.size w4 w4.drew := (Below.refl _ _).drew
  refine (tM e g X T hi L q a6 c6 a8 c8 w4.drew ((aA HS4).tab.below hbd) (bG (aA HS4).tab.row (aA HS4).tab.ent nT3) hk hq hq2 hL ((aA HV4).below hbd) ((aA HE4).below hbd) (fun b e => (nve b e).2) hrr hww).mono ?_
  rintro r w' ⟨v, rfl, h1, h2, h3⟩
  obtain ⟨a, n, c, rfl⟩ := aP h1
  exact ⟨a, n, c, rfl, h1, h2, ⟨h3.os, h3.tape, h3.output, h3.size, h3.block⟩⟩
 have HCa := hide hCa
 have HK : Hid (w4.cell? ⟨sb, 2, none⟩ = some (.slice (some ⟨tb, 0, none⟩) 4 4) ∧ w4.cell? ⟨tb, q.t, none⟩ = some (.iface X (.pointer (some ⟨e, 0, none⟩))) ∧ w4.cell? ⟨rq, 0, none⟩ = some (.int .u8 q.f) ∧ w4.cell? ⟨rq, 1, none⟩ = some (.int .i64 q.t) ∧ w4.cell? ⟨rq, 2, none⟩ = some (.int .i64 q.ra) ∧ w4.cell? ⟨rq, 3, none⟩ = some (.int .i64 q.rc) ∧ w4.cell? ⟨rq, 4, none⟩ = some (.int .i64 q.wa) ∧ w4.cell? ⟨rq, 5, none⟩ = some (.int .i64 q.wc) ∧ w4.cell? ⟨rq, 6, none⟩ = some (.slice a6 q.vals.length c6) ∧ w4.cell? ⟨rq, 7, none⟩ = some (.int .i64 q.keep) ∧ w4.cell? ⟨rq, 8, none⟩ = some (.slice a8 q.echo.length c8)) := ⟨s2, st, z0, z1, z2, z3, z4, z5, z6, z7, z8⟩
 have nsg : sb ≠ g := fun e => bG (aA HS4).tab.ent (aA HS4).row (by decide) e.symm
 have ntg : tb ≠ g := bG h1 (aA HS4).tab.ent (by decide)
 have nrg : rq ≠ g := by omega
 have hl1 := (Array.getElem?_eq_some_iff.1 (aA HS4).row).1
 have hl2 := (Array.getElem?_eq_some_iff.1 h1).1
 have hl3 := (Array.getElem?_eq_some_iff.1 (aA HA4)).1
 have HK2 : Hid (∀ w' v xs, CaAt w4 w' e g T hi (bI L q) v xs → w'.cell? ⟨sb, 2, none⟩ = some (.slice (some ⟨tb, 0, none⟩) 4 4) ∧ w'.cell? ⟨tb, q.t, none⟩ = some (.iface X (.pointer (some ⟨e, 0, none⟩))) ∧ w'.cell? ⟨rq, 0, none⟩ = some (.int .u8 q.f) ∧ w'.cell? ⟨rq, 1, none⟩ = some (.int .i64 q.t) ∧ w'.cell? ⟨rq, 2, none⟩ = some (.int .i64 q.ra) ∧ w'.cell? ⟨rq, 3, none⟩ = some (.int .i64 q.rc) ∧ w'.cell? ⟨rq, 4, none⟩ = some (.int .i64 q.wa) ∧ w'.cell? ⟨rq, 5, none⟩ = some (.int .i64 q.wc) ∧ w'.cell? ⟨rq, 6, none⟩ = some (.slice a6 q.vals.length c6) ∧ w'.cell? ⟨rq, 7, none⟩ = some (.int .i64 q.keep) ∧ w'.cell? ⟨rq, 8, none⟩ = some (.slice a8 q.echo.length c8)) := fun w' v xs h => by
  have k1 := h.chg.block sb hl1 nsg
  have k2 := h.chg.block tb hl2 ntg
  have k3 := h.chg.block rq hl3 nrg
  obtain ⟨y1, y2, y3, y4, y5, y6, y7, y8, y9, y10, y11⟩ := aA HK
  exact ⟨(World.cell?_of_block k1).trans y1, (World.cell?_of_block k2).trans y2, (World.cell?_of_block k3).trans y3, (World.cell?_of_block k3).trans y4, (World.cell?_of_block k3).trans y5, (World.cell?_of_block k3).trans y6, (World.cell?_of_block k3).trans y7, (World.cell?_of_block k3).trans y8, (World.cell?_of_block k3).trans y9, (World.cell?_of_block k3).trans y10, (World.cell?_of_block k3).trans y11⟩
 clear h1 h2 tc hCa z0 z1 z2 z3 z4 z5 z6 z7 z8 s2 st
 go_wp2_with fail
 go_region_held3 (fun w' => w'.cell? ⟨sb, 2, none⟩ = some (.slice (some ⟨tb, 0, none⟩) 4 4) ∧ w'.cell? ⟨tb, q.t, none⟩ = some (.iface X (.pointer (some ⟨e, 0, none⟩))) ∧ w'.cell? ⟨rq, 0, none⟩ = some (.int .u8 q.f) ∧ w'.cell? ⟨rq, 1, none⟩ = some (.int .i64 q.t) ∧ w'.cell? ⟨rq, 2, none⟩ = some (.int .i64 q.ra) ∧ w'.cell? ⟨rq, 3, none⟩ = some (.int .i64 q.rc) ∧ w'.cell? ⟨rq, 4, none⟩ = some (.int .i64 q.wa) ∧ w'.cell? ⟨rq, 5, none⟩ = some (.int .i64 q.wc) ∧ w'.cell? ⟨rq, 6, none⟩ = some (.slice a6 q.vals.length c6) ∧ w'.cell? ⟨rq, 7, none⟩ = some (.int .i64 q.keep) ∧ w'.cell? ⟨rq, 8, none⟩ = some (.slice a8 q.echo.length c8))
  (first
    | exact aA HK
    | exact aA HK2 _ _ _ (by assumption))
  (first
    | (go_at_call 158; refine (aA HCa).mono ?_; rintro r w5 ⟨a5, n5, c5, rfl, h5⟩)
    | fail)
 all_goals
  rename_i hHeld
  clear hHeld
  have hS5 := (h5.chg.block sb hl1 nsg).trans (aA HS4).row
  have lk := cell_of_row _ _ 0 _ _ _ hS5
  have fk := frozen_of_row _ _ 0 _ _ hS5
  simp [srow] at lk
  have HS5 := hide hS5
  have H5 := hide h5
  clear hS5 h5 HK HK2 HCa
  go_wp2_with fail
  refine leaves_cons (f := 65) (args := #[.pointer (some ⟨sb, 0, none⟩)]) (by simp) (by simp [go_sem]) ?_
  refine (unlock_deferred Tryz.muLib ⟨sb, 0, none⟩ .returning _ lk fk).mono ?_
  rintro r u' w'' ⟨rfl, rfl, rfl⟩
  have cS : Chg w5 (w5.setCell ⟨sb, 0, none⟩ (.int .i32 0)) (fun k => k = sb) := Chg.set w5 sb 0 _
  have nT : T ≠ 143 := by rcases (aA HS4).kind with ⟨_, rfl⟩ | ⟨_, rfl⟩ <;> decide
  have nes : e ≠ sb := bG (aA HS4).tab.row (aA HS4).row nT
  have zw := (aA HC4).size
  refine ⟨_, results_tmp2 rfl _ _ _, (dI (aA HS5)).trans (aA HS).row.symm, (aA H5).tab.chg cS nes (Ne.symm nsg), ((((aA HC4).mono (E := fun k => k = sb ∨ k = g) (fun _ _ e => .inl e)).trans (aA H5).chg (fun _ e _ => .inr e)).trans cS (fun _ e _ => .inl e)), a5, n5, c5, rfl, ?_⟩
  refine Owns.weak (base := w4.heap.size) ?_ zw
  exact aJ (aA H5).own fun k h1 h2 _ => cS.block k h2 (fun e => by have e' : k = sb := e; omega)
def aE0 (w : World) (B rb sb tb kb : Nat) (t : T4) (LL : List (List Rule)) (us : List Value) (q : Req) (r : Ending) (w' : World) : Prop :=
 ∃ a n c, r = .returned (.tuple #[.slice a n c, .int .i64 0]) ∧ Owns w' w.heap.size (.slice a n c) (dS q (cV q.t (bM (bI (t.at q.t).L q) q.ra q.rc))) ∧ BankAt w' B rb sb tb kb (t.put q.t (bI (t.at q.t).L q)) LL us ∧ Chg w w' (fun k => k = sb ∨ k = (t.at q.t).g)
theorem BankAt.sees {w : World} {B rb sb tb kb : Nat} {t : T4} {LL : List (List Rule)} {us : List Value} (h : BankAt w B rb sb tb kb t LL us) (i cl : Nat) (hi : i < 4) (rs : List Rule) (u : Value) (h1 : LL[cl]? = some rs) (h2 : us[cl]? = some u) (h8 : rs.length ≤ 8) :
  Sees w sb tb kb (t.at i).e (t.at i).g cl 0 t.lim (ifOf i) (tyOf i) (hiOf i) (t.at i).L i us u rs := by
 obtain ⟨⟨tc, ht, hti⟩, hT, hX⟩ := h.tab i hi
 refine ⟨?_, ⟨tc, ht, hti⟩, hT, hX, h.st.cl.row, h2, (h.st.cl.at_ cl rs u h1 h2).1, h8, hi⟩
 have := h.st.row
 rw [← h.st.cl.len] at this
 exact this
theorem BankAt.below {w w' : World} {B rb sb tb kb : Nat} {t : T4} {LL : List (List Rule)} {us : List Value} (h : BankAt w B rb sb tb kb t LL us) (hb : Below w.heap.size w w') : BankAt w' B rb sb tb kb t LL us :=
 ⟨(hb.block _ (Array.getElem?_eq_some_iff.1 h.row).1).trans h.row, ⟨(hb.block _ (Array.getElem?_eq_some_iff.1 h.st.row).1).trans h.st.row, h.st.tabs.below hb, h.st.cl.below hb, h.st.lo⟩, h.lo⟩
end Go.Proofs.YtfekelmldebplaaGreatDoor
namespace Go.Proofs.YtfekelmldebplaaGreatDoor
open Go.RowKit
end Go.Proofs.YtfekelmldebplaaGreatDoor
namespace Go.Proofs.YtfekelmldebplaaGreatDoor
open Go.RowKit Go.MuLone
def b5 (a : Nat) (y : Int) : List Int := wd (a : Int) ++ [255 * y, 0]
def q5 (a : Nat) (y : Int) : Req := ⟨5, 0, 0, 0, a, 1, [y], 0, b5 a y⟩
end Go.Proofs.YtfekelmldebplaaGreatDoor
namespace Go.Proofs.YtfekelmldebplaaGreatDoor
open Go.RowKit
theorem rP (old vals : List Int) (hl : old.length = vals.length) (ho : ∀ x ∈ old, 0 ≤ x ∧ x ≤ 65535) (hv : ∀ x ∈ vals, 0 ≤ x ∧ x ≤ 65535) : cU old vals 0 = vals := by
 unfold cU
 apply List.ext_getElem
 ·simp [hl]
 ·intro i h1 h2
  have hi : i < old.length := by omega
  rw [List.getElem_map, List.getElem_range]
  have e1 : old.getD i 0 = old[i] := by simp [List.getD, List.getElem?_eq_getElem hi]
  have e2 : vals.getD i 0 = vals[i] := by simp [List.getD, List.getElem?_eq_getElem h2]
  rw [e1, e2]
  exact oX _ _ (ho _ (List.getElem_mem hi)) (hv _ (List.getElem_mem h2))
theorem mZ (L : List Int) (q : Req) (hk : q.keep = 0) (hl : q.vals.length = q.wc) (hw : q.wa + q.wc ≤ L.length) (ho : ∀ x ∈ L, 0 ≤ x ∧ x ≤ 65535) (hv : ∀ x ∈ q.vals, 0 ≤ x ∧ x ≤ 65535) : bI L q = setL L q.wa q.vals := by
 unfold bI
 rw [hk, rP _ _ (by rw [fX L _ _ hw, hl]) (fun x hx => ho x (uM hx)) hv]
end Go.Proofs.YtfekelmldebplaaGreatDoor
namespace Go.Proofs.YtfekelmldebplaaGreatDoor
open Go.RowKit Go.MuLone
theorem uL (L xs : List Int) (a : Nat) : ∀ x ∈ setL L a xs, x ∈ L ∨ x ∈ xs := fun x hx => by
 unfold setL at hx
 rcases List.mem_append.1 hx with hx | hx
 ·rcases List.mem_append.1 hx with hx | hx
  ·exact .inl (List.mem_of_mem_take hx)
  ·exact .inr hx
 ·exact .inl (List.mem_of_mem_drop hx)
end Go.Proofs.YtfekelmldebplaaGreatDoor
namespace Go.Proofs.YtfekelmldebplaaGreatDoor
open Go.RowKit
end Go.Proofs.YtfekelmldebplaaGreatDoor
namespace Go.Proofs.YtfekelmldebplaaGreatDoor
open Go.RowKit Go.MuLone
theorem aS.keep {w w' : World} {B : Nat} {v : Value} {xs : List Int} {D : Nat → Prop} (h : aS w B v xs) (c : Chg w w' D) (hD : ∀ b, v.ownBlock = some b → ¬ D b) : aS w' B v xs := aJ h fun k _ h2 e => c.block k h2 (hD k e)
theorem BankAt.keep {w w' : World} {B rb sb tb kb : Nat} {t : T4} {LL : List (List Rule)} {us : List Value} {D : Nat → Prop} (h : BankAt w B rb sb tb kb t LL us) (c : Chg w w' D) (hD : ∀ k, B ≤ k → ¬ D k) : BankAt w' B rb sb tb kb t LL us := by
 have b : ∀ {g : Nat} {o : Obj}, w.heap[g]? = some o → B ≤ g → w'.heap[g]? = some o := fun q l => (c.block _ (Array.getElem?_eq_some_iff.1 q).1 (hD _ l)).trans q
 have lo := h.st.tabs.lo
 refine ⟨b h.row h.lo, ⟨b h.st.row h.st.lo, ⟨b h.st.tabs.row (by omega), h.st.tabs.a0.chg c (hD _ (by omega)) (hD _ (by omega)), h.st.tabs.a1.chg c (hD _ (by omega)) (hD _ (by omega)), h.st.tabs.a2.chg c (hD _ (by omega)) (hD _ (by omega)), h.st.tabs.a3.chg c (hD _ (by omega)) (hD _ (by omega)), h.st.tabs.nd, lo⟩, ⟨b h.st.cl.row h.st.cl.lo, h.st.cl.len, h.st.cl.lo, fun i rs u h1 h2 => (h.st.cl.at_ i rs u h1 h2).chg c fun g e => hD g (((h.st.cl.at_ i rs u h1 h2).2 g e).1)⟩, h.st.lo⟩, h.lo⟩
structure CS (w W : World) (B rb sb tb kb : Nat) (t : T4) (us : List Value) (bb cv : Nat) (xs : List Int) (hv : Value) (hs : List Int) : Prop where
 bel : Below w.heap.size w W
 bk : BankAt W B rb sb tb kb t [aEx, []] us
 own : aS W w.heap.size (.slice (some ⟨bb, 0, none⟩) xs.length cv) xs
 head : Owns W w.heap.size hv hs
 lo : w.heap.size ≤ B
 bb : bb < B
end Go.Proofs.YtfekelmldebplaaGreatDoor
namespace Go.Proofs.YtfekelmldebplaaGreatDoor
open Go.RowKit
end Go.Proofs.YtfekelmldebplaaGreatDoor
