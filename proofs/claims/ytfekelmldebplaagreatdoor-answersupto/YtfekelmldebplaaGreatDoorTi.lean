import Derived.Conc.MuLone
import Derived.Deep.RegionHeld3
import Derived.Test.YtfekelmldebplaaGreatDoorUc
import Derived.Test.YtfekelmldebplaaGreatDoorLocks
import Derived.Test.YtfekelmldebplaaGreatDoorBb
set_option maxRecDepth 100000
set_option maxHeartbeats 8000000
namespace Go.Proofs.YtfekelmldebplaaGreatDoor
open Go.RowKit Go.MuLone
structure Tab where
 e : Nat
 g : Nat
 L : List Int
structure Tabs (w : World) (B tb : Nat) (t0 t1 t2 t3 : Tab) : Prop where
 row : w.heap[tb]? = some (.cells #[.iface 221 (.pointer (some ⟨t0.e, 0, none⟩)), .iface 221 (.pointer (some ⟨t1.e, 0, none⟩)), .iface 223 (.pointer (some ⟨t2.e, 0, none⟩)), .iface 223 (.pointer (some ⟨t3.e, 0, none⟩))] 145 (0, 0))
 a0 : TabAt w t0.e t0.g 299 1 t0.L
 a1 : TabAt w t1.e t1.g 299 1 t1.L
 a2 : TabAt w t2.e t2.g 300 65535 t2.L
 a3 : TabAt w t3.e t3.g 300 65535 t3.L
 nd : [t0.g, t1.g, t2.g, t3.g].Nodup
 lo : B ≤ tb ∧ B ≤ t0.e ∧ B ≤ t1.e ∧ B ≤ t2.e ∧ B ≤ t3.e ∧ B ≤ t0.g ∧ B ≤ t1.g ∧ B ≤ t2.g ∧ B ≤ t3.g
theorem Tabs.below {w w' : World} {B tb : Nat} {t0 t1 t2 t3 : Tab} (h : Tabs w B tb t0 t1 t2 t3) (hb : Below w.heap.size w w') : Tabs w' B tb t0 t1 t2 t3 :=
 have k : ∀ {e g : Nat} {T : TypeId} {hi : Int} {L : List Int}, TabAt w e g T hi L → TabAt w' e g T hi L := fun h => ⟨(hb.block _ (Array.getElem?_eq_some_iff.1 h.row).1).trans h.row, (hb.block _ (Array.getElem?_eq_some_iff.1 h.ent).1).trans h.ent, h.len⟩
 ⟨(hb.block _ (Array.getElem?_eq_some_iff.1 h.row).1).trans h.row, k h.a0, k h.a1, k h.a2, k h.a3, h.nd, h.lo⟩
theorem bL {W w : World} (h : Below W.heap.size W w) (o : Obj) : Below W.heap.size W (w.alloc o) := h.alloc h.size o
def NewT (w w' : World) (e g : Nat) (T : TypeId) (hi : Int) (n : Nat) : Prop := (w.heap.size ≤ e ∧ w.heap.size ≤ g ∧ e < w'.heap.size ∧ g < w'.heap.size ∧ e ≠ g) ∧ TabAt w' e g T hi (List.replicate n 0) ∧ Below w.heap.size w w'
theorem NewT.below {w w' : World} {e g : Nat} {T : TypeId} {hi : Int} {n : Nat} (h : NewT w w' e g T hi n) : Below w.heap.size w w' := h.2.2
theorem aBo (n : Nat) (w : World) (hn : n ≤ 200) : Calls Tryz.prog 115 #[.int .i64 n] w fun r w' => ∃ e g, r = .returned (.pointer (some ⟨e, 0, none⟩)) ∧ NewT w w' e g 299 1 n := by
 refine (vT n w hn).mono ?_
 rintro r w' ⟨e, g, rfl, a, b, c, d, f, t, q⟩
 exact ⟨e, g, rfl, ⟨a, b, c, d, f⟩, t, q⟩
theorem yG (n : Nat) (w : World) (hn : n ≤ 200) : Calls Tryz.prog 116 #[.int .i64 n] w fun r w' => ∃ e g, r = .returned (.pointer (some ⟨e, 0, none⟩)) ∧ NewT w w' e g 300 65535 n := by
 refine (sW n w hn).mono ?_
 rintro r w' ⟨e, g, rfl, a, b, c, d, f, t, q⟩
 exact ⟨e, g, rfl, ⟨a, b, c, d, f⟩, t, q⟩
theorem TabAt.below {w w' : World} {e g : Nat} {T : TypeId} {hi : Int} {L : List Int} (h : TabAt w e g T hi L) (hb : Below w.heap.size w w') : TabAt w' e g T hi L :=
 ⟨(hb.block e (Array.getElem?_eq_some_iff.1 h.row).1).trans h.row, (hb.block g (Array.getElem?_eq_some_iff.1 h.ent).1).trans h.ent, h.len⟩
theorem pY {w W wA wB wC wD : World} {e0 g0 e1 g1 e2 g2 e3 g3 n0 n1 n2 n3 : Nat} (hW : Below w.heap.size w W) (hA : NewT W wA e0 g0 299 1 n0) (hB : NewT wA wB e1 g1 299 1 n1) (hC : NewT wB wC e2 g2 300 65535 n2) (hD : NewT wC wD e3 g3 300 65535 n3) :
  Tabs (wD.alloc (.cells #[.iface 221 (.pointer (some ⟨e0, 0, none⟩)), .iface 221 (.pointer (some ⟨e1, 0, none⟩)), .iface 223 (.pointer (some ⟨e2, 0, none⟩)), .iface 223 (.pointer (some ⟨e3, 0, none⟩))] 145)) w.heap.size wD.heap.size ⟨e0, g0, List.replicate n0 0⟩ ⟨e1, g1, List.replicate n1 0⟩ ⟨e2, g2, List.replicate n2 0⟩ ⟨e3, g3, List.replicate n3 0⟩ ∧
   Below w.heap.size w (wD.alloc (.cells #[.iface 221 (.pointer (some ⟨e0, 0, none⟩)), .iface 221 (.pointer (some ⟨e1, 0, none⟩)), .iface 223 (.pointer (some ⟨e2, 0, none⟩)), .iface 223 (.pointer (some ⟨e3, 0, none⟩))] 145)) := by
 have zW := hW.size
 have bA := hA.below
 have bB := hB.below
 have bC := hC.below
 have bD := hD.below
 have zA := bA.size
 have zB := bB.size
 have zC := bC.size
 have zD := bD.size
 obtain ⟨⟨a1, a2, a3, a4, a5⟩, tA, _⟩ := hA
 obtain ⟨⟨b1, b2, b3, b4, b5⟩, tB, _⟩ := hB
 obtain ⟨⟨c1, c2, c3, c4, c5⟩, tC, _⟩ := hC
 obtain ⟨⟨d1, d2, d3, d4, d5⟩, tD, _⟩ := hD
 have bE := bL (Below.refl wD.heap.size wD) (.cells #[.iface 221 (.pointer (some ⟨e0, 0, none⟩)), .iface 221 (.pointer (some ⟨e1, 0, none⟩)), .iface 223 (.pointer (some ⟨e2, 0, none⟩)), .iface 223 (.pointer (some ⟨e3, 0, none⟩))] 145)
 refine ⟨⟨heap_alloc_new wD _, (((tA.below bB).below bC).below bD).below bE, ((tB.below bC).below bD).below bE, (tC.below bD).below bE, tD.below bE, ?_, ?_⟩, aD (aD (aD (aD (aD hW bA) bB) bC) bD) bE⟩
 ·simp only [List.nodup_cons, List.mem_cons, List.not_mem_nil, or_false, not_or, not_false_eq_true, List.nodup_nil, and_true]
  omega
 ·simp only
  omega
theorem pZ (n0 n1 n2 n3 : Nat) (w : World) (h0 : n0 ≤ 200) (h1 : n1 ≤ 200) (h2 : n2 ≤ 200) (h3 : n3 ≤ 200) :
  Calls Tryz.prog 71 #[.agg #[.int .i64 n0, .int .i64 n1, .int .i64 n2, .int .i64 n3]] w fun r w' => ∃ tb e0 g0 e1 g1 e2 g2 e3 g3, r = .returned (.slice (some ⟨tb, 0, none⟩) 4 4) ∧ Tabs w' w.heap.size tb ⟨e0, g0, List.replicate n0 0⟩ ⟨e1, g1, List.replicate n1 0⟩ ⟨e2, g2, List.replicate n2 0⟩ ⟨e3, g3, List.replicate n3 0⟩ ∧ Below w.heap.size w w' := by
 have HK : Hid (∀ w', Below (w.alloc (.cells #[.int .i64 n0, .int .i64 n1, .int .i64 n2, .int .i64 n3] 31)).heap.size (w.alloc (.cells #[.int .i64 n0, .int .i64 n1, .int .i64 n2, .int .i64 n3] 31)) w' → Below (w.alloc (.cells #[.int .i64 n0, .int .i64 n1, .int .i64 n2, .int .i64 n3] 31)).heap.size (w.alloc (.cells #[.int .i64 n0, .int .i64 n1, .int .i64 n2, .int .i64 n3] 31)) w' ∧ w'.cell? ⟨w.heap.size, 0, none⟩ = some (.int .i64 n0) ∧ w'.cell? ⟨w.heap.size, 1, none⟩ = some (.int .i64 n1) ∧ w'.cell? ⟨w.heap.size, 2, none⟩ = some (.int .i64 n2) ∧ w'.cell? ⟨w.heap.size, 3, none⟩ = some (.int .i64 n3)) := fun w' hb => by
  have r := (hb.block w.heap.size (by simp)).trans (heap_alloc_new w _)
  exact ⟨hb, cell_of_row _ _ 0 _ _ _ r, cell_of_row _ _ 1 _ _ _ r, cell_of_row _ _ 2 _ _ _ r, cell_of_row _ _ 3 _ _ _ r⟩
 go_enter Tryz.func71, Tryz.ntmps71
 go_wp2_with fail
 generalize hW : (w.alloc (.cells #[.int .i64 n0, .int .i64 n1, .int .i64 n2, .int .i64 n3] 31)) = W at HK ⊢
 go_region_held3 (fun w' => Below W.heap.size W w' ∧ w'.cell? ⟨w.heap.size, 0, none⟩ = some (.int .i64 n0) ∧ w'.cell? ⟨w.heap.size, 1, none⟩ = some (.int .i64 n1) ∧ w'.cell? ⟨w.heap.size, 2, none⟩ = some (.int .i64 n2) ∧ w'.cell? ⟨w.heap.size, 3, none⟩ = some (.int .i64 n3))
  ((refine aA HK _ ?_; repeat (first
    | exact Below.refl _ _
    | exact And.left (by assumption)
    | refine Below.drew ?_
    | refine bL ?_ _
    | refine aD ?_ (NewT.below (by assumption)))))
  (first
    | (go_at_call 115; refine (aBo _ _ (by assumption)).mono ?_; rintro r w2 ⟨e, g, rfl, hN⟩)
    | (go_at_call 116; refine (yG _ _ (by assumption)).mono ?_; rintro r w2 ⟨e, g, rfl, hN⟩)
    | fail)
 go_wp2
 go_ret
 rename_i wA e0 g0 hA wB e1 g1 hB wC e2 g2 hC hH
 have hW0 : Below w.heap.size w W.drew := by
  rw [← hW]
  exact ((Below.refl _ _).alloc (Nat.le_refl _) _).drew
 have q := pY hW0 hA hB hC hN
 exact ⟨_, _, _, _, _, _, _, _, _, rfl, q.1, q.2⟩
end Go.Proofs.YtfekelmldebplaaGreatDoor
namespace Go.Proofs.YtfekelmldebplaaGreatDoor
open Go.RowKit
theorem vY (x : Rule) (w : World) : Calls Tryz.prog 113 #[.agg x.cells] w fun e w' => e = .returned (.bool x.bad) ∧ Below w.heap.size w w' := by
 obtain ⟨t, lo, hi, r, ww⟩ := x
 unfold Rule.cells
 have hb : Below w.heap.size w (w.alloc (.cells #[.int .i64 t, .int .i64 lo, .int .i64 hi, .bool r, .bool ww] 52)) := (Below.refl _ _).alloc (Nat.le_refl _) _
 have HB := hide hb
 clear hb
 by_cases h0 : t < 0
 ·go_enter Tryz.func113, Tryz.ntmps113
  go_wp2
  go_ret
  exact ⟨aV (by simp [Rule.bad, h0]), aA HB⟩
 ·have h0' : decide (t < 0) = false := by simpa using h0
  by_cases h1 : 4 ≤ t
  ·go_enter Tryz.func113, Tryz.ntmps113
   go_wp2
   go_ret
   exact ⟨aV (by simp [Rule.bad, h1]), aA HB⟩
  ·have h1' : decide (4 ≤ t) = false := by simpa using h1
   by_cases h2 : lo < 0
   ·go_enter Tryz.func113, Tryz.ntmps113
    go_wp2
    go_ret
    exact ⟨aV (by simp [Rule.bad, h2]), aA HB⟩
   ·have h2' : decide (lo < 0) = false := by simpa using h2
    by_cases h3 : hi < lo
    ·go_enter Tryz.func113, Tryz.ntmps113
     go_wp2
     go_ret
     exact ⟨aV (by simp [Rule.bad, h3]), aA HB⟩
    ·have h3' : decide (hi < lo) = false := by simpa using h3
     go_enter Tryz.func113, Tryz.ntmps113
     go_wp2
     go_ret
     exact ⟨aV (by simp [Rule.bad, h0', h1', h2', h3']), aA HB⟩
theorem cK.below {w w' : World} {v : Value} {rs : List Rule} (h : cK w v rs) (hb : Below w.heap.size w w') : cK w' v rs := by
 obtain ⟨a, c, rfl, h⟩ := h
 exact ⟨a, c, rfl, h.imp id fun ⟨b, o, e, hl, hc⟩ => ⟨b, o, e, Nat.lt_of_lt_of_le hl hb.size, fun i x hx j u hu => (hb.cell (by exact hl)).trans (hc i x hx j u hu)⟩⟩
theorem wL (p : Rule → Bool) (rs : List Rule) (k : Nat) (x : Rule) (hx : rs[k]? = some x) : (rs.drop k).any p = (p x || (rs.drop (k + 1)).any p) := by
 have hk := (List.getElem?_eq_some_iff.1 hx).1
 have e := (List.getElem?_eq_some_iff.1 hx).2
 rw [List.drop_eq_getElem_cons hk, e]
 simp only [List.any_cons]
theorem pF (v : Value) (rs : List Rule) (w : World) (h : cK w v rs) (hn : rs.length ≤ 100000000) :
  Calls Tryz.prog 163 #[v, .func (.func 113) #[] #[]] w fun e w' => ∃ k : Int, e = .returned (.int .i64 k) ∧ decide (0 ≤ k) = rs.any Rule.bad ∧ Below w.heap.size w w' := by
 obtain ⟨a, c, rfl, hl⟩ := h
 have HL := hide hl
 clear hl
 go_enter Tryz.func163, Tryz.ntmps163
 go_wp2
 go_loopw [8] (fun i wr => ∃ k : Nat, k ≤ rs.length ∧ i = .int .i64 k ∧ Hid (rs.any Rule.bad = (rs.drop k).any Rule.bad) ∧ Below w.heap.size w wr) (fun i _ => rs.length - (intOf i).toNat)
 case atStart => exact ⟨0, by omega, rfl, hide rfl, Below.refl _ _⟩
 case round =>
  obtain ⟨k, hk, rfl, HA, hb⟩ := hrel
  by_cases hlt : k < rs.length
  ·obtain ⟨x, hx⟩ : ∃ x, rs[k]? = some x := ⟨_, List.getElem?_eq_getElem hlt⟩
   obtain ⟨b, o, rfl, hbl, hc⟩ := (aA HL).resolve_left (fun e => by rw [e] at hlt; simp at hlt)
   have HC := hide (hc k x hx)
   have HN := hide (wL Rule.bad rs k x hx)
   have HW := hide (vY x wr)
   clear hc hx
   obtain ⟨t, lo, hi, rr, ww⟩ := x
   unfold Rule.cells at HC HW
   have g0 := (hb.cell (by exact hbl)).trans (aA HC 0 _ rfl)
   have g1 := (hb.cell (by exact hbl)).trans (aA HC 1 _ rfl)
   have g2 := (hb.cell (by exact hbl)).trans (aA HC 2 _ rfl)
   have g3 := (hb.cell (by exact hbl)).trans (aA HC 3 _ rfl)
   have g4 := (hb.cell (by exact hbl)).trans (aA HC 4 _ rfl)
   rw [Nat.add_zero] at g0
   go_wp2_with fail
   refine (aA HW).mono ?_
   rintro e w2 ⟨rfl, hb2⟩
   clear g0 g1 g2 g3 g4
   generalize hbad : (⟨t, lo, hi, rr, ww⟩ : Rule).bad = bad at HN
   clear hbad
   cases bad with
   | true =>
    go_wp2
    go_ret
    refine ⟨(k : Int), rfl, ?_, aD hb hb2⟩
    rw [aA HA, aA HN]
    simp
   | false =>
    go_wp2
    go_roundw
    case rel =>
     refine ⟨k + 1, by omega, by go_num, ?_, aD hb hb2⟩
     show _ = _
     rw [aA HA, aA HN]
     simp
    case measure => simp [intOf]; omega
  ·obtain rfl : k = rs.length := by omega
   go_wp2
   go_ret
   refine ⟨-1, rfl, ?_, hb⟩
   rw [aA HA]
   simp
theorem lM (v : Value) (rs : List Rule) (w : World) (h : cK w v rs) (hn : rs.length ≤ 100000000) :
  Calls Tryz.prog 112 #[v, .func (.func 113) #[] #[]] w fun e w' => e = .returned (.bool (rs.any Rule.bad)) ∧ Below w.heap.size w w' := by
 have HI := hide (pF v rs w h hn)
 clear h
 go_enter Tryz.func112, Tryz.ntmps112
 go_wp2_with fail
 refine (aA HI).mono ?_
 rintro e w2 ⟨k, rfl, hk, hb⟩
 have HK := hide hk
 clear hk HI
 go_wp2
 go_ret
 exact ⟨aV (aA HK), hb⟩
theorem dJ (w : World) (o : Obj) : Below w.heap.size w (w.alloc o) := (Below.refl _ _).alloc (Nat.le_refl _) _
theorem tF (x : Rule) (w : World) : Calls Tryz.prog 209 #[.agg x.cells] w fun e w' => e = .returned (.bool (lets false x)) ∧ Below w.heap.size w w' := by
 obtain ⟨tt, lo, hi, r, ww⟩ := x
 unfold Rule.cells
 go_enter Tryz.func209, Tryz.ntmps209
 go_wp2
 go_ret
 exact ⟨rfl, by first | exact Below.refl _ _ | exact dJ _ _⟩
theorem qB (x : Rule) (w : World) : Calls Tryz.prog 210 #[.agg x.cells] w fun e w' => e = .returned (.bool (lets true x)) ∧ Below w.heap.size w w' := by
 obtain ⟨tt, lo, hi, r, ww⟩ := x
 unfold Rule.cells
 go_enter Tryz.func210, Tryz.ntmps210
 go_wp2
 go_ret
 exact ⟨rfl, by first | exact Below.refl _ _ | exact dJ _ _⟩
theorem pE (x : Rule) (t ad : Int) (w : World) : Calls Tryz.prog 228 #[.agg x.cells, .int .i64 t, .int .i64 ad] w fun e w' => e = .returned (.bool (x.over t ad)) ∧ Below w.heap.size w w' := by
 obtain ⟨tt, lo, hi, r, ww⟩ := x
 unfold Rule.cells
 by_cases h1 : tt = t
 ·subst h1
  by_cases h2 : lo ≤ ad
  ·go_enter Tryz.func228, Tryz.ntmps228
   go_wp2
   go_ret
   exact ⟨aV (by simp [Rule.over, h2]), by first | exact Below.refl _ _ | exact dJ _ _⟩
  ·have h2' : decide (lo ≤ ad) = false := by simpa using h2
   go_enter Tryz.func228, Tryz.ntmps228
   go_wp2
   go_ret
   exact ⟨aV (by simp [Rule.over, h2']), by first | exact Below.refl _ _ | exact dJ _ _⟩
 ·have h1' : (tt == t) = false := by simpa using h1
  go_enter Tryz.func228, Tryz.ntmps228
  go_wp2
  go_ret
  exact ⟨aV (by simp [Rule.over, h1]), by first | exact Below.refl _ _ | exact dJ _ _⟩
def vW (md : Bool) : Nat := if md then 210 else 209
def aGn (w : World) : Value → Nat
 | .pointer (some ad) => match w.cell? ad with
  | some (.int _ x) => x.toNat
  | _ => 0
 | _ => 0
structure Caught (w : World) (md : Bool) (l p q : Nat) (t ad : Int) : Prop where
 cl : w.cell? ⟨l, 0, none⟩ = some (.func (.func (vW md)) #[] #[])
 cp : w.cell? ⟨p, 0, none⟩ = some (.int .i64 t)
 cq : w.cell? ⟨q, 0, none⟩ = some (.int .i64 ad)
 ll : l < w.heap.size
 lp : p < w.heap.size
 lq : q < w.heap.size
theorem Caught.below {w w' : World} {md : Bool} {l p q : Nat} {t ad : Int} (h : Caught w md l p q t ad) (hb : Below w.heap.size w w') : Caught w' md l p q t ad :=
 ⟨(hb.cell (by exact h.ll)).trans h.cl, (hb.cell (by exact h.lp)).trans h.cp, (hb.cell (by exact h.lq)).trans h.cq, Nat.lt_of_lt_of_le h.ll hb.size, Nat.lt_of_lt_of_le h.lp hb.size, Nat.lt_of_lt_of_le h.lq hb.size⟩
theorem aD5 (md : Bool) (x : Rule) (l p q : Nat) (t ad : Int) (w : World) (h : Caught w md l p q t ad) :
  Calls Tryz.prog 227 #[.agg x.cells, .pointer (some ⟨l, 0, none⟩), .pointer (some ⟨p, 0, none⟩), .pointer (some ⟨q, 0, none⟩)] w fun e w' => e = .returned (.bool (lets md x && x.over t ad)) ∧ Below w.heap.size w w' := by
 cases md with
 | false =>
  have HL := hide (fun w => tF x w)
  have HO := hide (fun w => pE x t ad w)
  generalize hbo : lets false x = bo at HL
  clear hbo
  generalize hbv : x.over t ad = bv at HO
  clear hbv
  obtain ⟨tt, lo, hi, r, ww⟩ := x
  unfold Rule.cells at HL HO ⊢
  have hb0 := dJ w (.cells #[.int .i64 tt, .int .i64 lo, .int .i64 hi, .bool r, .bool ww] 52)
  have H := hide (h.below hb0)
  have HR : Hid ((w.alloc (.cells #[.int .i64 tt, .int .i64 lo, .int .i64 hi, .bool r, .bool ww] 52)).heap[w.heap.size]? = some (.cells #[.int .i64 tt, .int .i64 lo, .int .i64 hi, .bool r, .bool ww] 52 (0, 0))) := heap_alloc_new w _
  have cl := (h.below hb0).cl
  have HB0 := hide hb0
  clear hb0 h
  unfold vW at cl
  simp at cl
  go_enter Tryz.func227, Tryz.ntmps227
  go_wp2_with fail
  refine (aA HL _).mono ?_
  rintro e w1 ⟨rfl, hb1⟩
  have h1 := (aA H).below hb1
  have cp := h1.cp
  have cq := h1.cq
  have r1 := (hb1.block w.heap.size (by simp)).trans (aA HR)
  have g0 := cell_of_row _ _ 0 _ _ _ r1
  have g1 := cell_of_row _ _ 1 _ _ _ r1
  have g2 := cell_of_row _ _ 2 _ _ _ r1
  have g3 := cell_of_row _ _ 3 _ _ _ r1
  have g4 := cell_of_row _ _ 4 _ _ _ r1
  simp at g0 g1 g2 g3 g4
  have HB1 := hide (aD (aA HB0) hb1)
  clear h1 r1 hb1 HL cl
  cases bo with
  | false =>
   go_wp2
   go_ret
   exact ⟨aV (by simp), aA HB1⟩
  | true =>
   go_wp2_with fail
   refine (aA HO _).mono ?_
   rintro e w2 ⟨rfl, hb2⟩
   clear g0 g1 g2 g3 g4 cp cq HO
   go_wp2
   go_ret
   exact ⟨aV (by simp), aD (aA HB1) hb2⟩
 | true =>
  have HL := hide (fun w => qB x w)
  have HO := hide (fun w => pE x t ad w)
  generalize hbo : lets true x = bo at HL
  clear hbo
  generalize hbv : x.over t ad = bv at HO
  clear hbv
  obtain ⟨tt, lo, hi, r, ww⟩ := x
  unfold Rule.cells at HL HO ⊢
  have hb0 := dJ w (.cells #[.int .i64 tt, .int .i64 lo, .int .i64 hi, .bool r, .bool ww] 52)
  have H := hide (h.below hb0)
  have HR : Hid ((w.alloc (.cells #[.int .i64 tt, .int .i64 lo, .int .i64 hi, .bool r, .bool ww] 52)).heap[w.heap.size]? = some (.cells #[.int .i64 tt, .int .i64 lo, .int .i64 hi, .bool r, .bool ww] 52 (0, 0))) := heap_alloc_new w _
  have cl := (h.below hb0).cl
  have HB0 := hide hb0
  clear hb0 h
  unfold vW at cl
  simp at cl
  go_enter Tryz.func227, Tryz.ntmps227
  go_wp2_with fail
  refine (aA HL _).mono ?_
  rintro e w1 ⟨rfl, hb1⟩
  have h1 := (aA H).below hb1
  have cp := h1.cp
  have cq := h1.cq
  have r1 := (hb1.block w.heap.size (by simp)).trans (aA HR)
  have g0 := cell_of_row _ _ 0 _ _ _ r1
  have g1 := cell_of_row _ _ 1 _ _ _ r1
  have g2 := cell_of_row _ _ 2 _ _ _ r1
  have g3 := cell_of_row _ _ 3 _ _ _ r1
  have g4 := cell_of_row _ _ 4 _ _ _ r1
  simp at g0 g1 g2 g3 g4
  have HB1 := hide (aD (aA HB0) hb1)
  clear h1 r1 hb1 HL cl
  cases bo with
  | false =>
   go_wp2
   go_ret
   exact ⟨aV (by simp), aA HB1⟩
  | true =>
   go_wp2_with fail
   refine (aA HO _).mono ?_
   rintro e w2 ⟨rfl, hb2⟩
   clear g0 g1 g2 g3 g4 cp cq HO
   go_wp2
   go_ret
   exact ⟨aV (by simp), aD (aA HB1) hb2⟩
theorem tJ (md : Bool) (v : Value) (rs : List Rule) (l p q : Nat) (t ad : Int) (w : World) (h : cK w v rs) (hn : rs.length ≤ 100000000) (hc : Caught w md l p q t ad) :
  Calls Tryz.prog 235 #[v, .func (.func 227) #[] #[.pointer (some ⟨l, 0, none⟩), .pointer (some ⟨p, 0, none⟩), .pointer (some ⟨q, 0, none⟩)]] w fun e w' => ∃ k : Int, e = .returned (.int .i64 k) ∧ decide (0 ≤ k) = rs.any (fun x => lets md x && x.over t ad) ∧ Below w.heap.size w w' := by
 obtain ⟨a, c, rfl, hl⟩ := h
 have HL := hide hl
 have HCa := hide hc
 clear hl hc
 go_enter Tryz.func235, Tryz.ntmps235
 go_wp2
 go_loopw [8] (fun i wr => ∃ k : Nat, k ≤ rs.length ∧ i = .int .i64 k ∧ Hid (rs.any (fun x => lets md x && x.over t ad) = (rs.drop k).any (fun x => lets md x && x.over t ad)) ∧ Below w.heap.size w wr) (fun i _ => rs.length - (intOf i).toNat)
 case atStart => exact ⟨0, by omega, rfl, hide rfl, Below.refl _ _⟩
 case round =>
  obtain ⟨k, hk, rfl, HA, hb⟩ := hrel
  by_cases hlt : k < rs.length
  ·obtain ⟨x, hx⟩ : ∃ x, rs[k]? = some x := ⟨_, List.getElem?_eq_getElem hlt⟩
   obtain ⟨b, o, rfl, hbl, hc⟩ := (aA HL).resolve_left (fun e => by rw [e] at hlt; simp at hlt)
   have HC := hide (hc k x hx)
   have HN := hide (wL (fun x => lets md x && x.over t ad) rs k x hx)
   clear hc hx
   have HW := hide (aD5 md x l p q t ad _ ((aA HCa).below hb))
   generalize hlt2 : (lets md x && x.over t ad) = bad at HN HW
   clear hlt2
   obtain ⟨tt, lo, hi, rr, ww⟩ := x
   unfold Rule.cells at HC HW
   have g0 := (hb.cell (by exact hbl)).trans (aA HC 0 _ rfl)
   have g1 := (hb.cell (by exact hbl)).trans (aA HC 1 _ rfl)
   have g2 := (hb.cell (by exact hbl)).trans (aA HC 2 _ rfl)
   have g3 := (hb.cell (by exact hbl)).trans (aA HC 3 _ rfl)
   have g4 := (hb.cell (by exact hbl)).trans (aA HC 4 _ rfl)
   rw [Nat.add_zero] at g0
   go_wp2_with fail
   refine (aA HW).mono ?_
   rintro e w2 ⟨rfl, hb2⟩
   clear g0 g1 g2 g3 g4
   cases bad with
   | true =>
    go_wp2
    go_ret
    refine ⟨(k : Int), rfl, ?_, aD hb hb2⟩
    rw [aA HA, aA HN]
    simp
   | false =>
    go_wp2
    go_roundw
    case rel =>
     refine ⟨k + 1, by omega, by go_num, ?_, aD hb hb2⟩
     show _ = _
     rw [aA HA, aA HN]
     simp
    case measure => simp [intOf]; omega
  ·obtain rfl : k = rs.length := by omega
   go_wp2
   go_ret
   refine ⟨-1, rfl, ?_, hb⟩
   rw [aA HA]
   simp
theorem nH (md : Bool) (v : Value) (rs : List Rule) (l p q : Nat) (t ad : Int) (w : World) (h : cK w v rs) (hn : rs.length ≤ 100000000) (hc : Caught w md l p q t ad) :
  Calls Tryz.prog 226 #[v, .func (.func 227) #[] #[.pointer (some ⟨l, 0, none⟩), .pointer (some ⟨p, 0, none⟩), .pointer (some ⟨q, 0, none⟩)]] w fun e w' => e = .returned (.bool (rs.any (fun x => lets md x && x.over t ad))) ∧ Below w.heap.size w w' := by
 have HI := hide (tJ md v rs l p q t ad w h hn hc)
 clear h hc
 go_enter Tryz.func226, Tryz.ntmps226
 go_wp2_with fail
 refine (aA HI).mono ?_
 rintro e w2 ⟨k, rfl, hk, hb⟩
 have HK := hide hk
 clear hk HI
 go_wp2
 go_ret
 exact ⟨aV (aA HK), hb⟩
theorem vV (md : Bool) (v : Value) (rs : List Rule) (t : Int) (a n : Nat) (w : World) (h : cK w v rs) (hn : rs.length ≤ 100000000) (ha : a ≤ 100000) (hc : n ≤ 100000) :
  Calls Tryz.prog 208 #[v, .func (.func (vW md)) #[] #[], .int .i64 t, .int .i64 a, .int .i64 n] w fun e w' => e = .returned (.bool (mayB md rs t a n)) ∧ Below w.heap.size w w' := by
 have H := hide h
 obtain ⟨av, c, rfl, _⟩ := h
 generalize hF : vW md = F
 have HF := hide hF
 clear hF
 go_enter Tryz.func208, Tryz.ntmps208
 go_wp2
 go_loopw [11] (fun pt wr => ∃ k g : Nat, k ≤ n ∧ pt = .pointer (some ⟨g, 0, none⟩) ∧ Caught wr md w.heap.size (w.heap.size + 1) g t ((a : Int) + (k : Int)) ∧ (∀ j, j < k → rs.any (fun x => lets md x && x.over t ((a : Int) + (j : Int))) = true) ∧ Below w.heap.size w wr) (fun pt wr => a + n - aGn wr pt)
 case atStart =>
  have hb : Below w.heap.size w (((w.alloc (.cells #[.func (.func F) #[] #[]] 218)).alloc (.cells #[.int .i64 t] 3)).alloc (.cells #[.int .i64 a] 3)) := (((Below.refl _ _).alloc (Nat.le_refl _) _).alloc (by simp) _).alloc (by simp; omega) _
  refine ⟨0, _, by omega, rfl, ⟨?_, ?_, ?_, by simp; omega, by simp, by simp⟩, fun j hj => by omega, hb⟩
  ·rw [World.cell?_alloc_lt _ _ _ (by simp; omega), World.cell?_alloc_lt _ _ _ (by simp), aA HF]
   exact cell_of_row _ _ 0 _ _ _ (heap_alloc_new w _)
  ·rw [World.cell?_alloc_lt _ _ _ (by simp)]
   have := heap_alloc_new (w.alloc (.cells #[.func (.func F) #[] #[]] 218)) (.cells #[.int .i64 t] 3)
   simp only [World.size_alloc] at this
   exact cell_of_row _ _ 0 _ _ _ this
  ·have := heap_alloc_new ((w.alloc (.cells #[.func (.func F) #[] #[]] 218)).alloc (.cells #[.int .i64 t] 3)) (.cells #[.int .i64 a] 3)
   simp only [World.size_alloc] at this
   have e := cell_of_row _ _ 0 _ _ _ this
   simpa using e
 case round =>
  obtain ⟨k, g, hk, rfl, HC, HA, hb⟩ := hrel
  have cg := HC.cq
  have HCa := hide HC
  have HAA := hide HA
  clear HC HA
  by_cases hlt : k < n
  ·have HR := hide (nH md _ rs w.heap.size (w.heap.size + 1) g t ((a : Int) + (k : Int)) wr ((aA H).below hb) hn (aA HCa))
   have hlt' : (a : Int) + (k : Int) < (a : Int) + (n : Int) := by omega
   have HM : Hid (mayB md rs t a n = true → rs.any (fun x => lets md x && x.over t ((a : Int) + (k : Int))) = true) := fun e => List.all_eq_true.1 e k (List.mem_range.2 hlt)
   have HN : Hid (rs.any (fun x => lets md x && x.over t ((a : Int) + (k : Int))) = true → ∀ j, j < k + 1 → rs.any (fun x => lets md x && x.over t ((a : Int) + (j : Int))) = true) := fun e j hj => by
    by_cases h : j < k
    ·exact aA HAA j h
    ·obtain rfl : j = k := by omega
     exact e
   generalize rs.any (fun x => lets md x && x.over t ((a : Int) + (k : Int))) = bo at HR HM HN
   go_wp2_with fail
   refine (aA HR).mono ?_
   rintro e w2 ⟨rfl, hb2⟩
   have hC2 := (aA HCa).below hb2
   have cg2 := hC2.cq
   have HC2 := hide hC2
   clear HR hC2 cg
   cases bo with
   | false =>
    go_wp2
    go_ret
    refine ⟨aV ?_, aD hb hb2⟩
    cases hmm : mayB md rs t a n with
    | false => rfl
    | true => exact absurd (aA HM hmm) (by simp)
   | true =>
    go_wp2
    go_roundw
    case rel =>
     have hC3 := (aA HC2).below (dJ w2 (.cells #[.int .i64 ((a : Int) + (k : Int) + 1)] 3))
     refine ⟨k + 1, _, by omega, rfl, ⟨hC3.cl, hC3.cp, ?_, hC3.ll, hC3.lp, by simp⟩, aA HN trivial, aD (aD hb hb2) (dJ _ _)⟩
     have e := cell_of_row _ _ 0 _ _ _ (heap_alloc_new w2 (.cells #[.int .i64 ((a : Int) + (k : Int) + 1)] 3))
     rw [e, show ((a : Int) + ((k + 1 : Nat) : Int)) = (a : Int) + (k : Int) + 1 by omega]
     rfl
    case measure =>
     have e := cell_of_row _ _ 0 _ _ _ (heap_alloc_new w2 (.cells #[.int .i64 ((a : Int) + (k : Int) + 1)] 3))
     have e1 := (aA HCa).cq
     simp only [aGn, e, e1]
     simp
     omega
  ·obtain rfl : k = n := by omega
   have hlt' : decide ((a : Int) + (k : Int) < (a : Int) + (k : Int)) = false := by simp
   have HE : Hid (mayB md rs t a k = true) := List.all_eq_true.2 fun j hj => aA HAA j (List.mem_range.1 hj)
   go_wp2
   go_ret
   exact ⟨aV (aA HE).symm, hb⟩
theorem vU (v : Value) (rs : List Rule) (t : Int) (a n : Nat) (w : World) (h : cK w v rs) (hn : rs.length ≤ 100000000) (ha : a ≤ 100000) (hc : n ≤ 100000) :
  Calls Tryz.prog 190 #[v, .int .i64 t, .int .i64 a, .int .i64 n] w fun e w' => e = .returned (.bool (mayB false rs t a n)) ∧ Below w.heap.size w w' := by
 have H := hide (vV false v rs t a n w h hn ha hc)
 obtain ⟨av, c, rfl, _⟩ := h
 go_enter Tryz.func190, Tryz.ntmps190
 go_wp2_with fail
 refine (aA H).mono ?_
 rintro e w1 ⟨rfl, hb⟩
 clear H
 go_wp2
 go_ret
 exact ⟨rfl, hb⟩
theorem sZ (v : Value) (rs : List Rule) (t : Int) (a n : Nat) (w : World) (h : cK w v rs) (hn : rs.length ≤ 100000000) (ha : a ≤ 100000) (hc : n ≤ 100000) :
  Calls Tryz.prog 191 #[v, .int .i64 t, .int .i64 a, .int .i64 n] w fun e w' => e = .returned (.bool (mayB true rs t a n)) ∧ Below w.heap.size w w' := by
 have H := hide (vV true v rs t a n w h hn ha hc)
 obtain ⟨av, c, rfl, _⟩ := h
 go_enter Tryz.func191, Tryz.ntmps191
 go_wp2_with fail
 refine (aA H).mono ?_
 rintro e w1 ⟨rfl, hb⟩
 clear H
 go_wp2
 go_ret
 exact ⟨rfl, hb⟩
theorem eF.below {w w' : World} {B : Nat} {u : Value} {rs : List Rule} (h : eF w B u rs) (hb : Below w.heap.size w w') : eF w' B u rs :=
 ⟨h.1.below hb, fun g e => ⟨(h.2 g e).1, by obtain ⟨cs, fr, q⟩ := (h.2 g e).2; exact ⟨cs, fr, (hb.block g (Array.getElem?_eq_some_iff.1 q).1).trans q⟩⟩⟩
theorem eF.weak {w : World} {B B' : Nat} {u : Value} {rs : List Rule} (h : eF w B u rs) (hb : B' ≤ B) : eF w B' u rs := ⟨h.1, fun g e => ⟨Nat.le_trans hb (h.2 g e).1, (h.2 g e).2⟩⟩
def cE (LL : List (List Rule)) : Bool := LL.all fun rs => decide (rs.length ≤ 8) && !rs.any Rule.bad
structure Clients (w : World) (B kb : Nat) (LL : List (List Rule)) (us : List Value) : Prop where
 row : w.heap[kb]? = some (.cells us.toArray 220 (0, 0))
 len : us.length = LL.length
 lo : B ≤ kb
 at_ : ∀ (i : Nat) rs u, LL[i]? = some rs → us[i]? = some u → eF w B u rs
theorem aEd : (Tryz.prog.info? 220).map (fun i => (i.zero, i.size, i.bytes)) = some (some (.slice none 0 0), 1, 24) := by kernel_rfl
theorem aG5 (n : Nat) (hn : n ≤ 1000000) (u : World) : (Instr.makeSlice 141 (.int .i64 (n : Int)) (.int .i64 (n : Int))).run Tryz.prog u = .ok (.slice (some ⟨u.heap.size, 0, none⟩) n n) (u.alloc (.cells (List.replicate n (Value.slice none 0 0)).toArray 220)) := by
 obtain ⟨i0, hi, hz0, hz1, hz2⟩ := info_parts aEd
 have h := run_make (P := Tryz.prog) (w := u) 141 220 i0 (.slice none 0 0) Tryz.underlying141 hi hz0 .i64 .i64 (n : Int) (n : Int) (by omega) (by omega) (by rw [hz2]; omega) (by omega)
 have e : madeCells #[.slice none 0 0] n = (List.replicate n (Value.slice none 0 0)).toArray := by
  apply Array.ext
  ·simp [madeCells]
  ·intro i h1 h2
   simp [madeCells, Nat.mod_one]
 rw [← e]
 simpa [hz1, Value.cells] using h
structure RLoop (w : World) (LL : List (List Rule)) (k : Nat) (us : List Value) (wr : World) : Prop where
 row : wr.heap[w.heap.size]? = some (.cells us.toArray 220 (0, 0))
 len : us.length = LL.length
 at_ : ∀ (i : Nat) rs u, i < k → LL[i]? = some rs → us[i]? = some u → eF wr w.heap.size u rs
 below : Below w.heap.size w wr
theorem bG {w : World} {g g' : Nat} {cs cs' : Array Value} {t t' : TypeId} {fr fr' : Nat × Nat} (h : w.heap[g]? = some (.cells cs t fr)) (h' : w.heap[g']? = some (.cells cs' t' fr')) (hne : t ≠ t') : g ≠ g' := fun e => by
 subst e
 rw [h] at h'
 simp at h'
 exact hne h'.2.1
theorem eF.chg {w w' : World} {B : Nat} {u : Value} {rs : List Rule} {D : Nat → Prop} (h : eF w B u rs) (c : Chg w w' D) (hD : ∀ g, u.ownBlock = some g → ¬ D g) : eF w' B u rs := by
 obtain ⟨⟨a, cc, rfl, hl⟩, h2⟩ := h
 constructor
 ·refine ⟨a, cc, rfl, ?_⟩
  rcases hl with hl | ⟨b, o, e, hlt, hc⟩
  ·exact .inl hl
  ·refine .inr ⟨b, o, e, Nat.lt_of_lt_of_le hlt c.size, fun i x hx j v hv => ?_⟩
   rw [← hc i x hx j v hv]
   exact World.cell?_of_block (c.block b hlt (hD b (by rw [e]; rfl)))
 ·intro g e
  obtain ⟨q1, cs, fr, q⟩ := h2 g e
  exact ⟨q1, cs, fr, (c.block g (Array.getElem?_eq_some_iff.1 q).1 (hD g e)).trans q⟩
theorem RLoop.step {w wr w2 : World} {LL : List (List Rule)} {k : Nat} {us : List Value} {rs : List Rule} {u : Value} (h : RLoop w LL k us wr) (hk : k < LL.length) (hrs : LL[k]? = some rs) (hb : Below wr.heap.size wr w2) (hu : eF w2 w.heap.size u rs) : RLoop w LL (k + 1) (us.set k u) (w2.setCell ⟨w.heap.size, k, none⟩ u) := by
 have r2 : w2.heap[w.heap.size]? = some (.cells us.toArray 220 (0, 0)) := (hb.block _ (Array.getElem?_eq_some_iff.1 h.row).1).trans h.row
 have c : Chg w2 (w2.setCell ⟨w.heap.size, k, none⟩ u) (fun i => i = w.heap.size) := Chg.set w2 w.heap.size k u
 have keep : ∀ {v : Value} {ss : List Rule}, eF w2 w.heap.size v ss → eF (w2.setCell ⟨w.heap.size, k, none⟩ u) w.heap.size v ss := fun q => q.chg c fun g e e' => by
  obtain ⟨cs, fr, qq⟩ := (q.2 g e).2
  exact bG qq r2 (by decide) e'
 have z := hb.size
 have z2 := h.below.size
 refine ⟨?_, by simp [h.len], fun i rr v hi hr hv => ?_, ?_⟩
 ·rw [heap_setCell_same w2 w.heap.size k _ 220 _ r2]
  simp
 ·by_cases e : i = k
  ·subst e
   rw [hrs] at hr
   cases hr
   have : us.set i u = us.set i u := rfl
   rw [List.getElem?_set_self (by rw [h.len]; exact hk)] at hv
   cases hv
   exact keep hu
  ·rw [List.getElem?_set_ne (by omega)] at hv
   exact keep ((h.at_ i rr v (by omega) hr hv).below hb)
 ·have zz : (w2.setCell ⟨w.heap.size, k, none⟩ u).heap.size = w2.heap.size := by simp [World.setCell]
  exact ⟨hb.os.trans h.below.os, hb.tape.trans h.below.tape, hb.output.trans h.below.output, by omega, fun i p => (c.block i (by omega) (fun e => by have e' : i = w.heap.size := e; omega)).trans ((hb.block i (by omega)).trans (h.below.block i p))⟩
theorem aFo (LL : List (List Rule)) (k : Nat) (rs : List Rule) (h : LL[k]? = some rs) : cE (LL.drop k) = ((decide (rs.length ≤ 8) && !rs.any Rule.bad) && cE (LL.drop (k + 1))) := by
 have hk := (List.getElem?_eq_some_iff.1 h).1
 have e := (List.getElem?_eq_some_iff.1 h).2
 rw [List.drop_eq_getElem_cons hk, e]
 simp only [cE, List.all_cons]
def RNew (w : World) (LL : List (List Rule)) (e : Ending) (w' : World) : Prop :=
 ∃ v, e = .returned (.tuple #[v, .bool (decide (LL.length ≤ 6) && cE LL)]) ∧ ((decide (LL.length ≤ 6) && cE LL) = true → ∃ us, v = .slice (some ⟨w.heap.size, 0, none⟩) LL.length LL.length ∧ Clients w' w.heap.size w.heap.size LL us) ∧ Below w.heap.size w w'
theorem lG (v : Value) (LL : List (List Rule)) (w : World) (h : bZ w v LL) (hn : LL.length ≤ 100000000) (hr : ∀ rs ∈ LL, rs.length ≤ 100000000) :
  Calls Tryz.prog 70 #[v] w fun e w' => RNew w LL e w' := by
 obtain ⟨a, c, rfl, hl⟩ := h
 have HL := hide hl
 have HR := hide hr
 clear hl hr
 by_cases h6 : LL.length ≤ 6
 ·have h6' : decide ((6 : Int) < (LL.length : Int)) = false := by simp; omega
  have hm := aG5 LL.length (by omega)
  have H0 : Hid (RLoop w LL 0 (List.replicate LL.length (Value.slice none 0 0)) (w.alloc (.cells (List.replicate LL.length (Value.slice none 0 0)).toArray 220))) := ⟨heap_alloc_new w _, by simp, fun i _ _ hi => by omega, (Below.refl _ _).alloc (Nat.le_refl _) _⟩
  generalize (List.replicate LL.length (Value.slice none 0 0)) = Z at hm H0
  go_enter Tryz.func70, Tryz.ntmps70
  go_wp2
  go_loopw [15] (fun i wr => ∃ k : Nat, ∃ us, k ≤ LL.length ∧ i = .int .i64 k ∧ Hid (cE LL = cE (LL.drop k)) ∧ Hid (RLoop w LL k us wr)) (fun i _ => LL.length - (intOf i).toNat)
  case atStart => exact ⟨0, Z, by omega, rfl, hide rfl, H0⟩
  case round =>
   obtain ⟨k, us, hk, rfl, HA, HO⟩ := hrel
   by_cases hlt : k < LL.length
   ·obtain ⟨rs, hx⟩ : ∃ rs, LL[k]? = some rs := ⟨_, List.getElem?_eq_getElem hlt⟩
    obtain ⟨b, o, rfl, hbl, hc⟩ := (aA HL).resolve_left (fun e => by rw [e] at hlt; simp at hlt)
    obtain ⟨u, hu, hat⟩ := hc k rs hx
    have cu := ((aA HO).below.cell (by exact hbl)).trans hu
    have hrl := aA HR rs (List.mem_of_getElem? hx)
    have hat' := hat.below (aA HO).below
    have HW := hide (lM u rs wr hat' hrl)
    have HN := hide (aFo LL k rs hx)
    have HX := hide hx
    have HAT := hide hat'
    clear hc hx hu hat
    obtain ⟨au, cc, rfl, _⟩ := hat'
    by_cases h8 : rs.length ≤ 8
    ·have h8' : decide ((8 : Int) < (rs.length : Int)) = false := by simp; omega
     go_wp2_with fail
     refine (aA HW).mono ?_
     rintro e w2 ⟨rfl, hb2⟩
     generalize hbad : rs.any Rule.bad = bad at HN ⊢
     clear hbad HW
     have hz2 := hb2.size
     cases bad with
     | true =>
      go_wp2
      refine bodyPost_ret (v := .tuple #[.slice none 0 0, .bool false]) (by simp [results, Tryz.results70]) rfl ?_
      have e0 : (decide (LL.length ≤ 6) && cE LL) = false := by rw [aA HA, aA HN]; simp
      refine ⟨.slice none 0 0, by rw [e0], fun h => ?_, aD (aA HO).below hb2⟩
      rw [e0] at h
      cases h
     | false =>
      have HCl := hide (pI _ rs w2 ((aA HAT).below hb2) (by omega))
      clear HAT
      go_wp2_with fail
      refine (aA HCl).mono ?_
      rintro e w3 ⟨a3, c3, rfl, hin, hb3⟩
      have hb23 := aD hb2 hb3
      have r3 := (hb23.block w.heap.size (Array.getElem?_eq_some_iff.1 (aA HO).row).1).trans (aA HO).row
      have hkl : k < us.length := by rw [(aA HO).len]; exact hlt
      have c9 : w3.cell? ⟨w.heap.size, k, none⟩ = some us[k] := by
       rw [cell_of_row _ _ _ _ _ _ r3]
       simp [hkl]
      have f9 := frozen_of_row _ _ k _ _ r3
      have HS := hide ((aA HO).step hlt (aA HX) hb23 (hin.weak (by have := (aA HO).below.size; omega)))
      clear hin hb3 hb23 r3 HCl
      generalize us[k] = uk at c9
      go_wp2
      go_roundw
      case rel =>
       refine ⟨k + 1, _, by omega, by go_num, ?_, HS⟩
       show _ = _
       rw [aA HA, aA HN]
       simp; omega
      case measure => simp [intOf]; omega
    ·have h8' : (8 : Int) < (rs.length : Int) := by omega
     go_wp2
     refine bodyPost_ret (v := .tuple #[.slice none 0 0, .bool false]) (by simp [results, Tryz.results70]) rfl ?_
     have e0 : (decide (LL.length ≤ 6) && cE LL) = false := by rw [aA HA, aA HN]; simp; omega
     refine ⟨.slice none 0 0, by rw [e0], fun h => ?_, (aA HO).below⟩
     rw [e0] at h
     cases h
   ·obtain rfl : k = LL.length := by omega
    go_wp2
    refine bodyPost_ret (v := .tuple #[.slice (some ⟨w.heap.size, 0, none⟩) LL.length LL.length, .bool true]) (by simp [results, Tryz.results70]) rfl ?_
    have e1 : (decide (LL.length ≤ 6) && cE LL) = true := by rw [aA HA]; simp [cE, h6]
    exact ⟨_, by rw [e1], fun _ => ⟨us, rfl, (aA HO).row, (aA HO).len, Nat.le_refl _, fun i rs u h1 h2 => (aA HO).at_ i rs u (List.getElem?_eq_some_iff.1 h1).1 h1 h2⟩, (aA HO).below⟩
 ·have h6' : (6 : Int) < (LL.length : Int) := by omega
  have e0 : (decide (LL.length ≤ 6) && cE LL) = false := by simp [h6]
  have E0 := hide e0
  clear e0
  go_enter Tryz.func70, Tryz.ntmps70
  go_wp2
  refine bodyPost_ret (v := .tuple #[.slice none 0 0, .bool false]) (by simp [results, Tryz.results70]) rfl ?_
  refine ⟨.slice none 0 0, by rw [aA E0], fun h => ?_, Below.refl _ _⟩
  rw [aA E0] at h
  cases h
structure StoreAt (w : World) (B sb tb kb : Nat) (lm : Int) (t0 t1 t2 t3 : Tab) (LL : List (List Rule)) (us : List Value) : Prop where
 row : w.heap[sb]? = some (.cells #[.int .i32 0, .int .u32 0, .slice (some ⟨tb, 0, none⟩) 4 4, .slice (some ⟨kb, 0, none⟩) LL.length LL.length, .int .i64 lm] 143 (0, 0))
 tabs : Tabs w B tb t0 t1 t2 t3
 cl : Clients w B kb LL us
 lo : B ≤ sb
theorem bZ.below {w w' : World} {v : Value} {LL : List (List Rule)} (h : bZ w v LL) (hb : Below w.heap.size w w') : bZ w' v LL := by
 obtain ⟨a, c, rfl, h⟩ := h
 refine ⟨a, c, rfl, ?_⟩
 rcases h with h | ⟨b, o, e, hl, hc⟩
 ·exact .inl h
 ·refine .inr ⟨b, o, e, Nat.lt_of_lt_of_le hl hb.size, fun i rs hx => ?_⟩
  obtain ⟨u, q1, q2⟩ := hc i rs hx
  exact ⟨u, (hb.cell (by exact hl)).trans q1, q2.below hb⟩
theorem Clients.below {w w' : World} {B kb : Nat} {LL : List (List Rule)} {us : List Value} (h : Clients w B kb LL us) (hb : Below w.heap.size w w') : Clients w' B kb LL us :=
 ⟨(hb.block _ (Array.getElem?_eq_some_iff.1 h.row).1).trans h.row, h.len, h.lo, fun i rs u h1 h2 => (h.at_ i rs u h1 h2).below hb⟩
theorem Clients.weak {w : World} {B B' kb : Nat} {LL : List (List Rule)} {us : List Value} (h : Clients w B kb LL us) (hb : B' ≤ B) : Clients w B' kb LL us :=
 ⟨h.row, h.len, Nat.le_trans hb h.lo, fun i rs u h1 h2 => (h.at_ i rs u h1 h2).weak hb⟩
theorem Tabs.weak {w : World} {B B' tb : Nat} {t0 t1 t2 t3 : Tab} (h : Tabs w B tb t0 t1 t2 t3) (hb : B' ≤ B) : Tabs w B' tb t0 t1 t2 t3 :=
 ⟨h.row, h.a0, h.a1, h.a2, h.a3, h.nd, by have := h.lo; omega⟩
theorem aEf (a b c d : Value) (w : World) : (Instr.index 31 (.agg #[a, b, c, d]) (.int .i64 0)).run Tryz.prog w = .ok a w ∧ (Instr.index 31 (.agg #[a, b, c, d]) (.int .i64 1)).run Tryz.prog w = .ok b w ∧
  (Instr.index 31 (.agg #[a, b, c, d]) (.int .i64 2)).run Tryz.prog w = .ok c w ∧ (Instr.index 31 (.agg #[a, b, c, d]) (.int .i64 3)).run Tryz.prog w = .ok d w := by
 refine ⟨?_, ?_, ?_, ?_⟩ <;> kernel_rfl
theorem wI (n0 n1 n2 n3 : Nat) (lim : Int) (v : Value) (LL : List (List Rule)) (w : World) (h0 : n0 ≤ 200) (h1 : n1 ≤ 200) (h2 : n2 ≤ 200) (h3 : n3 ≤ 200) (hl1 : 1 ≤ lim) (hl2 : lim ≤ 4) (h : bZ w v LL) (hn : LL.length ≤ 6) (hr : cE LL = true) :
  Calls Tryz.prog 47 #[.agg #[.int .i64 n0, .int .i64 n1, .int .i64 n2, .int .i64 n3, .int .i64 lim, v]] w fun e w' => ∃ sb tb kb e0 g0 e1 g1 e2 g2 e3 g3 us, e = .returned (.tuple #[.pointer (some ⟨sb, 0, none⟩), .int .i64 0]) ∧
   StoreAt w' w.heap.size sb tb kb lim ⟨e0, g0, List.replicate n0 0⟩ ⟨e1, g1, List.replicate n1 0⟩ ⟨e2, g2, List.replicate n2 0⟩ ⟨e3, g3, List.replicate n3 0⟩ LL us ∧ Below w.heap.size w w' := by
 have hb0 : Below w.heap.size w (w.alloc (.cells #[.int .i64 n0, .int .i64 n1, .int .i64 n2, .int .i64 n3, .int .i64 lim, v] 58)) := (Below.refl _ _).alloc (Nat.le_refl _) _
 have HR := hide (lG v LL _ (h.below hb0) (by omega) (fun rs hm => by
  have := List.all_eq_true.1 hr rs hm
  simp at this
  omega))
 have HB0 := hide hb0
 have R0 : Hid ((w.alloc (.cells #[.int .i64 n0, .int .i64 n1, .int .i64 n2, .int .i64 n3, .int .i64 lim, v] 58)).heap[w.heap.size]? = some (.cells #[.int .i64 n0, .int .i64 n1, .int .i64 n2, .int .i64 n3, .int .i64 lim, v] 58 (0, 0))) := heap_alloc_new w _
 obtain ⟨a, c, rfl, _⟩ := h
 clear hb0
 go_enter Tryz.func47, Tryz.ntmps47
 go_wp2_with fail
 refine (aA HR).mono ?_
 rintro e w1 ⟨v1, rfl, hcl, hb1⟩
 have e1 : (decide (LL.length ≤ 6) && cE LL) = true := by simp [hn, hr]
 rw [e1] at hcl ⊢
 obtain ⟨us, rfl, hcl2⟩ := hcl rfl
 have HC := hide hcl2
 have HB1 := hide hb1
 have R1 := hide ((hb1.block w.heap.size (by simp)).trans (aA R0))
 have q0 := cell_of_row _ _ 0 _ _ _ (aA R1)
 have q1 := cell_of_row _ _ 1 _ _ _ (aA R1)
 have q2 := cell_of_row _ _ 2 _ _ _ (aA R1)
 have q3 := cell_of_row _ _ 3 _ _ _ (aA R1)
 have q4 := cell_of_row _ _ 4 _ _ _ (aA R1)
 simp at q0 q1 q2 q3 q4
 clear hcl hcl2 hb1 HR R0 e1
 have hsz := aEf (.int .i64 n0) (.int .i64 n1) (.int .i64 n2) (.int .i64 n3)
 have hx0 := fun w => (hsz w).1
 have hx1 := fun w => (hsz w).2.1
 have hx2 := fun w => (hsz w).2.2.1
 have hx3 := fun w => (hsz w).2.2.2
 clear hsz
 have l1 : decide (lim < 1) = false := by simp; omega
 have l2 : decide (4 < lim) = false := by simp; omega
 go_wp2_with fail
 go_loopw [28] (fun i wr => ∃ k : Nat, k ≤ 4 ∧ i = .int .i64 k ∧ wr = w1) (fun i _ => 4 - (intOf i).toNat)
 case atStart => exact ⟨0, by omega, rfl, rfl⟩
 case round =>
  obtain ⟨k, hk, rfl, hwr⟩ := hrel
  subst hwr
  have hk5 : k = 0 ∨ k = 1 ∨ k = 2 ∨ k = 3 ∨ k = 4 := by omega
  rcases hk5 with rfl | rfl | rfl | rfl | rfl
  ·have s1 : decide (((n0 : Nat) : Int) < 0) = false := by simp
   have s2 : decide ((200 : Int) < ((n0 : Nat) : Int)) = false := by simp; omega
   go_wp2
   go_roundw
   case rel => exact ⟨1, by omega, by simp, by trivial⟩
   case measure => simp [intOf]
  ·have s1 : decide (((n1 : Nat) : Int) < 0) = false := by simp
   have s2 : decide ((200 : Int) < ((n1 : Nat) : Int)) = false := by simp; omega
   go_wp2
   go_roundw
   case rel => exact ⟨2, by omega, by simp, by trivial⟩
   case measure => simp [intOf]
  ·have s1 : decide (((n2 : Nat) : Int) < 0) = false := by simp
   have s2 : decide ((200 : Int) < ((n2 : Nat) : Int)) = false := by simp; omega
   go_wp2
   go_roundw
   case rel => exact ⟨3, by omega, by simp, by trivial⟩
   case measure => simp [intOf]
  ·have s1 : decide (((n3 : Nat) : Int) < 0) = false := by simp
   have s2 : decide ((200 : Int) < ((n3 : Nat) : Int)) = false := by simp; omega
   go_wp2
   go_roundw
   case rel => exact ⟨4, by omega, by simp, by trivial⟩
   case measure => simp [intOf]
  ·have HT : Hid (Calls Tryz.prog 71 #[.agg #[.int .i64 n0, .int .i64 n1, .int .i64 n2, .int .i64 n3]] wr.drew fun e w' => ∃ tb e0 g0 e1 g1 e2 g2 e3 g3, e = .returned (.slice (some ⟨tb, 0, none⟩) 4 4) ∧ Tabs w' wr.heap.size tb ⟨e0, g0, List.replicate n0 0⟩ ⟨e1, g1, List.replicate n1 0⟩ ⟨e2, g2, List.replicate n2 0⟩ ⟨e3, g3, List.replicate n3 0⟩ ∧ Below wr.heap.size wr w') := by
    refine (pZ n0 n1 n2 n3 wr.drew h0 h1 h2 h3).mono ?_
    rintro e w' ⟨tb, e0, g0, e1, g1, e2, g2, e3, g3, rfl, hT, hb⟩
    exact ⟨tb, e0, g0, e1, g1, e2, g2, e3, g3, rfl, hT, ⟨hb.os, hb.tape, hb.output, hb.size, hb.block⟩⟩
   have HK : Hid (wr.cell? ⟨w.heap.size, 0, none⟩ = some (.int .i64 n0) ∧ wr.cell? ⟨w.heap.size, 1, none⟩ = some (.int .i64 n1) ∧ wr.cell? ⟨w.heap.size, 2, none⟩ = some (.int .i64 n2) ∧ wr.cell? ⟨w.heap.size, 3, none⟩ = some (.int .i64 n3) ∧ wr.cell? ⟨w.heap.size, 4, none⟩ = some (.int .i64 lim)) := ⟨q0, q1, q2, q3, q4⟩
   have HL := hide (Array.getElem?_eq_some_iff.1 (aA R1)).1
   have HK2 : Hid (∀ w', Below wr.heap.size wr w' → w'.cell? ⟨w.heap.size, 0, none⟩ = some (.int .i64 n0) ∧ w'.cell? ⟨w.heap.size, 1, none⟩ = some (.int .i64 n1) ∧ w'.cell? ⟨w.heap.size, 2, none⟩ = some (.int .i64 n2) ∧ w'.cell? ⟨w.heap.size, 3, none⟩ = some (.int .i64 n3) ∧ w'.cell? ⟨w.heap.size, 4, none⟩ = some (.int .i64 lim)) := fun w' h => by
    obtain ⟨y0, y1, y2, y3, y4⟩ := aA HK
    exact ⟨(h.cell (aA HL)).trans y0, (h.cell (aA HL)).trans y1, (h.cell (aA HL)).trans y2, (h.cell (aA HL)).trans y3, (h.cell (aA HL)).trans y4⟩
   clear q0 q1 q2 q3 q4
   go_wp2_with fail
   go_region_held3 (fun w' => w'.cell? ⟨w.heap.size, 0, none⟩ = some (.int .i64 n0) ∧ w'.cell? ⟨w.heap.size, 1, none⟩ = some (.int .i64 n1) ∧ w'.cell? ⟨w.heap.size, 2, none⟩ = some (.int .i64 n2) ∧ w'.cell? ⟨w.heap.size, 3, none⟩ = some (.int .i64 n3) ∧ w'.cell? ⟨w.heap.size, 4, none⟩ = some (.int .i64 lim))
    (first
      | exact aA HK
      | exact aA HK2 _ (by assumption)
      | exact aA HK2 _ (bL (by assumption) _))
    (first
      | (go_at_call 71; refine (aA HT).mono ?_; rintro e w2 ⟨tb, e0, g0, e1, g1, e2, g2, e3, g3, rfl, hT, hb2⟩)
      | fail)
   all_goals
    have HT2 := hide hT
    have HB2 := hide hb2
    clear hT hb2 HT
    go_wp2
    refine bodyPost_ret (v := .tuple #[.pointer (some ⟨w2.heap.size, 0, none⟩), .int .i64 0]) (by simp [results, Tryz.results47]) rfl ?_
    have z0 := (aA HB0).size
    have z1 := (aA HB1).size
    have z2 := (aA HB2).size
    have hbE : Below w2.heap.size w2 (w2.alloc (.cells #[.int .i32 0, .int .u32 0, .slice (some ⟨tb, 0, none⟩) 4 4, .slice (some ⟨w.heap.size + 1, 0, none⟩) LL.length LL.length, .int .i64 lim] 143)) := bL (Below.refl _ _) _
    have HC' := aA HC
    rw [show (w.alloc (.cells #[.int .i64 n0, .int .i64 n1, .int .i64 n2, .int .i64 n3, .int .i64 lim, .slice a LL.length c] 58)).heap.size = w.heap.size + 1 by simp] at HC'
    refine ⟨w2.heap.size, tb, w.heap.size + 1, e0, g0, e1, g1, e2, g2, e3, g3, us, rfl, ⟨heap_alloc_new w2 _, ((aA HT2).weak (by simp at z1; omega)).below hbE, ((HC'.weak (by omega)).below (aA HB2)).below hbE, by simp at z1; omega⟩, ?_⟩
    exact aD (aD (aD (aA HB0) (aA HB1)) (aA HB2)) hbE
end Go.Proofs.YtfekelmldebplaaGreatDoor
namespace Go.Proofs.YtfekelmldebplaaGreatDoor
open Go.RowKit Go.MuLone
theorem gK (sb tb : Nat) (t : Int) (w : World) (h : w.cell? ⟨sb, 2, none⟩ = some (.slice (some ⟨tb, 0, none⟩) 4 4)) :
  Calls Tryz.prog 66 #[.pointer (some ⟨sb, 0, none⟩), .int .i64 t] w fun e w' => e = .returned (.bool (decide (0 ≤ t) && decide (t < 4))) ∧ Below w.heap.size w w' := by
 by_cases h0 : 0 ≤ t
 ·go_enter Tryz.func66, Tryz.ntmps66
  go_wp2
  go_ret
  exact ⟨aV (by simp [h0]), Below.refl _ _⟩
 ·have h0' : decide (0 ≤ t) = false := by simpa using h0
  go_enter Tryz.func66, Tryz.ntmps66
  go_wp2
  go_ret
  exact ⟨aV (by simp), Below.refl _ _⟩
theorem mH (e : Nat) (w : World) : (method 484 221 (.pointer (some ⟨e, 0, none⟩)) "Has").run Tryz.prog w = .ok (261, .pointer (some ⟨e, 0, none⟩)) w := by kernel_rfl
theorem mF (e : Nat) (w : World) : (method 484 223 (.pointer (some ⟨e, 0, none⟩)) "Has").run Tryz.prog w = .ok (261, .pointer (some ⟨e, 0, none⟩)) w := by kernel_rfl
theorem sY (e : Nat) (w : World) : (method 484 221 (.pointer (some ⟨e, 0, none⟩)) "Allows").run Tryz.prog w = .ok (259, .pointer (some ⟨e, 0, none⟩)) w := by kernel_rfl
theorem sX (e : Nat) (w : World) : (method 484 223 (.pointer (some ⟨e, 0, none⟩)) "Allows").run Tryz.prog w = .ok (259, .pointer (some ⟨e, 0, none⟩)) w := by kernel_rfl
theorem qW (e : Nat) (w : World) : (method 484 221 (.pointer (some ⟨e, 0, none⟩)) "Get").run Tryz.prog w = .ok (260, .pointer (some ⟨e, 0, none⟩)) w := by kernel_rfl
theorem qV (e : Nat) (w : World) : (method 484 223 (.pointer (some ⟨e, 0, none⟩)) "Get").run Tryz.prog w = .ok (260, .pointer (some ⟨e, 0, none⟩)) w := by kernel_rfl
theorem qU (e : Nat) (w : World) : (method 484 221 (.pointer (some ⟨e, 0, none⟩)) "Set").run Tryz.prog w = .ok (263, .pointer (some ⟨e, 0, none⟩)) w := by kernel_rfl
theorem qT (e : Nat) (w : World) : (method 484 223 (.pointer (some ⟨e, 0, none⟩)) "Set").run Tryz.prog w = .ok (263, .pointer (some ⟨e, 0, none⟩)) w := by kernel_rfl
def srow (l : Int) (tb : Nat) (cv : Value) (lm : Int) : Array Value := #[.int .i32 l, .int .u32 0, .slice (some ⟨tb, 0, none⟩) 4 4, cv, .int .i64 lm]
theorem dI {w : World} {sb tb : Nat} {l l' lm : Int} {cv : Value} (h : w.heap[sb]? = some (.cells (srow l tb cv lm) 143 (0, 0))) : (w.setCell ⟨sb, 0, none⟩ (.int .i32 l')).heap[sb]? = some (.cells (srow l' tb cv lm) 143 (0, 0)) := by
 rw [heap_setCell_same w sb 0 _ 143 _ h]
 simp [srow]
theorem TabAt.chg {w w' : World} {e g : Nat} {T : TypeId} {hi : Int} {L : List Int} {D : Nat → Prop} (h : TabAt w e g T hi L) (c : Chg w w' D) (he : ¬ D e) (hg : ¬ D g) : TabAt w' e g T hi L :=
 ⟨(c.block e (Array.getElem?_eq_some_iff.1 h.row).1 he).trans h.row, (c.block g (Array.getElem?_eq_some_iff.1 h.ent).1 hg).trans h.ent, h.len⟩
theorem cB.chg {w w' : World} {v : Value} {xs : List Int} {D : Nat → Prop} (h : cB w v xs) (c : Chg w w' D) (hD : ∀ b, v.ownBlock = some b → ¬ D b) : cB w' v xs := by
 obtain ⟨a, cc, rfl, h⟩ := h
 refine ⟨a, cc, rfl, ?_⟩
 rcases h with h | ⟨b, o, e, hl, hc⟩
 ·exact .inl h
 ·exact .inr ⟨b, o, e, Nat.lt_of_lt_of_le hl c.size, fun i hi => by rw [← hc i hi]; exact World.cell?_of_block (c.block b hl (hD b (by rw [e]; rfl)))⟩
def cP (n : Nat) (hi a : Int) (xs : List Int) : Int := if hasB n a xs.length then (if fC hi xs then 0 else 5) else 4
theorem qD (sb tb e g i : Nat) (cv : Value) (lm : Int) (tc : Array Value) (X T : TypeId) (hi : Int) (L : List Int) (a : Int) (v : Value) (xs : List Int) (w : World) (hs : w.heap[sb]? = some (.cells (srow 0 tb cv lm) 143 (0, 0))) (ht : w.heap[tb]? = some (.cells tc 145 (0, 0))) (hti : tc[i]? = some (.iface X (.pointer (some ⟨e, 0, none⟩)))) (hi4 : i < 4)
  (hT : TabAt w e g T hi L) (hX : (X = 221 ∧ T = 299) ∨ (X = 223 ∧ T = 300)) (hx : cB w v xs) (hxs : ∀ b, v.ownBlock = some b → b ≠ sb) (hn : xs.length ≤ 1000000000) (ha : a ≤ 9223372036854775807) :
  Calls Tryz.prog 43 #[.pointer (some ⟨sb, 0, none⟩), .int .i64 i, .int .i64 a, v] w fun r w' => r = .returned (.int .i64 (cP L.length hi a xs)) ∧ w'.heap[sb]? = some (.cells (srow 0 tb cv lm) 143 (0, 0)) ∧ TabAt w' e g T hi (if cP L.length hi a xs = 0 then setL L a.toNat xs else L) ∧ Chg w w' (fun k => k = sb ∨ k = g) := by
 obtain ⟨LR, hLR⟩ : ∃ LR, LR = if cP L.length hi a xs = 0 then setL L a.toNat xs else L := ⟨_, rfl⟩
 obtain ⟨er, hER⟩ : ∃ er, er = cP L.length hi a xs := ⟨_, rfl⟩
 rw [← hLR, ← hER]
 have HLR := hide hLR
 have HER := hide hER
 clear hLR hER
 have q0 := cell_of_row _ _ 0 _ _ _ hs
 have f0 := frozen_of_row _ _ 0 _ _ hs
 simp [srow] at q0
 have nT3 : T ≠ 3 := by rcases hX with ⟨_, rfl⟩ | ⟨_, rfl⟩ <;> decide
 have nT113 : T ≠ 143 := by rcases hX with ⟨_, rfl⟩ | ⟨_, rfl⟩ <;> decide
 have neg : e ≠ g := bG hT.row hT.ent nT3
 have nes : e ≠ sb := bG hT.row hs nT113
 have ngs : g ≠ sb := bG hT.ent hs (by decide)
 have nts : tb ≠ sb := bG ht hs (by decide)
 have c1 : Chg w (w.setCell ⟨sb, 0, none⟩ (.int .i32 1)) (fun k => k = sb) := Chg.set w sb 0 _
 have HS1 := hide (dI (l' := 1) hs)
 have HT1 := hide (hT.chg c1 nes ngs)
 have HX1 := hide (hx.chg c1 hxs)
 have ht1 := (c1.block tb (Array.getElem?_eq_some_iff.1 ht).1 nts).trans ht
 have HTR := hide ht1
 have HTI := hide hti
 have C1 := hide c1
 obtain ⟨av, cc, rfl, _⟩ := id hx
 clear c1 ht1 hx hs hT ht hti hxs
 go_enter_defers Tryz.func43, Tryz.ntmps43
 go_wp2_with (go_at_call 64; refine (lock_free Tryz.muLib ⟨sb, 0, none⟩ _ q0 f0).mono ?_; rintro e w' ⟨rfl, rfl⟩)
 generalize w.setCell ⟨sb, 0, none⟩ (.int .i32 1) = W1 at HS1 HT1 HX1 HTR C1 ⊢
 have c2 := cell_of_row _ _ 2 _ _ _ (aA HS1)
 simp [srow] at c2
 have hd : (decide ((0 : Int) ≤ (i : Int)) && decide ((i : Int) < 4)) = true := by simp; omega
 refine (gK sb tb (i : Int) W1 c2).mono ?_
 rintro r w2 ⟨rfl, hb2⟩
 rw [hd]
 have hS2 := (hb2.block sb (Array.getElem?_eq_some_iff.1 (aA HS1)).1).trans (aA HS1)
 have hTR2 := (hb2.block tb (Array.getElem?_eq_some_iff.1 (aA HTR)).1).trans (aA HTR)
 have c2 := cell_of_row _ _ 2 _ _ _ hS2
 have ci := cell_of_row _ _ i _ _ _ hTR2
 rw [aA HTI] at ci
 simp [srow] at c2
 have hi4' : (i : Int) < 4 := by omega
 have HS2 := hide hS2
 have HTR2 := hide hTR2
 clear hS2 hTR2 hd
 have HT2 := hide ((aA HT1).below hb2)
 have HX2 := hide ((aA HX1).below hb2)
 have C2 := hide ((aA C1).trans (Chg.of_below hb2 (fun _ => False)) (fun _ e _ => e.elim))
 clear HT1 HX1 C1 HS1 HTR hb2
 have m1 : ∀ w, (method 484 X (.pointer (some ⟨e, 0, none⟩)) "Has").run Tryz.prog w = .ok (261, .pointer (some ⟨e, 0, none⟩)) w := fun w => by
  rcases hX with ⟨rfl, _⟩ | ⟨rfl, _⟩
  ·exact mH e w
  ·exact mF e w
 have m2 : ∀ w, (method 484 X (.pointer (some ⟨e, 0, none⟩)) "Allows").run Tryz.prog w = .ok (259, .pointer (some ⟨e, 0, none⟩)) w := fun w => by
  rcases hX with ⟨rfl, _⟩ | ⟨rfl, _⟩
  ·exact sY e w
  ·exact sX e w
 have m3 : ∀ w, (method 484 X (.pointer (some ⟨e, 0, none⟩)) "Set").run Tryz.prog w = .ok (263, .pointer (some ⟨e, 0, none⟩)) w := fun w => by
  rcases hX with ⟨rfl, _⟩ | ⟨rfl, _⟩
  ·exact qU e w
  ·exact qT e w
 clear hX
 go_wp2_with fail
 refine (nM w2 e g T hi L a xs.length (aA HT2) ha).mono ?_
 rintro r w3 ⟨rfl, hb3⟩
 have hS3 := (hb3.block sb (Array.getElem?_eq_some_iff.1 (aA HS2)).1).trans (aA HS2)
 have hTR3 := (hb3.block tb (Array.getElem?_eq_some_iff.1 (aA HTR2)).1).trans (aA HTR2)
 have HT3 := hide ((aA HT2).below hb3)
 have HX3 := hide ((aA HX2).below hb3)
 have C3 := hide ((aA C2).trans (Chg.of_below hb3 (fun _ => False)) (fun _ e _ => e.elim))
 have HS3 := hide hS3
 have HTR3 := hide hTR3
 have c2 := cell_of_row _ _ 2 _ _ _ hS3
 have lk := cell_of_row _ _ 0 _ _ _ hS3
 have fk := frozen_of_row _ _ 0 _ _ hS3
 have ci := cell_of_row _ _ i _ _ _ hTR3
 rw [aA HTI] at ci
 simp [srow] at c2 lk
 clear hS3 hTR3 hb3 HT2 HX2 C2 HS2 HTR2
 by_cases hh : hasB L.length a xs.length = true
 ·have HH := hide hh
  rw [hh]
  clear hh
  go_wp2_with fail
  refine (zL w3 e g T hi L _ xs (aA HT3) (aA HX3) hn).mono ?_
  rintro r w4 ⟨rfl, hb4⟩
  have hS4 := (hb4.block sb (Array.getElem?_eq_some_iff.1 (aA HS3)).1).trans (aA HS3)
  have hTR4 := (hb4.block tb (Array.getElem?_eq_some_iff.1 (aA HTR3)).1).trans (aA HTR3)
  have HT4 := hide ((aA HT3).below hb4)
  have HX4 := hide ((aA HX3).below hb4)
  have C4 := hide ((aA C3).trans (Chg.of_below hb4 (fun _ => False)) (fun _ e _ => e.elim))
  have HS4 := hide hS4
  have c2 := cell_of_row _ _ 2 _ _ _ hS4
  have lk := cell_of_row _ _ 0 _ _ _ hS4
  have fk := frozen_of_row _ _ 0 _ _ hS4
  have ci := cell_of_row _ _ i _ _ _ hTR4
  rw [aA HTI] at ci
  simp [srow] at c2 lk
  clear hS4 hTR4 hb4 HT3 HX3 C3 HS3 HTR3
  by_cases hal : fC hi xs = true
  ·have HAl := hide hal
   rw [hal]
   clear hal
   have hac : 0 ≤ a ∧ (a.toNat + xs.length ≤ L.length) := by
    have := aA HH
    simp [hasB] at this
    omega
   have haa : (a.toNat : Int) = a := by omega
   have HE := hide (nY w4 e g T hi L a.toNat _ xs (aA HT4) (aA HX4) hac.2 neg)
   rw [haa] at HE
   go_wp2_with fail
   refine (aA HE).mono ?_
   rintro r w5 ⟨rfl, hT5, hc5⟩
   have hS5 := (hc5.block sb (Array.getElem?_eq_some_iff.1 (aA HS4)).1 (fun e => ngs e.symm)).trans (aA HS4)
   have HT5 := hide hT5
   have HS5 := hide hS5
   have C5 := hide (((aA C4).mono (E := fun k => k = sb ∨ k = g) (fun _ _ e => .inl e)).trans hc5 (fun _ e _ => .inr e))
   have lk := cell_of_row _ _ 0 _ _ _ hS5
   have fk := frozen_of_row _ _ 0 _ _ hS5
   simp [srow] at lk
   clear hS5 hT5 hc5 HE haa c2 ci
   go_wp2_with fail
   refine leaves_cons (f := 65) (args := #[.pointer (some ⟨sb, 0, none⟩)]) (by simp) (by simp [go_sem]) ?_
   refine (unlock_deferred Tryz.muLib ⟨sb, 0, none⟩ .returning _ lk fk).mono ?_
   rintro r u' w'' ⟨rfl, rfl, rfl⟩
   have e0 : cP L.length hi a xs = 0 := by simp [cP, aA HH, aA HAl]
   have cS : Chg w5 (w5.setCell ⟨sb, 0, none⟩ (.int .i32 0)) (fun k => k = sb) := Chg.set w5 sb 0 _
   refine ⟨_, results_tmp rfl _ _ _, by rw [aA HER, e0]; rfl, dI (aA HS5), ?_, (aA C5).trans cS (fun _ e _ => .inl e)⟩
   rw [aA HLR, if_pos e0]
   exact (aA HT5).chg cS nes ngs
  ·have hal' : fC hi xs = false := by simpa using hal
   have HAl := hide hal'
   rw [hal']
   clear hal hal'
   go_wp2_with fail
   refine leaves_cons (f := 65) (args := #[.pointer (some ⟨sb, 0, none⟩)]) (by simp) (by simp [go_sem]) ?_
   refine (unlock_deferred Tryz.muLib ⟨sb, 0, none⟩ .returning _ lk fk).mono ?_
   rintro r u' w'' ⟨rfl, rfl, rfl⟩
   have e0 : cP L.length hi a xs = 5 := by simp [cP, aA HH, aA HAl]
   have cS : Chg w4 (w4.setCell ⟨sb, 0, none⟩ (.int .i32 0)) (fun k => k = sb) := Chg.set w4 sb 0 _
   refine ⟨_, results_tmp rfl _ _ _, by rw [aA HER, e0]; rfl, dI (aA HS4), ?_, ((aA C4).trans cS (fun _ e _ => e)).mono (fun _ _ e => .inl e)⟩
   rw [aA HLR, if_neg (by rw [e0]; decide)]
   exact (aA HT4).chg cS nes ngs
 ·have hh' : hasB L.length a xs.length = false := by simpa using hh
  have HH := hide hh'
  rw [hh']
  clear hh hh'
  go_wp2_with fail
  refine leaves_cons (f := 65) (args := #[.pointer (some ⟨sb, 0, none⟩)]) (by simp) (by simp [go_sem]) ?_
  refine (unlock_deferred Tryz.muLib ⟨sb, 0, none⟩ .returning _ lk fk).mono ?_
  rintro r u' w'' ⟨rfl, rfl, rfl⟩
  have e0 : cP L.length hi a xs = 4 := by simp [cP, aA HH]
  have cS : Chg w3 (w3.setCell ⟨sb, 0, none⟩ (.int .i32 0)) (fun k => k = sb) := Chg.set w3 sb 0 _
  refine ⟨_, results_tmp rfl _ _ _, by rw [aA HER, e0]; rfl, dI (aA HS3), ?_, ((aA C3).trans cS (fun _ e _ => e)).mono (fun _ _ e => .inl e)⟩
  rw [aA HLR, if_neg (by rw [e0]; decide)]
  exact (aA HT3).chg cS nes ngs
def eL (n : Nat) (a c : Int) : Int := if c < 0 then 5 else if hasB n a c then 0 else 4
end Go.Proofs.YtfekelmldebplaaGreatDoor
namespace Go.Proofs.YtfekelmldebplaaGreatDoor
open Go.RowKit
structure T4 where
 t0 : Tab
 t1 : Tab
 t2 : Tab
 t3 : Tab
 lim : Int
def T4.at (t : T4) (i : Nat) : Tab := if i = 0 then t.t0 else if i = 1 then t.t1 else if i = 2 then t.t2 else t.t3
def T4.put (t : T4) (i : Nat) (L : List Int) : T4 := ⟨if i = 0 then ⟨t.t0.e, t.t0.g, L⟩ else t.t0, if i = 1 then ⟨t.t1.e, t.t1.g, L⟩ else t.t1, if i = 2 then ⟨t.t2.e, t.t2.g, L⟩ else t.t2, if i = 3 then ⟨t.t3.e, t.t3.g, L⟩ else t.t3, t.lim⟩
def hiOf (i : Nat) : Int := if i < 2 then 1 else 65535
def ifOf (i : Nat) : TypeId := if i < 2 then 221 else 223
def tyOf (i : Nat) : TypeId := if i < 2 then 299 else 300
structure BankAt (w : World) (B rb sb tb kb : Nat) (t : T4) (LL : List (List Rule)) (us : List Value) : Prop where
 row : w.heap[rb]? = some (.cells #[.pointer (some ⟨sb, 0, none⟩)] 106 (0, 0))
 st : StoreAt w B sb tb kb t.lim t.t0 t.t1 t.t2 t.t3 LL us
 lo : B ≤ rb
theorem BankAt.tab {w : World} {B rb sb tb kb : Nat} {t : T4} {LL : List (List Rule)} {us : List Value} (h : BankAt w B rb sb tb kb t LL us) (i : Nat) (hi : i < 4) :
  (∃ tc, w.heap[tb]? = some (.cells tc 145 (0, 0)) ∧ tc[i]? = some (.iface (ifOf i) (.pointer (some ⟨(t.at i).e, 0, none⟩)))) ∧ TabAt w (t.at i).e (t.at i).g (tyOf i) (hiOf i) (t.at i).L ∧ ((ifOf i = 221 ∧ tyOf i = 299) ∨ (ifOf i = 223 ∧ tyOf i = 300)) := by
 have hk : i = 0 ∨ i = 1 ∨ i = 2 ∨ i = 3 := by omega
 rcases hk with rfl | rfl | rfl | rfl
 ·exact ⟨⟨_, h.st.tabs.row, rfl⟩, h.st.tabs.a0, .inl ⟨rfl, rfl⟩⟩
 ·exact ⟨⟨_, h.st.tabs.row, rfl⟩, h.st.tabs.a1, .inl ⟨rfl, rfl⟩⟩
 ·exact ⟨⟨_, h.st.tabs.row, rfl⟩, h.st.tabs.a2, .inr ⟨rfl, rfl⟩⟩
 ·exact ⟨⟨_, h.st.tabs.row, rfl⟩, h.st.tabs.a3, .inr ⟨rfl, rfl⟩⟩
theorem Clients.chg {w w' : World} {B kb : Nat} {LL : List (List Rule)} {us : List Value} {D : Nat → Prop} (h : Clients w B kb LL us) (c : Chg w w' D) (hk : ¬ D kb) (hD : ∀ g cs fr, w.heap[g]? = some (.cells cs 52 fr) → ¬ D g) : Clients w' B kb LL us :=
 ⟨(c.block kb (Array.getElem?_eq_some_iff.1 h.row).1 hk).trans h.row, h.len, h.lo, fun i rs u h1 h2 => (h.at_ i rs u h1 h2).chg c fun g e => by
  obtain ⟨cs, fr, q⟩ := ((h.at_ i rs u h1 h2).2 g e).2
  exact hD g cs fr q⟩
theorem BankAt.put {w w' : World} {B rb sb tb kb : Nat} {t : T4} {LL : List (List Rule)} {us : List Value} (h : BankAt w B rb sb tb kb t LL us) (i : Nat) (hi : i < 4) {L : List Int} (c : Chg w w' (fun k => k = sb ∨ k = (t.at i).g))
  (hs : w'.heap[sb]? = w.heap[sb]?) (ht : TabAt w' (t.at i).e (t.at i).g (tyOf i) (hiOf i) L) : BankAt w' B rb sb tb kb (t.put i L) LL us := by
 have rg := (h.tab i hi).2.1.ent
 have nd : ∀ {g : Nat} {cs : Array Value} {T : TypeId} {fr : Nat × Nat}, w.heap[g]? = some (.cells cs T fr) → T ≠ 143 → T ≠ 3 → ¬ (g = sb ∨ g = (t.at i).g) := fun q n1 n2 e => e.elim (bG q h.st.row n1) (bG q rg n2)
 have keep : ∀ {e g : Nat} {T : TypeId} {hh : Int} {L : List Int}, TabAt w e g T hh L → T ≠ 143 → T ≠ 3 → g ≠ (t.at i).g → TabAt w' e g T hh L := fun q n1 n2 n3 => q.chg c (nd q.row n1 n2) (fun e => e.elim (bG q.ent h.st.row (by decide)) n3)
 have ndg := h.st.tabs.nd
 simp only [List.nodup_cons, List.mem_cons, List.not_mem_nil, or_false, not_or, not_false_eq_true, List.nodup_nil, and_true] at ndg
 have a0 := h.st.tabs.a0
 have a1 := h.st.tabs.a1
 have a2 := h.st.tabs.a2
 have a3 := h.st.tabs.a3
 have lo := h.st.tabs.lo
 have hrow := (c.block tb (Array.getElem?_eq_some_iff.1 h.st.tabs.row).1 (nd h.st.tabs.row (by decide) (by decide))).trans h.st.tabs.row
 refine ⟨(c.block rb (Array.getElem?_eq_some_iff.1 h.row).1 (nd h.row (by decide) (by decide))).trans h.row, ⟨hs.trans h.st.row, ?_, h.st.cl.chg c (nd h.st.cl.row (by decide) (by decide)) (fun g cs fr q => nd q (by decide) (by decide)), h.st.lo⟩, h.lo⟩
 have hk : i = 0 ∨ i = 1 ∨ i = 2 ∨ i = 3 := by omega
 rcases hk with rfl | rfl | rfl | rfl
 ·exact ⟨hrow, ht, keep a1 (by decide) (by decide) (Ne.symm ndg.1.1), keep a2 (by decide) (by decide) (Ne.symm ndg.1.2.1), keep a3 (by decide) (by decide) (Ne.symm ndg.1.2.2), h.st.tabs.nd, lo⟩
 ·exact ⟨hrow, keep a0 (by decide) (by decide) ndg.1.1, ht, keep a2 (by decide) (by decide) (Ne.symm ndg.2.1.1), keep a3 (by decide) (by decide) (Ne.symm ndg.2.1.2), h.st.tabs.nd, lo⟩
 ·exact ⟨hrow, keep a0 (by decide) (by decide) ndg.1.2.1, keep a1 (by decide) (by decide) ndg.2.1.1, ht, keep a3 (by decide) (by decide) (Ne.symm ndg.2.2), h.st.tabs.nd, lo⟩
 ·exact ⟨hrow, keep a0 (by decide) (by decide) ndg.1.2.2, keep a1 (by decide) (by decide) ndg.2.1.2, keep a2 (by decide) (by decide) ndg.2.2, ht, h.st.tabs.nd, lo⟩
theorem iS (t : T4) (i : Nat) (hi : i < 4) : t.put i (t.at i).L = t := by
 have hk : i = 0 ∨ i = 1 ∨ i = 2 ∨ i = 3 := by omega
 rcases hk with rfl | rfl | rfl | rfl <;> rfl
theorem fR (rb sb : Nat) (w : World) (h : w.heap[rb]? = some (.cells #[.pointer (some ⟨sb, 0, none⟩)] 106 (0, 0))) :
  Calls Tryz.prog 42 #[.pointer (some ⟨rb, 0, none⟩)] w fun e w' => e = .returned (.pointer (some ⟨sb, 0, none⟩)) ∧ Below w.heap.size w w' := by
 have q := cell_of_row _ _ 0 _ _ _ h
 simp at q
 clear h
 go_enter Tryz.func42, Tryz.ntmps42
 go_wp2
 go_ret
 exact ⟨rfl, Below.refl _ _⟩
def aAe (w : World) (B rb sb tb kb : Nat) (t : T4) (LL : List (List Rule)) (us : List Value) (i : Nat) (a : Int) (xs : List Int) (r : Ending) (w' : World) : Prop :=
 r = .returned (.int .i64 (cP (t.at i).L.length (hiOf i) a xs)) ∧ BankAt w' B rb sb tb kb (t.put i (if cP (t.at i).L.length (hiOf i) a xs = 0 then setL (t.at i).L a.toNat xs else (t.at i).L)) LL us ∧ Chg w w' (fun k => k = sb ∨ k = (t.at i).g)
theorem sC (B rb sb tb kb : Nat) (t : T4) (LL : List (List Rule)) (us : List Value) (i : Nat) (hi : i < 4) (a : Int) (v : Value) (xs : List Int) (w : World) (h : BankAt w B rb sb tb kb t LL us) (hx : cB w v xs) (hxs : ∀ b, v.ownBlock = some b → ∃ cs fr, w.heap[b]? = some (.cells cs 3 fr)) (hn : xs.length ≤ 1000000000) (ha : a ≤ 9223372036854775807) :
  Calls Tryz.prog 18 #[.pointer (some ⟨rb, 0, none⟩), .int .i64 i, .int .i64 a, v] w fun r w' => aAe w B rb sb tb kb t LL us i a xs r w' := by
 obtain ⟨⟨tc, ht, hti⟩, hT, hX⟩ := h.tab i hi
 have HK := hide (fR rb sb w h.row)
 have HP : Hid (∀ w1, Below w.heap.size w w1 → Calls Tryz.prog 43 #[.pointer (some ⟨sb, 0, none⟩), .int .i64 i, .int .i64 a, v] w1 fun r w' => aAe w B rb sb tb kb t LL us i a xs r w') := fun w1 hb => by
  have b : ∀ {g : Nat} {o : Obj}, w.heap[g]? = some o → w1.heap[g]? = some o := fun q => (hb.block _ (Array.getElem?_eq_some_iff.1 q).1).trans q
  refine (qD sb tb (t.at i).e (t.at i).g i _ t.lim tc (ifOf i) (tyOf i) (hiOf i) (t.at i).L a v xs w1 (b h.st.row) (b ht) hti hi (hT.below hb) hX (hx.below hb) (fun g e => by
   obtain ⟨cs, fr, q⟩ := hxs g e
   exact bG q h.st.row (by decide)) hn ha).mono ?_
  rintro r w' ⟨rfl, q1, q2, q3⟩
  have c : Chg w w' (fun k => k = sb ∨ k = (t.at i).g) := (Chg.of_below hb _).trans q3 (fun _ e _ => e)
  exact ⟨rfl, h.put i hi c (q1.trans h.st.row.symm) q2, c⟩
 clear h hx hxs ht hti hT hX
 go_enter Tryz.func18, Tryz.ntmps18
 go_wp2_with fail
 refine (aA HK).mono ?_
 rintro e w1 ⟨rfl, hb⟩
 have HC := hide (aA HP w1 hb)
 clear hb HP HK
 go_wp2_with fail
 refine (aA HC).mono ?_
 rintro e w2 hp
 obtain ⟨rfl, hp2⟩ := id hp
 have HP2 := hide hp
 clear hp hp2 HC
 go_wp2
 go_ret
 exact aA HP2
theorem uY (n0 n1 n2 n3 : Nat) (lim : Int) (v : Value) (LL : List (List Rule)) (w : World) (h0 : n0 ≤ 200) (h1 : n1 ≤ 200) (h2 : n2 ≤ 200) (h3 : n3 ≤ 200) (hl1 : 1 ≤ lim) (hl2 : lim ≤ 4) (h : bZ w v LL) (hn : LL.length ≤ 6) (hr : cE LL = true) :
  Calls Tryz.prog 29 #[.agg #[.int .i64 n0, .int .i64 n1, .int .i64 n2, .int .i64 n3, .int .i64 lim, v]] w fun e w' => ∃ rb sb tb kb e0 g0 e1 g1 e2 g2 e3 g3 us, e = .returned (.tuple #[.pointer (some ⟨rb, 0, none⟩), .int .i64 0]) ∧
   BankAt w' w.heap.size rb sb tb kb ⟨⟨e0, g0, List.replicate n0 0⟩, ⟨e1, g1, List.replicate n1 0⟩, ⟨e2, g2, List.replicate n2 0⟩, ⟨e3, g3, List.replicate n3 0⟩, lim⟩ LL us ∧ Below w.heap.size w w' := by
 have HB : Hid (∀ w1, Below w.heap.size w w1 → Calls Tryz.prog 47 #[.agg #[.int .i64 n0, .int .i64 n1, .int .i64 n2, .int .i64 n3, .int .i64 lim, v]] w1 fun e w' => ∃ sb tb kb e0 g0 e1 g1 e2 g2 e3 g3 us, e = .returned (.tuple #[.pointer (some ⟨sb, 0, none⟩), .int .i64 0]) ∧
   StoreAt w' w1.heap.size sb tb kb lim ⟨e0, g0, List.replicate n0 0⟩ ⟨e1, g1, List.replicate n1 0⟩ ⟨e2, g2, List.replicate n2 0⟩ ⟨e3, g3, List.replicate n3 0⟩ LL us ∧ Below w1.heap.size w1 w') := fun w1 hb => wI n0 n1 n2 n3 lim v LL w1 h0 h1 h2 h3 hl1 hl2 (h.below hb) hn hr
 clear h
 have hb0 : Below w.heap.size w (w.alloc (.cells #[.int .i64 n0, .int .i64 n1, .int .i64 n2, .int .i64 n3, .int .i64 lim, v] 58)) := (Below.refl _ _).alloc (Nat.le_refl _) _
 have HB0 := hide hb0
 clear hb0
 go_enter Tryz.func29, Tryz.ntmps29
 go_wp2_with fail
 refine (aA HB _ (aA HB0)).mono ?_
 rintro e w1 ⟨sb, tb, kb, e0, g0, e1, g1, e2, g2, e3, g3, us, rfl, hS, hb1⟩
 have HS := hide hS
 have HB1 := hide hb1
 clear hS hb1 HB
 go_wp2
 refine bodyPost_ret (v := .tuple #[.pointer (some ⟨w1.heap.size, 0, none⟩), .int .i64 0]) (by simp [results, Tryz.results29]) rfl ?_
 have hbE : Below w1.heap.size w1 (w1.alloc (.cells #[.pointer (some ⟨sb, 0, none⟩)] 106)) := bL (Below.refl _ _) _
 have z0 := (aA HB0).size
 have z1 := (aA HB1).size
 have hS := aA HS
 refine ⟨w1.heap.size, sb, tb, kb, e0, g0, e1, g1, e2, g2, e3, g3, us, rfl, ⟨heap_alloc_new w1 _, ⟨(hbE.block sb (Array.getElem?_eq_some_iff.1 hS.row).1).trans hS.row, (hS.tabs.weak z0).below hbE, (hS.cl.weak z0).below hbE, by have := hS.lo; omega⟩, by omega⟩, aD (aD (aA HB0) (aA HB1)) hbE⟩
end Go.Proofs.YtfekelmldebplaaGreatDoor
