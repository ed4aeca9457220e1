import Derived.Test.YtfekelmldebplaaGreatDoorSc
import Derived.Maps.AppendAt
namespace Go.Proofs.YtfekelmldebplaaGreatDoor
open Go.RowKit

/-- Frames that can be read under a slice. -/
def Reads (w : World) (v : Value) (fs : List Fr) : Prop :=
  ∃ a c, v = .slice a fs.length c ∧ (fs ≠ [] → ∃ g o, a = some ⟨g, o, none⟩ ∧ g < w.heap.size) ∧
    ∀ i f, fs[i]? = some f → ∃ g o dv, a = some ⟨g, o, none⟩ ∧ w.cell? ⟨g, o + i * 3, none⟩ = some (.int .i64 f.mark) ∧ w.cell? ⟨g, o + i * 3 + 1, none⟩ = some (.int .i64 f.unit) ∧ w.cell? ⟨g, o + i * 3 + 2, none⟩ = some dv ∧ Lies w dv f.data

/-- The frames that were given, from the d-th on. -/
theorem Gave.reads {w : World} {base g cap : Nat} {ds : List FD} (h : Gave w base (.slice (some ⟨g, 0, none⟩) ds.length cap) ds) (d c : Nat) :
    Reads w (.slice (some ⟨g, d * 3, none⟩) (ds.length - d) c) ((ds.map (·.fr)).drop d) := by
  refine ⟨_, c, by simp, fun _ => ⟨g, d * 3, rfl, (h.row.lt g rfl).2⟩, fun i f hf => ?_⟩
  rw [List.getElem?_drop, List.getElem?_map] at hf
  cases hx : ds[d + i]? with
  | none => rw [hx] at hf; cases hf
  | some dd =>
    rw [hx] at hf
    have e : dd.fr = f := by simpa using hf
    have := h.at hx
    rw [e] at this
    refine ⟨g, d * 3, dd.val, rfl, ?_, ?_, ?_, this.2.2.2⟩
    · rw [show d * 3 + i * 3 = (d + i) * 3 by omega]; exact this.1
    · rw [show d * 3 + i * 3 + 1 = (d + i) * 3 + 1 by omega]; exact this.2.1
    · rw [show d * 3 + i * 3 + 2 = (d + i) * 3 + 2 by omega]; exact this.2.2.1
theorem Reads.empty (w : World) (a : Option Addr) (c : Nat) : Reads w (.slice a 0 c) [] := ⟨a, c, rfl, by simp, by simp⟩
theorem Reads.kept {w w' : World} {v : Value} {fs : List Fr} (h : Reads w v fs) (hb : Below w.heap.size w w') : Reads w' v fs := by
  obtain ⟨a, c, hv, h1, h2⟩ := h
  refine ⟨a, c, hv, fun e => ?_, fun i f hf => ?_⟩
  · obtain ⟨g, o, e1, e2⟩ := h1 e
    exact ⟨g, o, e1, Nat.lt_of_lt_of_le e2 hb.size⟩
  · obtain ⟨g, o, dv, e1, c0, c1, c2, hl⟩ := h2 i f hf
    obtain ⟨g', o', e1', hlt⟩ := h1 (fun e => by simp [e] at hf)
    have : g = g' ∧ o = o' := by rw [e1] at e1'; simpa using e1'
    obtain ⟨rfl, rfl⟩ := this
    exact ⟨g, o, dv, e1, (hb.cell (by exact hlt)).trans c0, (hb.cell (by exact hlt)).trans c1, (hb.cell (by exact hlt)).trans c2, hl.below hb⟩

/-- append of bytes to bytes that are owned, with where the new slice lies. -/
theorem append_bytes_at {ops : Array Oper} {rest : List Oper} {o : Oper} {a : Act} {Q : Exit → Act → World → Prop} (w1 : World) (hgd : o.guard = none) (s x : Operand)
    (ho : o.op = .call { callee := .builtin .append, args := #[s, x], argTypes := #[37, 37] }) (B : Nat) (v : Value) (xs ys : List Int) (hs : a.eval s = v) (hown : Owns w1 B v xs) (hz : B ≤ w1.heap.size)
    (b o' c : Nat) (hx : a.eval x = .slice (some ⟨b, o', none⟩) ys.length c) (hc : ∀ i, i < ys.length → w1.cell? ⟨b, o' + i, none⟩ = some (.int .u8 (ys.getD i 0))) (hlen : xs.length + ys.length ≤ 100000000000)
    (h : ∀ v' w', Owns w' B v' (xs ++ ys) → w1.grownBy w' v.ownBlock → (v'.ownBlock = v.ownBlock ∨ v'.ownBlock = some w1.heap.size) → wpList Tryz.prog ops Q rest (a.put o.dst v') w') : wpList Tryz.prog ops Q (o :: rest) a w1 := by
  obtain ⟨i0, hi, hz0, hz1, hz2⟩ := info_parts info5
  refine wpList_append_own_at w1 hgd s x 37 ho B 5 i0 (.int .u8 0) 1 1 Tryz.underlying37 hi hz0 hz1 hz2 rfl (by decide) v xs.length (xs.map (Value.int .u8)) hs hown ⟨b, o', none⟩ ys.length c (ys.map (Value.int .u8)) hx (by simp) (news_lies hc) (one_bytes _) (by unfold maxLen; omega) (by omega) hz ?_
  intro v' w' r g _ hat
  exact h v' w' (by unfold Owns; simpa using r) g hat

theorem Owns.source {w : World} {B : Nat} {v : Value} {bs : List Int} (h : Owns w B v bs) : ∃ oa ca gb, v = .slice oa bs.length ca ∧ (bs ≠ [] → oa = some ⟨gb, 0, none⟩ ∧ bs.length ≤ ca ∧ gb < w.heap.size) ∧ ∀ i, i < bs.length → w.cell? ⟨gb, 0 + i, none⟩ = some (.int .u8 (bs.getD i 0)) := by
  by_cases hn : bs = []
  · obtain ⟨oa, ca, hv, _⟩ := ownsRow_opt h
    exact ⟨oa, ca, 0, hv, fun e => absurd hn e, fun i hi => by simp [hn] at hi⟩
  · obtain ⟨g, ca, hv, h1, h2⟩ := h.shape hn
    subst hv
    have hle : bs.length ≤ ca := by
      rcases h.2 with ⟨e, _⟩ | ⟨g', c', cur, e, _, _, h3, _⟩
      · cases e
      · have : ca = c' := by simp at e; exact e.2
        omega
    refine ⟨some ⟨g, 0, none⟩, ca, g, rfl, fun _ => ⟨rfl, hle, h2⟩, fun i hi => ?_⟩
    rw [Nat.zero_add, World.ownsRow.cellAt h i (by omega)]
    simp [List.getD, List.getElem?_eq_getElem hi]

theorem whole_n (a : Option Addr) (gb o c n : Nat) (bs : List Int) (w : World) (hn : bs.length = n) (ha : bs ≠ [] → a = some ⟨gb, o, none⟩ ∧ n ≤ c ∧ gb < w.heap.size) (hc : ∀ i, i < n → w.cell? ⟨gb, o + i, none⟩ = some (.int .u8 (bs.getD i 0))) (bx : Bys bs) (hm : n ≤ 1000000000) :
    Calls Tryz.prog 140 #[.slice a n c] w fun e w' => WPost w (feedF ([], [], false) bs) e w' := by
  subst hn
  exact whole_any a gb o c bs w ha hc bx hm
theorem feed_mono (all xs : List Int) : (feedF ([], [], false) all).1.length ≤ (feedF ([], [], false) (all ++ xs)).1.length := by
  have e : feedF ([], [], false) (all ++ xs) = feedF (feedF ([], [], false) all) xs := by simp [feedF, List.foldl_append]
  rw [e]
  have := feedF_shift (feedF ([], [], false) all).1 ([], (feedF ([], [], false) all).2) xs
  simp only [List.append_nil] at this
  rw [show feedF ([], [], false) all = ((feedF ([], [], false) all).1, (feedF ([], [], false) all).2) from rfl, this]
  simp

/-- What the reference's Feed answers, and leaves. -/
structure RFed (w : World) (tb B : Nat) (vA : Value) (all xs : List Int) (gv : Nat) (v' vout : Value) (w' : World) : Prop where
  row : w'.heap[tb]? = some (.cells #[v', .int .i64 (feedF ([], [], false) (all ++ xs)).1.length, .bool (feedF ([], [], false) (all ++ xs)).2.2] 118 (0, 0))
  own : Owns w' B v' (all ++ xs)
  reads : Reads w' vout ((feedF ([], [], false) (all ++ xs)).1.drop gv)
  os : w'.os = w.os
  tape : w'.tape = w.tape
  output : w'.output = w.output
  size : w.heap.size ≤ w'.heap.size
  block : ∀ k, k < w.heap.size → k ≠ tb → some k ≠ vA.ownBlock → w'.heap[k]? = w.heap[k]?
  at_ : v'.ownBlock = vA.ownBlock ∨ ∃ k, w.heap.size ≤ k ∧ v'.ownBlock = some k

def RPost (w : World) (tb B : Nat) (vA : Value) (all xs : List Int) (gv : Nat) (br : Bool) (e : Ending) (w' : World) : Prop := ∃ v' vout, e = .returned (.tuple #[vout, .int .i64 (if br = true then 1 else 0)]) ∧ RFed w tb B vA all xs gv v' vout w'

theorem add_lit0 (g j : Nat) : (⟨g, 0, none⟩ : Addr).add j = ⟨g, j, none⟩ := by unfold Addr.add; split <;> simp_all
theorem ownsRow_cap {w : World} {base : Nat} {e : TypeId} {size : Nat} {oa : Option Addr} {n c : Nat} {xs : List Value} (h : w.ownsRow base e size (.slice oa n c) n xs) : n ≤ c := by
  rcases h.2 with ⟨e, h0⟩ | ⟨g, cap, cur, e, _, _, h1, _⟩
  · omega
  · have : c = cap := by simp at e; exact e.2
    omega
/-- The last stores of the reference's Feed. -/
theorem RFed.mk' {w w1 w3 W : World} {tb B gv n ca cl' : Nat} {vA : Value} {all xs : List Int} {oa a' : Option Addr} {ol : Option Addr} {cl : Nat} {ds : List FD} (hnb : (Value.slice oa n ca).ownBlock ≠ some tb) (htb : tb < w.heap.size)
    (g1 : w.grownBy w1 vA.ownBlock) (a1 : (Value.slice oa n ca).ownBlock = vA.ownBlock ∨ (Value.slice oa n ca).ownBlock = some w.heap.size) (o2 : Owns (w1.setCell ⟨tb, 0, none⟩ (.slice oa n ca)) B (.slice oa n ca) (all ++ xs))
    (hB : Below w1.heap.size (w1.setCell ⟨tb, 0, none⟩ (.slice oa n ca)) w3) (hG : Gave w3 w1.heap.size (.slice ol ds.length cl) ds) (hfr : ds.map (·.fr) = (feedF ([], [], false) (all ++ xs)).1)
    (hout : gv < ds.length → a' = some ⟨(ol.map (·.block)).getD 0, gv * 3, none⟩) (hgv : gv ≤ ds.length)
    (hrow : W.heap[tb]? = some (.cells #[.slice oa n ca, .int .i64 (feedF ([], [], false) (all ++ xs)).1.length, .bool (feedF ([], [], false) (all ++ xs)).2.2] 118 (0, 0)))
    (hW : W.os = w3.os ∧ W.tape = w3.tape ∧ W.output = w3.output ∧ W.heap.size = w3.heap.size) (hk : ∀ k, k ≠ tb → W.heap[k]? = w3.heap[k]?) :
    RFed w tb B vA all xs gv (.slice oa n ca) (.slice a' (ds.length - gv) cl') W := by
  have z1 := g1.size
  have zs : (w1.setCell ⟨tb, 0, none⟩ (.slice oa n ca)).heap.size = w1.heap.size := by simp [World.setCell]
  have z3 := hB.size
  rw [zs] at z3
  have hGW : Gave W w1.heap.size (.slice ol ds.length cl) ds := hG.kept fun k h1 _ => hk k (by omega)
  refine ⟨hrow, ?_, ?_, ?_, ?_, ?_, by rw [hW.2.2.2]; omega, ?_, ?_⟩
  · refine ownsRow_keep o2 fun k _ h2 e => ?_
    rw [zs] at h2
    have hkt : k ≠ tb := fun h => hnb (by rw [e, h])
    rw [hk k hkt, hB.block k h2]
  · rw [← hfr]
    by_cases hlt : gv < ds.length
    · obtain ⟨g, c0, e, _⟩ := hGW.row.form (by omega)
      have e1 : ol = some ⟨g, 0, none⟩ ∧ cl = c0 := by simpa using e
      rw [hout hlt, e1.1]
      have hx := hGW
      rw [e1.1] at hx
      exact hx.reads gv cl'
    · have e1 : ds.length - gv = 0 := by omega
      have e2 : (ds.map (·.fr)).drop gv = [] := by rw [List.drop_eq_nil_iff]; simp; omega
      rw [e1, e2]
      exact Reads.empty _ _ _
  · rw [hW.1, hB.os]; exact g1.os
  · rw [hW.2.1, hB.tape]; exact g1.tape
  · rw [hW.2.2.1, hB.output]; exact g1.output
  · intro k h1 h2 h3
    rw [hk k h2, hB.block k (by omega), heap_setCell_other _ _ _ _ h2, g1.block k h1 h3]
  · rcases a1 with a1 | a1
    · exact .inl a1
    · exact .inr ⟨w.heap.size, Nat.le_refl _, a1⟩

set_option maxRecDepth 100000 in
set_option maxHeartbeats 2000000 in
theorem rfeed_ok (tb B gv : Nat) (vA : Value) (all xs : List Int) (cb co cc : Nat) (w : World) (ht : w.heap[tb]? = some (.cells #[vA, .int .i64 gv, .bool false] 118 (0, 0))) (hA : Owns w B vA all) (hgv : gv = (feedF ([], [], false) all).1.length)
    (hc : ∀ i, i < xs.length → w.cell? ⟨cb, co + i, none⟩ = some (.int .u8 (xs.getD i 0))) (ba : Bys all) (bx : Bys xs) (hB : B ≤ w.heap.size) (hm : all.length + xs.length ≤ 1000000000) :
    Calls Tryz.prog 83 #[.pointer (some ⟨tb, 0, none⟩), .slice (some ⟨cb, co, none⟩) xs.length cc] w fun e w' => RPost w tb B vA all xs gv (feedF ([], [], false) (all ++ xs)).2.2 e w' := by
  have t0 : w.cell? ⟨tb, 0, none⟩ = some vA := by rw [cell_of_row _ _ _ _ _ _ ht]; rfl
  have t2 : w.cell? ⟨tb, 2, none⟩ = some (.bool false) := by rw [cell_of_row _ _ _ _ _ _ ht]; rfl
  have HT := hide ht
  have HA := hide hA
  have HC := hide hc
  have HBy := hide (ba.append bx)
  have hmono : gv ≤ (feedF ([], [], false) (all ++ xs)).1.length := by rw [hgv]; exact feed_mono all xs
  clear ht hA hc ba bx hgv
  go_enter Tryz.func83, Tryz.ntmps83
  go_wp2_with (at_builtin; refine append_bytes_at _ rfl (.tmp 17) (.tmp 18) rfl B vA all xs rfl (unhide HA) hB cb co cc rfl (unhide HC) (by omega) ?_)
  intro v' w1 o1 g1 a1
  have hne : vA.ownBlock ≠ some tb := fun e => by
    rcases (unhide HA).2 with ⟨rfl, _⟩ | ⟨g, cap, cur, rfl, _, hg, _⟩
    · cases e
    · have : g = tb := by simpa [Value.ownBlock] using e
      subst this
      rw [unhide HT] at hg
      simp at hg
  have htl : tb < w.heap.size := (Array.getElem?_eq_some_iff.1 (unhide HT)).1
  have ht1 : w1.heap[tb]? = some (.cells #[vA, .int .i64 gv, .bool false] 118 (0, 0)) := by rw [g1.block tb htl (fun e => hne e.symm)]; exact unhide HT
  have hnb : v'.ownBlock ≠ some tb := fun e => by
    rcases a1 with a1 | a1
    · exact hne (a1 ▸ e)
    · rw [a1] at e; simp at e; omega
  have u0 : w1.cell? ⟨tb, 0, none⟩ = some vA := by rw [cell_of_row _ _ _ _ _ _ ht1]; rfl
  have uf : ∀ i, w1.frozen? ⟨tb, i, none⟩ = false := fun i => frozen_of_row _ _ i _ _ ht1
  have ht2 : (w1.setCell ⟨tb, 0, none⟩ v').heap[tb]? = some (.cells #[v', .int .i64 gv, .bool false] 118 (0, 0)) := by
    have := heap_setCell_same w1 tb 0 _ 118 v' ht1
    simpa using this
  have o2 : Owns (w1.setCell ⟨tb, 0, none⟩ v') B v' (all ++ xs) := ownsRow_keep o1 fun k _ _ e => heap_setCell_other _ _ _ _ (fun h => hnb (by rw [e, h]))
  obtain ⟨oa, ca, gb, rfl, hsrc, hcells⟩ := Owns.source o2
  have HSrc := hide hsrc
  have HCells := hide hcells
  have HO2 := hide o2
  have HT2 := hide ht2
  have HG1 := hide g1
  have HA1 := hide a1
  have z1 := g1.size
  have z2 : (w1.setCell ⟨tb, 0, none⟩ (.slice oa (all ++ xs).length ca)).heap.size = w1.heap.size := by simp [World.setCell]
  have s0 : (w1.setCell ⟨tb, 0, none⟩ (.slice oa (all ++ xs).length ca)).cell? ⟨tb, 0, none⟩ = some (.slice oa (all ++ xs).length ca) := by rw [cell_of_row _ _ _ _ _ _ ht2]; rfl
  have HZ2 := hide z2
  have HTl := hide htl
  have HNe := hide hne
  have HNb := hide hnb
  have hlen : (all ++ xs).length ≤ 1000000000 := by simp; omega
  clear hsrc hcells o2 ht2 g1 a1 o1 t0 t2 z2 hne hnb ht1
  generalize hbs : all ++ xs = bs at *
  have HBs := hide hbs
  clear hbs
  generalize hn : bs.length = n at *
  have HN := hide hn
  clear hn
  go_wp2_with fail
  refine (whole_n oa gb 0 ca n bs _ (unhide HN) (unhide HSrc) (unhide HCells) (unhide HBy) hlen).mono ?_
  rintro e w3 ⟨vl, ds, rfl, hG, hfr, hB3⟩
  obtain ⟨ol, cl, rfl, hol1, hol2⟩ := ownsRow_opt hG.row
  have hdl : ds.length = (feedF ([], [], false) bs).1.length := by rw [← hfr]; simp
  have z3 := hB3.size
  rw [unhide HZ2] at z3 hB3 hG
  have ht3 : w3.heap[tb]? = some (.cells #[.slice oa n ca, .int .i64 gv, .bool false] 118 (0, 0)) := by rw [hB3.block tb (by have := unhide HTl; omega)]; exact unhide HT2
  have c1 : w3.cell? ⟨tb, 1, none⟩ = some (.int .i64 gv) := by rw [cell_of_row _ _ _ _ _ _ ht3]; rfl
  have c2 : w3.cell? ⟨tb, 2, none⟩ = some (.bool false) := by rw [cell_of_row _ _ _ _ _ _ ht3]; rfl
  have fz3 : ∀ i, w3.frozen? ⟨tb, i, none⟩ = false := fun i => frozen_of_row _ _ i _ _ ht3
  have HGv := hide hG
  have HFr := hide hfr
  have HB3 := hide hB3
  have HT3 := hide ht3
  have HOl1 := hide hol1
  have HOl2 := hide hol2
  have HDl := hide hdl
  clear hG hfr hB3 ht3 hol1 hol2 hdl u0 uf s0
  have hgn : gv ≤ ds.length := by rw [unhide HDl]; exact hmono
  have hnc : ds.length ≤ cl := ownsRow_cap (unhide HGv).row
  have HAll : Hid (∀ (br : Bool) (a' : Option Addr) (cl' : Nat) (W : World), (feedF ([], [], false) bs).2.2 = br → (gv < ds.length → a' = some ⟨(ol.map (·.block)).getD 0, gv * 3, none⟩) → W.heap[tb]? = some (.cells #[.slice oa n ca, .int .i64 ds.length, .bool br] 118 (0, 0)) →
      (W.os = w3.os ∧ W.tape = w3.tape ∧ W.output = w3.output ∧ W.heap.size = w3.heap.size) → (∀ k, k ≠ tb → W.heap[k]? = w3.heap[k]?) → RFed w tb B vA all xs gv (.slice oa n ca) (.slice a' (ds.length - gv) cl') W) := by
    intro br a' cl' W e1 e2 e3 e4 e5
    have hbs := unhide HBs
    subst hbs
    refine RFed.mk' (unhide HNb) htl (unhide HG1) (unhide HA1) (unhide HO2) (unhide HB3) (unhide HGv) (unhide HFr) e2 hgn ?_ e4 e5
    rw [e1, ← unhide HDl]
    exact e3
  generalize hnl : ds.length = nl at *
  have HNl := hide hnl
  clear hnl
  have j1 : (gv : Int) ≤ (nl : Int) := by omega
  have j2 : (nl : Int) ≤ (cl : Int) := by omega
  have j3 : (gv : Int) ≤ (cl : Int) := by omega
  have HEnd : Hid (∀ (br : Bool) (a' : Option Addr) (cl' : Nat) (W : World), (feedF ([], [], false) bs).2.2 = br → RFed w tb B vA all xs gv (.slice oa n ca) (.slice a' (nl - gv) cl') W → RPost w tb B vA all xs gv (feedF ([], [], false) bs).2.2 (.returned (.tuple #[.slice a' (nl - gv) cl', .int .i64 (if br = true then 1 else 0)])) W) := by
    intro br a' cl' W e1 e2
    rw [e1]
    exact ⟨_, _, rfl, e2⟩
  cases hbr' : (feedF ([], [], false) bs).2.2 with
  | true =>
    have HBr := hide hbr'
    simp only [Bool.not_true]
    clear hbr'
    have HRow : Hid (((w3.setCell ⟨tb, 1, none⟩ (.int .i64 nl)).setCell ⟨tb, 2, none⟩ (.bool true)).heap[tb]? = some (.cells #[.slice oa n ca, .int .i64 nl, .bool true] 118 (0, 0))) := by
      have s1 := heap_setCell_same w3 tb 1 _ 118 (.int .i64 nl) (unhide HT3)
      have s2 := heap_setCell_same _ tb 2 _ 118 (.bool true) s1
      exact hide (by simpa using s2)
    have HOth : Hid (∀ k, k ≠ tb → ((w3.setCell ⟨tb, 1, none⟩ (.int .i64 nl)).setCell ⟨tb, 2, none⟩ (.bool true)).heap[k]? = w3.heap[k]?) := fun k hk => by rw [heap_setCell_other _ _ _ _ hk, heap_setCell_other _ _ _ _ hk]
    have HSame : Hid (((w3.setCell ⟨tb, 1, none⟩ (.int .i64 nl)).setCell ⟨tb, 2, none⟩ (.bool true)).os = w3.os ∧ ((w3.setCell ⟨tb, 1, none⟩ (.int .i64 nl)).setCell ⟨tb, 2, none⟩ (.bool true)).tape = w3.tape ∧ ((w3.setCell ⟨tb, 1, none⟩ (.int .i64 nl)).setCell ⟨tb, 2, none⟩ (.bool true)).output = w3.output ∧ ((w3.setCell ⟨tb, 1, none⟩ (.int .i64 nl)).setCell ⟨tb, 2, none⟩ (.bool true)).heap.size = w3.heap.size) := ⟨rfl, rfl, rfl, by simp [World.setCell]⟩
    by_cases hcg : cl = gv
    · have HX : Hid (gv < nl → ol = some ⟨(ol.map (·.block)).getD 0, gv * 3, none⟩) := fun h => by omega
      go_wp2
      go_ret2
      rw [unhide HBs]
      exact unhide HEnd true _ _ _ (unhide HBr) (unhide HAll true _ _ _ (unhide HBr) (unhide HX) (unhide HRow) (unhide HSame) (unhide HOth))
    · have HX : Hid (gv < nl → Option.map (fun x => Addr.add x (gv * 3)) ol = some ⟨(ol.map (·.block)).getD 0, gv * 3, none⟩) := fun h => by
        cases hol : ol with
        | none => have := unhide HOl1 hol; omega
        | some x =>
          obtain ⟨g, rfl, _⟩ := unhide HOl2 x hol
          simp [add_lit0]
      go_wp2
      go_ret2
      rw [unhide HBs]
      exact unhide HEnd true _ _ _ (unhide HBr) (unhide HAll true _ _ _ (unhide HBr) (unhide HX) (unhide HRow) (unhide HSame) (unhide HOth))
  | false =>
    have HBr := hide hbr'
    simp only [Bool.not_false]
    clear hbr'
    have HRow : Hid ((w3.setCell ⟨tb, 1, none⟩ (.int .i64 nl)).heap[tb]? = some (.cells #[.slice oa n ca, .int .i64 nl, .bool false] 118 (0, 0))) := by
      have s1 := heap_setCell_same w3 tb 1 _ 118 (.int .i64 nl) (unhide HT3)
      exact hide (by simpa using s1)
    have HOth : Hid (∀ k, k ≠ tb → (w3.setCell ⟨tb, 1, none⟩ (.int .i64 nl)).heap[k]? = w3.heap[k]?) := fun k hk => by rw [heap_setCell_other _ _ _ _ hk]
    have HSame : Hid ((w3.setCell ⟨tb, 1, none⟩ (.int .i64 nl)).os = w3.os ∧ (w3.setCell ⟨tb, 1, none⟩ (.int .i64 nl)).tape = w3.tape ∧ (w3.setCell ⟨tb, 1, none⟩ (.int .i64 nl)).output = w3.output ∧ (w3.setCell ⟨tb, 1, none⟩ (.int .i64 nl)).heap.size = w3.heap.size) := ⟨rfl, rfl, rfl, by simp [World.setCell]⟩
    by_cases hcg : cl = gv
    · have HX : Hid (gv < nl → ol = some ⟨(ol.map (·.block)).getD 0, gv * 3, none⟩) := fun h => by omega
      go_wp2
      go_ret2
      rw [unhide HBs]
      exact unhide HEnd false _ _ _ (unhide HBr) (unhide HAll false _ _ _ (unhide HBr) (unhide HX) (unhide HRow) (unhide HSame) (unhide HOth))
    · have HX : Hid (gv < nl → Option.map (fun x => Addr.add x (gv * 3)) ol = some ⟨(ol.map (·.block)).getD 0, gv * 3, none⟩) := fun h => by
        cases hol : ol with
        | none => have := unhide HOl1 hol; omega
        | some x =>
          obtain ⟨g, rfl, _⟩ := unhide HOl2 x hol
          simp [add_lit0]
      go_wp2
      go_ret2
      rw [unhide HBs]
      exact unhide HEnd false _ _ _ (unhide HBr) (unhide HAll false _ _ _ (unhide HBr) (unhide HX) (unhide HRow) (unhide HSame) (unhide HOth))

set_option maxHeartbeats 400000 in
theorem rfeed_bad (tb gv : Nat) (vA : Value) (a : Option Addr) (n c : Nat) (w : World) (ht : w.heap[tb]? = some (.cells #[vA, .int .i64 gv, .bool true] 118 (0, 0))) :
    Calls Tryz.prog 83 #[.pointer (some ⟨tb, 0, none⟩), .slice a n c] w fun e w' => e = .returned (.tuple #[.slice none 0 0, .int .i64 1]) ∧ w' = w := by
  have t2 : w.cell? ⟨tb, 2, none⟩ = some (.bool true) := by rw [cell_of_row _ _ _ _ _ _ ht]; rfl
  clear ht
  go_enter Tryz.func83, Tryz.ntmps83
  go_wp2
  go_ret2
  exact ⟨rfl, rfl⟩
end Go.Proofs.YtfekelmldebplaaGreatDoor
