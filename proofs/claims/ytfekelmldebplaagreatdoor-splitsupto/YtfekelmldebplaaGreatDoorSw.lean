import Derived.Test.YtfekelmldebplaaGreatDoorSwa
import Derived.Deep.RegionHeldLaw
namespace Go.Proofs.YtfekelmldebplaaGreatDoor
open Go.RowKit

set_option maxRecDepth 100000 in
set_option maxHeartbeats 4000000 in
theorem fed_any (o : OpV) (kd : Int) (B bw : Nat) (xs : List SP) (vs vt vb vf : Value) (rb rf : List Rec) (w : World) (h : Inv w B bw xs vs vt vb vf rb rf) (hn : 0 < xs.length) (hn2 : xs.length ≤ 1000000000) (hs0 : o.s.size ≤ 100000000) (hB : B ≤ w.heap.size) (hrb : rb.length + o.s.size ≤ 1000000000) (hrf : rf.length ≤ 1000000000)
    (hA : -9223372036854775808 ≤ o.A ∧ o.A ≤ 9223372036854775807) (hall : ∀ x ∈ xs, x.all.length + o.s.size ≤ 1000000000) :
    Calls Tryz.prog 56 #[.pointer (some ⟨bw, 0, none⟩), .agg (o.cells kd)] w fun e w' => e = .returned (.bool true) ∧ FedPost w w' B bw xs vs vt vb vf rb rf o.s.size := by
  obtain ⟨os, cs, rfl, hos1, hos2⟩ := ownsRow_opt h.rowS
  obtain ⟨ot, ct, rfl, hot1, hot2⟩ := ownsRow_opt h.rowT
  obtain ⟨A, Bq, C, D, s, l, n0, n1, n2, n3, n4, ru, li⟩ := o
  unfold OpV.cells
  simp only at hs0 hA hall hrb
  have hs : s.size ≤ 1000000000 := by omega
  have H := hide h
  have hbw : bw < w.heap.size := (Array.getElem?_eq_some_iff.1 h.book.row).1
  clear h
  have HK : Hid (∀ w', Below (w.alloc (.cells #[.int .i64 kd, .int .i64 A, .int .i64 Bq, .int .i64 C, .int .i64 D, .string s, l, n0, n1, n2, n3, n4, ru, li] 95)).heap.size (w.alloc (.cells #[.int .i64 kd, .int .i64 A, .int .i64 Bq, .int .i64 C, .int .i64 D, .string s, l, n0, n1, n2, n3, n4, ru, li] 95)) w' → Below (w.alloc (.cells #[.int .i64 kd, .int .i64 A, .int .i64 Bq, .int .i64 C, .int .i64 D, .string s, l, n0, n1, n2, n3, n4, ru, li] 95)).heap.size (w.alloc (.cells #[.int .i64 kd, .int .i64 A, .int .i64 Bq, .int .i64 C, .int .i64 D, .string s, l, n0, n1, n2, n3, n4, ru, li] 95)) w' ∧ w'.cell? ⟨w.heap.size, 1, none⟩ = some (.int .i64 A) ∧ w'.cell? ⟨bw, 0, none⟩ = some (.slice os xs.length cs)) := by
    intro w' hb
    refine ⟨hb, ?_, ?_⟩
    · have r := (hb.block w.heap.size (by simp)).trans (heap_alloc_new w _)
      exact cell_of_row _ _ 1 _ _ _ r
    · have r := ((hb.block bw (by simp; omega)).trans (Below.heap_alloc _ _ _ hbw)).trans (unhide H).book.row
      exact cell_of_row _ _ 0 _ _ _ r
  go_enter Tryz.func56, Tryz.ntmps56
  go_wp2_with fail
  have hp0 : (0 : Int) < (xs.length : Int) := by omega
  generalize hW : (w.alloc (.cells #[.int .i64 kd, .int .i64 A, .int .i64 Bq, .int .i64 C, .int .i64 D, .string s, l, n0, n1, n2, n3, n4, ru, li] 95)) = W at HK ⊢
  go_region_held3 (fun w' => Below W.heap.size W w' ∧ w'.cell? ⟨w.heap.size, 1, none⟩ = some (.int .i64 A) ∧ w'.cell? ⟨bw, 0, none⟩ = some (.slice os xs.length cs))
    ((refine unhide HK _ ?_; repeat (first
      | exact Below.refl _ _
      | exact And.left (by assumption)
      | refine Below.drew ?_
      | refine bl_trans ?_ (by assumption))))
    (first
      | (go_at_call 59; refine (lpick_any _ _ _ hp0 (by omega) hA.1 hA.2).mono ?_; rintro e w2 ⟨rfl, rfl⟩)
      | fail)
  have hB0 : Below w.heap.size w W.drew := by
    rw [← hW]
    exact ((Below.refl _ _).alloc (Nat.le_refl _) _).drew
  have hR0 : W.drew.heap[w.heap.size]? = some (.cells #[.int .i64 kd, .int .i64 A, .int .i64 Bq, .int .i64 C, .int .i64 D, .string s, l, n0, n1, n2, n3, n4, ru, li] 95 (0, 0)) := by
    rw [← hW]
    exact heap_alloc_new w _
  have hz0 : w.heap.size < W.drew.heap.size := (Array.getElem?_eq_some_iff.1 hR0).1
  rename_i hHeld
  clear hHeld HK hW
  generalize W.drew = W0 at hB0 hR0 hz0 ⊢
  clear W
  obtain ⟨k, hk, hkn⟩ : ∃ k : Nat, pickI A xs.length = (k : Int) ∧ k < xs.length := by
    have := pickI_bd A xs.length hp0
    exact ⟨(pickI A xs.length).toNat, by omega, by omega⟩
  rw [hk]
  obtain ⟨x, hx⟩ : ∃ x, xs[k]? = some x := ⟨_, List.getElem?_eq_getElem hkn⟩
  have hxm : x ∈ xs := List.mem_of_getElem? hx
  have HX := hide hx
  have HXM := hide hxm
  have I0 := hide ((unhide H).below hB0)
  have HB0 := hide hB0
  have c2 := cell_of_row _ _ 2 _ _ _ hR0
  have c5 := cell_of_row _ _ 5 _ _ _ hR0
  simp at c2 c5
  have R0 := hide hR0
  clear hx hxm hk hA hB0 hR0
  go_wp2_with fail
  refine (lent_all s _ _ hs).mono ?_
  rintro e w1 ⟨v, rfl, hL, hb1⟩
  obtain ⟨av, cv, ev⟩ := lies_slice hL.lies
  rw [sb_len] at ev
  subst ev
  have I1 := hide ((unhide I0).below hb1)
  have R1 := hide ((hb1.block w.heap.size hz0).trans (unhide R0))
  have hz1 : W0.heap.size ≤ w1.heap.size := hb1.size
  have HL := hide hL
  have HB1 := hide hb1
  clear hL hb1 c2 c5
  obtain ⟨y0, rfl⟩ : ∃ y, os = some y := by
    cases os with
    | none => have := hos1 rfl; omega
    | some y => exact ⟨y, rfl⟩
  obtain ⟨gs, rfl, hcs⟩ := hos2 y0 rfl
  have q0 : w1.cell? ⟨bw, 0, none⟩ = some (.slice (some ⟨gs, 0, none⟩) xs.length cs) := cell_of_row _ _ 0 _ _ _ (unhide I1).book.row
  have qk : w1.cell? ⟨gs, k, none⟩ = some (.pointer (some ⟨x.pb, 0, none⟩)) := by
    rw [(unhide I1).rowS.cellAt k (by omega), List.getElem?_map, unhide HX]
    rfl
  have hvp : Hid ((Value.slice av s.size cv).ownBlock ≠ some x.pb) := fun e => by
    have a := (unhide HL).blk _ e
    have b := (Array.getElem?_eq_some_iff.1 ((unhide I0).ok x (unhide HXM)).prog).1
    omega
  go_wp2_with fail
  refine (rfeed_all x.pb x.st.2.1 x.st.2.2 181 _ s _ w1 (unhide HL) ((unhide I1).ok x (unhide HXM)).prog ((unhide I1).ok x (unhide HXM)).held (unhide hvp) hs).mono ?_
  rintro e w2 ⟨v2, ds, rfl, hF⟩
  obtain ⟨a2, c2, rfl, ha21, ha22⟩ := ownsRow_opt hF.gave.row
  have hpbl : x.pb < w.heap.size := (Array.getElem?_eq_some_iff.1 ((unhide H).ok x (unhide HXM)).prog).1
  have R2 := hide ((hF.grown.block w.heap.size (by omega) (fun e => by simp at e; omega)).trans (unhide R1))
  have c5 := cell_of_row _ _ 5 _ _ _ (unhide R2)
  simp at c5
  have L2 := hide ((unhide HL).grown hF.grown (unhide hvp))
  have HF := hide hF
  generalize hcd : (if (feedF ([], x.st.2.1, x.st.2.2) (sb s)).2.2 = true then (1 : Int) else 0) = cd
  have HCD := hide hcd
  clear hF q0 qk hcd
  go_wp2_with fail
  refine (back_all s _ _ w2 hs (unhide L2)).mono ?_
  rintro e w3 ⟨rfl, hg3⟩
  have C3 := hide (chg03 (unhide HB1) (unhide HL) (unhide HF).grown hg3)
  have hz3 : W0.heap.size ≤ w3.heap.size := (unhide C3).size
  have R3 := hide (((unhide C3).block w.heap.size hz0 (fun e => by have e' : w.heap.size = x.pb := e; omega)).trans (unhide R0))
  have HG3 := hide hg3
  clear hg3 c5
  obtain ⟨y1, rfl⟩ : ∃ y, ot = some y := by
    cases ot with
    | none => have := hot1 rfl; omega
    | some y => exact ⟨y, rfl⟩
  obtain ⟨gt, rfl, hct⟩ := hot2 y1 rfl
  have ox := (unhide I0).ok x (unhide HXM)
  have htl : x.tb < w.heap.size := (Array.getElem?_eq_some_iff.1 ((unhide H).ok x (unhide HXM)).ref).1
  have HK : Hid (∀ w', Chg w3 w' (fun i => i = x.tb ∨ x.vA.ownBlock = some i) → Chg w3 w' (fun i => i = x.tb ∨ x.vA.ownBlock = some i) ∧ w'.cell? ⟨bw, 1, none⟩ = some (.slice (some ⟨gt, 0, none⟩) xs.length ct) ∧ w'.cell? ⟨gt, k, none⟩ = some (.pointer (some ⟨x.tb, 0, none⟩)) ∧ w'.cell? ⟨w.heap.size, 5, none⟩ = some (.string s)) := by
    intro w' hc
    have hbw0 := (Array.getElem?_eq_some_iff.1 (unhide I0).book.row).1
    have hbT := own_cells (unhide I0).rowT (g := gt) rfl
    obtain ⟨csT, frT, hhT⟩ := hbT
    have lT := (Array.getElem?_eq_some_iff.1 hhT).1
    have rb' : w'.heap[bw]? = W0.heap[bw]? := by
      rw [hc.block bw (by omega) ?_, (unhide C3).block bw hbw0 (fun e => row_ne (unhide I0).book.row ox.prog (by decide) e)]
      rintro (e | e)
      · exact row_ne (unhide I0).book.row ox.ref (by decide) e
      · exact absurd (own_elem ox.own (unhide I0).book.row e) (by decide)
    have rt' : w'.heap[gt]? = W0.heap[gt]? := by
      rw [hc.block gt (by omega) ?_, (unhide C3).block gt lT (fun e => row_ne hhT ox.prog (by decide) e)]
      rintro (e | e)
      · exact row_ne hhT ox.ref (by decide) e
      · exact absurd (own_elem ox.own hhT e) (by decide)
    have ro' : w'.heap[w.heap.size]? = w3.heap[w.heap.size]? := hc.block _ (by omega) (by
      rintro (e | e)
      · omega
      · have := (World.ownsRow.lt ((unhide H).ok x (unhide HXM)).own _ e).2
        omega)
    refine ⟨hc, ?_, ?_, ?_⟩
    · exact cell_of_row _ _ 1 _ _ _ (rb'.trans (unhide I0).book.row)
    · have e : W0.cell? ⟨gt, k, none⟩ = some (.pointer (some ⟨x.tb, 0, none⟩)) := by
        rw [(unhide I0).rowT.cellAt k (by omega), List.getElem?_map, unhide HX]
        rfl
      rw [← e]
      exact World.cell?_of_block rt'
    · exact cell_of_row _ _ 5 _ _ _ (ro'.trans (unhide R3))
  obtain ⟨w4, cc, hcv, hb4, hl4⟩ := conv_bytes w3.drew s
  have e3 : w3.drew.heap.size = w3.heap.size := by simp
  rw [e3] at hcv hl4
  have T4 : Hid (w4.heap[x.tb]? = some (.cells #[x.vA, .int .i64 x.st.1.length, .bool x.st.2.2] 118 (0, 0))) := by
    refine ((hb4.block x.tb (by rw [e3]; omega)).trans ((unhide C3).block x.tb (by omega) (fun e => row_ne ox.ref ox.prog (by decide) e))).trans ox.ref
  have O4 : Hid (Owns w4 B x.vA x.all) := ownsRow_keep ox.own fun i _ p q => (hb4.block i (by rw [e3]; omega)).trans ((unhide C3).block i p (fun e => by
    have e' : i = x.pb := e
    subst e'
    exact absurd (own_elem ox.own ox.prog q) (by decide)))
  have L4 := hide (lies_cells hl4)
  have hz4 : w3.heap.size ≤ w4.heap.size := by have := hb4.size; rw [e3] at this; exact this
  have HBy := hide ox.bys
  have hal := hall x (unhide HXM)
  clear hl4 ox hall e3
  go_wp2_with fail
  go_region_held_law (fun w' => Chg w3 w' (fun i => i = x.tb ∨ x.vA.ownBlock = some i) ∧ w'.cell? ⟨bw, 1, none⟩ = some (.slice (some ⟨gt, 0, none⟩) xs.length ct) ∧ w'.cell? ⟨gt, k, none⟩ = some (.pointer (some ⟨x.tb, 0, none⟩)) ∧ w'.cell? ⟨w.heap.size, 5, none⟩ = some (.string s))
    ((refine unhide HK _ ?_; repeat (first
      | exact Chg.refl _ _
      | exact And.left (by assumption)
      | refine chg_drew ?_
      | refine chg_below ?_ (by assumption)
      | refine chg_same ?_ (by assumption))))
    (first
      | (go_at_call 83; refine (ref_all' x B w3.heap.size cc s.size (sb s) w4 (sb_len s) (unhide T4) (unhide O4) (unhide HBy) (unhide L4) (sb_bys s) (by omega) (by rw [sb_len]; omega)).mono ?_; rintro e w5 ⟨vout, x', cd', rfl, HC5, HR5, hRc⟩)
      | fail)
  rename_i hHeld5
  have hz5 : w4.heap.size ≤ w5.heap.size := hRc.size
  have hcde : cd' = cd := (unhide HC5).trans (unhide HCD)
  subst hcde
  have G5 := hide (gave5 (w3' := w3.drew) (unhide HL) (unhide HF).gave (unhide HG3) rfl hb4 hRc (by
    rintro i (e | e)
    · omega
    · have := (World.ownsRow.lt ((unhide H).ok x (unhide HXM)).own i e).2
      omega))
  have hfl : (feedF ([], x.st.2) (sb s)).1 = ds.map (·.fr) := (unhide HF).fs.symm
  have RD := (unhide HR5).reads
  rw [hfl] at RD
  obtain ⟨am, cm, rfl, hm1, hm2⟩ := id RD
  have HRD := hide RD
  have HFL := hide hfl
  have HB4 := hide hb4
  clear RD hfl hm1 hm2 hHeld5 hcv hb4 HK
  rw [List.length_map] at *
  have hdl : ds.length ≤ s.size := by
    have q := feedF_len ([], x.st.2.1, x.st.2.2) (sb s)
    rw [← (unhide HF).fs, sb_len] at q
    simpa using q
  go_wp2
  go_loopw [12] (fun i wr => ∃ t : Nat, t ≤ ds.length ∧ i = .int .i64 t ∧ Below w5.heap.size w5 wr) (fun i _ => ds.length - (intOf i).toNat)
  case atStart => exact ⟨0, by omega, rfl, Below.refl _ _⟩
  case round =>
    obtain ⟨t, ht, rfl, hbr⟩ := hrel
    by_cases hlt : t < ds.length
    · obtain ⟨y2, rfl⟩ : ∃ y, a2 = some y := by
        cases a2 with
        | none => have := ha21 rfl; omega
        | some y => exact ⟨y, rfl⟩
      obtain ⟨g2, rfl, hc2⟩ := ha22 y2 rfl
      obtain ⟨d, hd⟩ : ∃ d, ds[t]? = some d := ⟨_, List.getElem?_eq_getElem hlt⟩
      have gw : Gave wr w1.heap.size (.slice (some ⟨g2, 0, none⟩) ds.length c2) ds := (unhide G5).kept fun i _ p => hbr.block i p
      obtain ⟨p0, p1, p2, pl⟩ := gw.at hd
      have rw_ := (unhide HRD).kept hbr
      obtain ⟨am', cm', em, hm1, hm2⟩ := id rw_
      simp only [Value.slice.injEq] at em
      obtain ⟨rfl, eq_, rfl⟩ := em
      clear eq_
      obtain ⟨gm, om, dv, rfl, m0, m1, m2, ml⟩ := hm2 t d.fr (by rw [List.getElem?_map, hd]; rfl)
      obtain ⟨gm', om', em', hgl⟩ := hm1 (fun e => absurd hlt (by rw [show ds = [] by simpa using e]; simp))
      simp only [Option.some.injEq, Addr.mk.injEq] at em'
      obtain ⟨rfl, rfl, _⟩ := em'
      obtain ⟨ae, ce, rfl⟩ := lies_slice ml
      have hgl2 : g2 < wr.heap.size := (World.ownsRow.lt gw.row g2 rfl).2
      have ms : w5.heap.size ≤ wr.heap.size := hbr.size
      have hcm : (ds.length : Int) ≤ ds.length := by omega
      have cv1 := fun w' (hb : Below wr.heap.size wr w') => conv_lies (pl.below hb)
      have cv2 := fun w' (hb : Below wr.heap.size wr w') => conv_lies (ml.below hb)
      have hsh : d.val = .slice (some ⟨d.g, 0, none⟩) d.fr.data.length d.cap := rfl
      rw [hsh] at p2 cv1
      generalize d.fr.mark = mk at p0 m0
      generalize d.fr.unit = un at p1 m1
      generalize strOfNums d.fr.data = str at cv1 cv2
      generalize d.fr.data.length = dn at p2 cv1 m2 cv2
      generalize d.g = dg at p2 cv1
      generalize d.cap = dc at p2 cv1
      have HBr := hide hbr
      have CV1 := hide cv1
      have CV2 := hide cv2
      clear cv1 cv2 gw pl rw_ hm1 hm2 ml hsh hd hbr hcm ha21 ha22 hos1 hos2 hot1 hot2 hn hn2 hrb hrf hal
      have HK : Hid (∀ w', Below wr.heap.size wr w' → Below wr.heap.size wr w' ∧ w'.cell? ⟨g2, t * 3, none⟩ = some (.int .i64 mk) ∧ w'.cell? ⟨g2, t * 3 + 1, none⟩ = some (.int .i64 un) ∧ w'.cell? ⟨g2, t * 3 + 2, none⟩ = some (.slice (some ⟨dg, 0, none⟩) dn dc) ∧ w'.cell? ⟨gm, om + t * 3, none⟩ = some (.int .i64 mk) ∧ w'.cell? ⟨gm, om + t * 3 + 1, none⟩ = some (.int .i64 un) ∧ w'.cell? ⟨gm, om + t * 3 + 2, none⟩ = some (.slice ae dn ce) ∧ Sem.run Tryz.prog (convert 37 9 (.slice (some ⟨dg, 0, none⟩) dn dc)) w' = Result.ok (.string str) w' ∧ Sem.run Tryz.prog (convert 37 9 (.slice ae dn ce)) w' = Result.ok (.string str) w') := fun w' hb => ⟨hb, (hb.cell (by exact hgl2)).trans p0, (hb.cell (by exact hgl2)).trans p1, (hb.cell (by exact hgl2)).trans p2, (hb.cell (by exact hgl)).trans m0, (hb.cell (by exact hgl)).trans m1, (hb.cell (by exact hgl)).trans m2, unhide CV1 w' hb, unhide CV2 w' hb⟩
      clear p0 p1 p2 m0 m1 m2
      go_wp2_with fail
      go_region_held3 (fun w' => Below wr.heap.size wr w' ∧ w'.cell? ⟨g2, t * 3, none⟩ = some (.int .i64 mk) ∧ w'.cell? ⟨g2, t * 3 + 1, none⟩ = some (.int .i64 un) ∧ w'.cell? ⟨g2, t * 3 + 2, none⟩ = some (.slice (some ⟨dg, 0, none⟩) dn dc) ∧ w'.cell? ⟨gm, om + t * 3, none⟩ = some (.int .i64 mk) ∧ w'.cell? ⟨gm, om + t * 3 + 1, none⟩ = some (.int .i64 un) ∧ w'.cell? ⟨gm, om + t * 3 + 2, none⟩ = some (.slice ae dn ce) ∧ Sem.run Tryz.prog (convert 37 9 (.slice (some ⟨dg, 0, none⟩) dn dc)) w' = Result.ok (.string str) w' ∧ Sem.run Tryz.prog (convert 37 9 (.slice ae dn ce)) w' = Result.ok (.string str) w')
        ((refine unhide HK _ ?_; repeat (first
          | exact Below.refl _ _
          | exact And.left (by assumption)
          | refine Below.drew ?_
          | refine bl_trans ?_ (by assumption))))
        (fail)
      go_wp2
      go_roundw
      case rel => exact ⟨t + 1, by omega, by go_num, (unhide HBr).drew⟩
      case measure => simp [intOf]; omega
    · have hlt' : decide ((t : Int) < (ds.length : Int)) = false := by simp; omega
      have M := hide (fed_mid (w3' := w3.drew) (unhide I0) (by omega) (unhide HX) (unhide HB1) (unhide HL) (unhide HF) (unhide HG3) (unhide C3) rfl ⟨rfl, rfl, rfl⟩ (unhide HB4) (unhide HR5) (unhide G5) hbr)
      have hz9 : B ≤ wr.heap.size := by have := hbr.size; omega
      go_wp2_with fail
      refine (bookFrame_any B bw _ _ _ vb vf _ rb rf ds wr (unhide M).inv.book (unhide M).gave (unhide M).free (fun d m => by have := (unhide M).lens d m; omega) (by have := (unhide M).num; omega) hrf hz9).mono ?_
      rintro e w6 ⟨rfl, hbk⟩
      have HBK := hide hbk
      clear hbk
      go_wp2
      go_ret
      exact ⟨rfl, fed_done (unhide HX) (unhide HB0) (unhide M) (unhide HBK)⟩
end Go.Proofs.YtfekelmldebplaaGreatDoor
