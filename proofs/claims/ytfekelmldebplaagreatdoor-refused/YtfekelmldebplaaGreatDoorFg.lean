import Derived.Test.YtfekelmldebplaaGreatDoorFe
import Derived.Deep.QuietTactic
import Derived.BigQuiet
namespace Go.Proofs.YtfekelmldebplaaGreatDoor
open Go.RowKit Go.MuLone

theorem below_drawn {w W : World} (h : Below w.heap.size w W) (n : Nat) : Below w.heap.size w (W.drewN n) := ⟨h.os, h.tape, h.output, h.size, h.block⟩

set_option maxRecDepth 10000 in
set_option maxHeartbeats 1500000 in
theorem refused_any (wh at_ cu od : Int) (w : World) (w0 : -9223372036854775808 ≤ wh ∧ wh ≤ 9223372036854775807) (a0 : -9223372036854775808 ≤ at_ ∧ at_ ≤ 9223372036854775807) (c0 : -9223372036854775808 ≤ cu ∧ cu ≤ 9223372036854775807) (d0 : -9223372036854775808 ≤ od ∧ od ≤ 9223372036854775807) (hg : ErrVar w) :
    Calls Tryz.prog 11 #[.int .i64 wh, .int .i64 at_, .int .i64 cu, .int .i64 od] w fun e w' => e = .returned (.bool true) ∧ Below w.heap.size w w' := by
  have hb1 := rule_new w (.cells #[.int .i64 20, .int .i64 20, .int .i64 20, .int .i64 20] 31)
  have HB1 := hide hb1
  have HG1 := hide (hg.below hb1)
  have HR1 := hide (heap_alloc_new w (.cells #[.int .i64 20, .int .i64 20, .int .i64 20, .int .i64 20] 31))
  have hgl : 0 < w.heap.size := World.block_lt_of_cell? w _ hg
  have hrc0 := cell_of_row _ _ 0 _ _ _ (unhide HR1)
  have hrc1 := cell_of_row _ _ 1 _ _ _ (unhide HR1)
  have hrc2 := cell_of_row _ _ 2 _ _ _ (unhide HR1)
  have hrc3 := cell_of_row _ _ 3 _ _ _ (unhide HR1)
  simp at hrc0 hrc1 hrc2 hrc3
  have HOp := hide (open200 20 20 20 20 (w.alloc (.cells #[.int .i64 20, .int .i64 20, .int .i64 20, .int .i64 20] 31)) (by omega) (by omega) (by omega) (by omega))
  rw [show ((20 : Nat) : Int) = 20 from rfl] at HOp
  clear hb1 hg
  go_enter Tryz.func11, Tryz.ntmps11
  go_wp2_with fail
  refine (unhide HOp).mono ?_
  rintro e w2 ⟨B, rb, sb, tb, kb, t4, us, rfl, hB2, hlB, hb2, hL0, hL1, hL2, hL3⟩
  have hz1 := (unhide HB1).size
  have hBw : w.heap.size ≤ B := by omega
  have HB2 := hide (bl_trans (unhide HB1) hb2)
  have HG2 := hide ((unhide HG1).below hb2)
  have HR2 := hide ((hb2.block w.heap.size (by simp)).trans (unhide HR1))
  have HBk2 := hide hB2
  have hLL : ∀ i, i < 4 → (t4.at i).L = List.replicate 20 0 := fun i hi => by
    have hk : i = 0 ∨ i = 1 ∨ i = 2 ∨ i = 3 := by omega
    rcases hk with rfl | rfl | rfl | rfl <;> assumption
  have HLL := hide hLL
  clear HOp hb2 hB2 hL0 hL1 hL2 hL3 HB1 HG1 HR1 hrc0 hrc1 hrc2 hrc3 hLL
  have HPa := hide (fun w => pick_any at_ 19 w (by omega) (by omega) a0.1 a0.2)
  have hab := pickI_bd at_ 19 (by omega)
  obtain ⟨a, ha⟩ : ∃ a : Nat, pickI at_ 19 = (a : Int) := ⟨(pickI at_ 19).toNat, by omega⟩
  rw [ha] at HPa hab
  have ha19 : a < 19 := by omega
  clear ha hab
  go_wp2_with fail
  refine (unhide HPa w2).mono ?_
  rintro e w2 ⟨rfl, rfl⟩
  have HRq := hide (requests_any (a : Int) w2 (by omega) (by omega))
  clear HPa
  go_wp2_with fail
  refine (unhide HRq).mono ?_
  rintro e w3 ⟨R, vs, rfl, hvs, hRow, hOw, hb3⟩
  have HPk := hide (fun w => pick_any wh 10 w (by omega) (by omega) w0.1 w0.2)
  have hkb := pickI_bd wh 10 (by omega)
  obtain ⟨k, hk⟩ : ∃ k : Nat, pickI wh 10 = (k : Int) := ⟨(pickI wh 10).toNat, by omega⟩
  rw [hk] at HPk hkb
  have hk10 : k < 10 := by omega
  have hOk := (hOw k hk10).weak (unhide HB2).size
  rw [reqL_at a k hk10] at hOk
  have hck : w3.cell? ⟨R, k, none⟩ = some (vs.getD k undef) := by
    rw [cell_of_row _ _ _ _ _ _ hRow]
    have : k < vs.length := by omega
    simp [List.getD, List.getElem?_eq_getElem this]
  obtain ⟨gq, cq, hvq, hgq1, hgq2⟩ := Owns.shape hOk (by simp)
  rw [hvq] at hOk hck
  have HC3 : Hid (RS w w3 B rb sb tb kb t4 us (.slice (some ⟨gq, 0, none⟩) (reqF k :: reqB a k).length cq) (reqF k :: reqB a k)) := ⟨bl_trans (unhide HB2) hb3, (unhide HBk2).below hb3, hOk, (unhide HG2).below hb3, hBw, by omega⟩
  have HR3 := hide ((hb3.block w.heap.size (Array.getElem?_eq_some_iff.1 (unhide HR2)).1).trans (unhide HR2))
  have hfk := reqF_bd k hk10
  have hcf := hOk.lies
  have hk10' : (k : Int) < 10 := by omega
  obtain ⟨m, hm⟩ : ∃ m, (reqB a k).length = m := ⟨_, rfl⟩
  have hm1 : 4 ≤ m ∧ m ≤ 13 := by
    rw [← hm, reqB_len a k hk10]
    match k, hk10 with
    | 0, _ => exact ⟨by decide, by decide⟩
    | 1, _ => exact ⟨by decide, by decide⟩
    | 2, _ => exact ⟨by decide, by decide⟩
    | 3, _ => exact ⟨by decide, by decide⟩
    | 4, _ => exact ⟨by decide, by decide⟩
    | 5, _ => exact ⟨by decide, by decide⟩
    | 6, _ => exact ⟨by decide, by decide⟩
    | 7, _ => exact ⟨by decide, by decide⟩
    | 8, _ => exact ⟨by decide, by decide⟩
    | 9, _ => exact ⟨by decide, by decide⟩
  have hcq := Owns.cells hOk 0 (by simp)
  have hln : (reqF k :: reqB a k).length = m + 1 := by simp [hm]
  have HM := hide hm
  have HLN := hide hln
  rw [hln] at hck HC3
  have HOk := hide hOk
  have hbsy := reqB_bys a k (by omega) hk10
  have HBy := hide hbsy
  have HF := hide hfk
  have HHK := hide hk10
  have e0 : (reqF k :: reqB a k).getD 0 0 = reqF k := rfl
  rw [e0] at hcq
  have HJ1 : Hid (judge t4 [] (reqF k) (reqB a k) = .inl 4) := by
    have hsp := reqQ_span a k hk10
    exact judge_exc t4 [] _ 4 _ _ (parse_req a k (by omega) hk10) (exc_denied _ _ (by rw [unhide HLL _ hsp.1]; simp; omega) (by rw [unhide HLL _ hsp.1]; simp; omega) hsp.2.2.2.1) (by omega)
  have HT1 := hide ((unhide HC3).tell 1 (by omega) [] rfl (reqF k) 4 _ (reqB a k) (by have := (unhide HC3).own.lies; exact this) (fun b e => own_cells (unhide HC3).own e) (by have := unhide HM; omega) (unhide HBy) (by have := unhide HF; omega) (by omega) (unhide HJ1))
  obtain ⟨ff, hff⟩ : ∃ ff, reqF k = ff := ⟨_, rfl⟩
  rw [hff] at hcq hfk HT1 HLN HF
  have HFF := hide hff
  have hkv : ([allRules, []] : List (List Rule))[0]? = some allRules := rfl
  clear hb3 hOw hRow hvs hvq HRq HB2 HG2 HR2 HBk2 hkb hk hOk hcf hm hln e0 hbsy hff HJ1
  go_wp2_with fail
  refine (unhide HPk w3).mono ?_
  rintro e w3 ⟨rfl, rfl⟩
  clear HPk
  go_wp2_with fail
  refine (unhide HT1).mono ?_
  rintro e w4 ⟨rfl, hC4, hc4⟩
  have HC4 := hide hC4
  have HR4 := hide ((hc4.block w.heap.size (Array.getElem?_eq_some_iff.1 (unhide HR3)).1 (rows_ne (unhide HR3) (unhide HC3).bk.st.row (by decide))).trans (unhide HR3))
  clear hC4 hc4 HT1 HC3 HR3 hck
  -- what is cut
  have HPc := hide (fun w => pick_any cu (m : Int) w (by omega) (by omega) c0.1 c0.2)
  have hcb := pickI_bd cu (m : Int) (by omega)
  obtain ⟨n, hn⟩ : ∃ n : Nat, pickI cu (m : Int) = (n : Int) := ⟨(pickI cu (m : Int)).toNat, by omega⟩
  rw [hn] at HPc hcb
  have hnm : n < m := by omega
  clear hn hcb
  go_wp2_with fail
  refine (unhide HPc w4).mono ?_
  rintro e w4 ⟨rfl, rfl⟩
  clear HPc
  have hcap : (m : Int) + 1 ≤ (cq : Int) := by have := Owns.cap (unhide HC4).own; omega
  have hnm' : (n : Int) < (m : Int) := by omega
  have hLc := (unhide HC4).own.lies
  rw [← unhide HLN] at hLc
  have hLc2 := lies_cut (n := n + 1) hLc (by rw [unhide HLN]; omega)
  rw [List.take_succ_cons] at hLc2
  have HT2 := hide ((unhide HC4).tell 0 (by omega) allRules rfl ff 3 _ ((reqB a k).take n) hLc2 (fun b e => own_cells (unhide HC4).own e) (by have := unhide HM; simp; omega) (fun y hy => unhide HBy y (List.mem_of_mem_take hy)) (by have := unhide HF; omega) (by omega) (judge_inl t4 _ _ _ _ (by rw [← unhide HFF]; exact parse_cut a k n (unhide HHK) (by rw [unhide HM]; exact hnm))))
  rw [Nat.add_comm n 1] at HT2
  clear hLc hLc2
  go_wp2_with fail
  refine (unhide HT2).mono ?_
  rintro e w5 ⟨rfl, hC5, hc5⟩
  have HC5 := hide hC5
  have HR5 := hide ((hc5.block w.heap.size (Array.getElem?_eq_some_iff.1 (unhide HR4)).1 (rows_ne (unhide HR4) (unhide HC4).bk.st.row (by decide))).trans (unhide HR4))
  clear hC5 hc5 HT2 HC4 HR4
  -- what is longer
  have hbz := rule_new w5 (.cells #[.int .u8 0] 5)
  have HJ := hide (join_last w5 (w5.alloc (.cells #[.int .u8 0] 5)) [.slice (some ⟨gq, 0, none⟩) (m + 1) cq, .slice (some ⟨w5.heap.size, 0, none⟩) 1 1] [ff :: reqB a k, [0]] 37 (w5.heap.size + 1) 2 (by simp) hbz rfl rfl (fun i hi => by
    match i, hi with
    | 0, _ => exact ⟨((unhide HC5).below hbz).own.lies, by simp⟩
    | 1, _ => exact ⟨lies_fresh w5 [0], by simp⟩) (by omega) (by have := unhide HM; simp; omega) (ff :: (reqB a k ++ [0])) (by simp))
  clear hbz
  go_wp2_with fail
  refine (unhide HJ).mono ?_
  rintro e w6 ⟨a6, n6, c6, rfl, ho6, hb6⟩
  have HC6 := hide ((unhide HC5).below hb6)
  have HR6 := hide ((hb6.block w.heap.size (Array.getElem?_eq_some_iff.1 (unhide HR5)).1).trans (unhide HR5))
  have HT3 := hide ((unhide HC6).tell 0 (by omega) allRules rfl ff 3 _ (reqB a k ++ [0]) ho6.lies (fun b e => own_cells ho6 e) (by have := unhide HM; simp; omega) ((unhide HBy).append (fun y hy => by rcases List.mem_singleton.1 hy with rfl; omega)) (by have := unhide HF; omega) (by omega) (judge_inl t4 _ _ _ _ (by rw [← unhide HFF]; exact parse_more a k (unhide HHK))))
  clear ho6 hb6 HJ HC5 HR5
  go_wp2_with fail
  refine (unhide HT3).mono ?_
  rintro e w7 ⟨rfl, hC7, hc7⟩
  have HC7 := hide hC7
  have HR7 := hide ((hc7.block w.heap.size (Array.getElem?_eq_some_iff.1 (unhide HR6)).1 (rows_ne (unhide HR6) (unhide HC6).bk.st.row (by decide))).trans (unhide HR6))
  clear hC7 hc7 HT3 HC6 HR6
  -- far
  have HPf := hide (fun w => pick_any at_ 60000 w (by omega) (by omega) a0.1 a0.2)
  have hfb := pickI_bd at_ 60000 (by omega)
  obtain ⟨m2, hm2⟩ : ∃ m2 : Nat, pickI at_ 60000 = (m2 : Int) := ⟨(pickI at_ 60000).toNat, by omega⟩
  rw [hm2] at HPf hfb
  have hm2b : m2 < 60000 := by omega
  clear hm2 hfb
  have HRq := hide (fun w => requests_any (20 + (m2 : Int)) w (by omega) (by omega))
  go_wp2_with fail
  refine (unhide HPf w7).mono ?_
  rintro e w7 ⟨rfl, rfl⟩
  clear HPf
  go_wp2_with fail
  refine (unhide HRq w7).mono ?_
  rintro e w8 ⟨R2, vs2, rfl, hvs2, hRow2, hOw2, hb8⟩
  have hOf := (hOw2 k (unhide HHK)).weak (unhide HC7).bel.size
  rw [show (20 : Int) + (m2 : Int) = ((20 + m2 : Nat) : Int) by omega, reqL_at (20 + m2) k (unhide HHK), unhide HFF] at hOf
  have hckf : w8.cell? ⟨R2, k, none⟩ = some (vs2.getD k undef) := by
    rw [cell_of_row _ _ _ _ _ _ hRow2]
    have : k < vs2.length := by have := unhide HHK; omega
    simp [List.getD, List.getElem?_eq_getElem this]
  obtain ⟨gf, cf, hvf, hgf1, hgf2⟩ := Owns.shape hOf (by simp)
  rw [hvf] at hOf hckf
  have HC8 := hide ((unhide HC7).below hb8)
  have HR8 := hide ((hb8.block w.heap.size (Array.getElem?_eq_some_iff.1 (unhide HR7)).1).trans (unhide HR7))
  have hlf : (ff :: reqB (20 + m2) k).length = m + 1 := by
    have h1 := reqB_len (20 + m2) k (unhide HHK)
    have h2 := reqB_len a k (unhide HHK)
    have := unhide HM
    simp
    omega
  have hj2 : judge t4 [] ff (reqB (20 + m2) k) = .inl 2 := by
    rw [← unhide HFF]
    have hsp := reqQ_span (20 + m2) k (unhide HHK)
    exact judge_exc t4 [] _ 2 _ _ (parse_req (20 + m2) k (by omega) (unhide HHK)) (exc_far _ _ _ (by rw [unhide HLL _ hsp.1]; simp; omega)) (by omega)
  have HT4 := hide ((unhide HC8).tell 1 (by omega) [] rfl ff 2 _ (reqB (20 + m2) k) hOf.lies (fun b e => own_cells hOf e) (by simp at hlf; omega) (reqB_bys _ _ (by omega) (unhide HHK)) (by have := unhide HF; omega) (by omega) hj2)
  rw [hlf] at hckf HT4
  clear hOf hvf hRow2 hOw2 hvs2 hb8 HRq HC7 HR7 hlf hj2
  go_wp2_with fail
  refine (unhide HT4).mono ?_
  rintro e w9 ⟨rfl, hC9, hc9⟩
  have HC9 := hide hC9
  have HR9 := hide ((hc9.block w.heap.size (Array.getElem?_eq_some_iff.1 (unhide HR8)).1 (rows_ne (unhide HR8) (unhide HC8).bk.st.row (by decide))).trans (unhide HR8))
  clear hC9 hc9 HT4 HC8 HR8 hckf
  -- none
  have HPo := hide (fun w => pick_any od 10 w (by omega) (by omega) d0.1 d0.2)
  have hob := pickI_bd od 10 (by omega)
  obtain ⟨j, hj⟩ : ∃ j : Nat, pickI od 10 = (j : Int) := ⟨(pickI od 10).toNat, by omega⟩
  rw [hj] at HPo hob
  have hj10 : j < 10 := by omega
  have hj10' : (j : Int) < 10 := by omega
  clear hj hob
  have hcn : (w9.alloc (.cells #[.int .i64 7, .int .i64 8, .int .i64 14, .int .i64 17, .int .i64 24, .int .i64 100, .int .i64 127, .int .i64 0, .int .i64 9, .int .i64 21] 3)).cell? ⟨w9.heap.size, j, none⟩ = some (.int .i64 (noneL.getD j 0)) := by
    rw [cell_of_row _ _ _ _ _ _ (heap_alloc_new w9 _)]
    match j, hj10 with
    | 0, _ => rfl
    | 1, _ => rfl
    | 2, _ => rfl
    | 3, _ => rfl
    | 4, _ => rfl
    | 5, _ => rfl
    | 6, _ => rfl
    | 7, _ => rfl
    | 8, _ => rfl
    | 9, _ => rfl
  obtain ⟨hor, hn0, hn1, hpn⟩ := none_or j hj10
  generalize noneL.getD j 0 = nn at hcn hor hn0 hn1 hpn
  have hob := or_byte nn 128 (by omega) (by omega)
  have HPn := hide hpn
  have hb10 := rule_new w9 (.cells #[.int .i64 7, .int .i64 8, .int .i64 14, .int .i64 17, .int .i64 24, .int .i64 100, .int .i64 127, .int .i64 0, .int .i64 9, .int .i64 21] 3)
  have HC10 := hide ((unhide HC9).below hb10)
  have HR10 := hide ((hb10.block w.heap.size (Array.getElem?_eq_some_iff.1 (unhide HR9)).1).trans (unhide HR9))
  clear hb10 hpn HC9 HR9
  go_wp2_with fail
  generalize w9.alloc (.cells #[.int .i64 7, .int .i64 8, .int .i64 14, .int .i64 17, .int .i64 24, .int .i64 100, .int .i64 127, .int .i64 0, .int .i64 9, .int .i64 21] 3) = w10 at hcn HC10 HR10 ⊢
  refine (unhide HPo w10).mono ?_
  rintro e w10 ⟨rfl, rfl⟩
  have hb11 := rule_new w10 (.cells #[.int .u8 nn, .int .u8 0, .int .u8 0, .int .u8 0, .int .u8 1] 5)
  have hr11 := heap_alloc_new w10 (.cells #[.int .u8 nn, .int .u8 0, .int .u8 0, .int .u8 0, .int .u8 1] 5)
  have HC11 := hide ((unhide HC10).below hb11)
  have HR11 := hide ((hb11.block w.heap.size (Array.getElem?_eq_some_iff.1 (unhide HR10)).1).trans (unhide HR10))
  have HT5 := hide ((unhide HC11).tell 0 (by omega) allRules rfl nn 1 (.slice (some ⟨w10.heap.size, 0, none⟩) 5 5) [0, 0, 0, 1] (lies_fresh w10 [nn, 0, 0, 0, 1]) (fun b e => by simp [Value.ownBlock] at e; subst e; exact ⟨_, _, hr11⟩) (by simp) (fun y hy => by simp at hy; omega) (by omega) (by omega) (judge_inl t4 _ _ _ _ (unhide HPn _)))
  rw [World.size_alloc] at HT5
  clear hb11 hr11 HPo HC10 HR10
  go_wp2_with fail
  refine (unhide HT5).mono ?_
  rintro e w12 ⟨rfl, hC12, hc12⟩
  have HC12 := hide hC12
  have hR12 := (hc12.block w.heap.size (Array.getElem?_eq_some_iff.1 (unhide HR11)).1 (rows_ne (unhide HR11) (unhide HC11).bk.st.row (by decide))).trans (unhide HR11)
  have hrc0 := cell_of_row _ _ 0 _ _ _ hR12
  have hrc1 := cell_of_row _ _ 1 _ _ _ hR12
  have hrc2 := cell_of_row _ _ 2 _ _ _ hR12
  have hrc3 := cell_of_row _ _ 3 _ _ _ hR12
  simp at hrc0 hrc1 hrc2 hrc3
  have HSt := hide (still_any B rb sb tb kb t4 _ us 20 w12 hC12.bk (by omega) (unhide HLL))
  rw [show ((20 : Nat) : Int) = 20 from rfl] at HSt
  clear hC12 hc12 HT5 HC11 HR11 hR12 hcn hor hob
  go_wp2_with fail
  refine (unhide HSt).mono ?_
  rintro e w13 ⟨rfl, hB13, hc13⟩
  have HC13 := hide ((unhide HC12).done hc13 hB13)
  clear hB13 hc13 HSt HC12 hrc0 hrc1 hrc2 hrc3
  have HA1 := hide (answer_client B rb sb tb kb t4 _ us 2 (.slice (some ⟨gq, 0, none⟩) (m + 1) cq) w13 (unhide HC13).bk (.inr (by simp)) ⟨_, _, _, rfl⟩)
  go_wp2_with fail
  refine (unhide HA1).mono ?_
  rintro e w14 ⟨e14, rfl, rfl, hb14⟩
  have HC14 := hide ((unhide HC13).below hb14)
  clear hb14 HA1 HC13
  have HA2 := hide (answer_client B rb sb tb kb t4 _ us (-1) (.slice (some ⟨gq, 0, none⟩) (m + 1) cq) w14 (unhide HC14).bk (.inl (by omega)) ⟨_, _, _, rfl⟩)
  go_wp2_with fail
  refine (unhide HA2).mono ?_
  rintro e w15 ⟨e15, rfl, rfl, hb15⟩
  have HC15 := hide ((unhide HC14).below hb15)
  clear hb15 HA2 HC14
  have HA3 := hide (answer_frame B rb sb tb kb t4 _ us 0 w15 (unhide HC15).bk (by simp))
  go_wp2_with fail
  refine (unhide HA3).mono ?_
  rintro e w16 ⟨rfl, hb16⟩
  have HC16 := hide ((unhide HC15).below hb16)
  clear hb16 HA3 HC15
  have hus : ∃ u, us[0]? = some u := by
    have hl := (unhide HC16).bk.st.cl.len
    cases us with
    | nil => simp at hl
    | cons u _ => exact ⟨u, rfl⟩
  obtain ⟨u, hu⟩ := hus
  have hsp := reqQ_span a k (unhide HHK)
  have hzz : ∀ i, i < 4 → ∀ x ∈ (t4.at i).L, 0 ≤ x ∧ x ≤ topOf i := fun i hi x hx => by
    rw [unhide HLL i hi] at hx
    have := List.eq_of_mem_replicate hx
    have ht : 1 ≤ topOf i := by unfold topOf; split <;> omega
    omega
  have HA4 := hide (answer_okc B rb sb tb kb t4 _ us 0 (by omega) allRules u ff (.slice (some ⟨gq, 0, none⟩) (m + 1) cq) (reqB a k) (reqQ a k) w16 (unhide HC16).bk rfl hu (by simp [allRules]) (unhide HC16).own.lies (fun b e => own_cells (unhide HC16).own e) (fun e => by have := unhide HM; rw [e] at this; simp at this; omega) (by have := unhide HM; omega) (unhide HBy) (by rw [← unhide HFF]; exact parse_req a k (by omega) (unhide HHK)) (exc_all _ _ hsp.1 (by rw [unhide HLL _ hsp.1]; simp) (by rw [unhide HLL _ hsp.1]; simp; omega) (by rw [unhide HLL _ hsp.1]; simp; omega)) (hzz _ hsp.1) (fun rp v W hr hl hd => parse_any ff (reqB a k) (unhide HBy) (by have := unhide HM; omega) rp v W hr hl hd))
  clear hzz
  go_wp2_with fail
  refine (unhide HA4).mono ?_
  rintro e w17 ⟨a17, n17, c17, rfl, ho17, hB17, hc17⟩
  obtain ⟨l17, hl17, hl0⟩ := told_head (reqQ a k) (packT (reqQ a k).t (spanL (carryL (t4.at (reqQ a k).t).L (reqQ a k)) (reqQ a k).ra (reqQ a k).rc))
  have hqf : (reqQ a k).f = ff := by
    rw [← unhide HFF]
    exact parseL_f _ _ _ (parse_req a k (by omega) (unhide HHK))
  rw [hl17, hqf] at ho17
  obtain ⟨g17, cc17, hv17, _, _⟩ := Owns.shape ho17 (by simp)
  rw [hv17] at ho17
  have h17c := Owns.cells ho17 0 (by simp)
  have hqown : Owns w17 w.heap.size (.slice (some ⟨gq, 0, none⟩) (m + 1) cq) (ff :: reqB a k) := ownsRow_keep (unhide HC16).own (fun b _ h2 e => hc17.block b h2 (fun e2 => by
    obtain ⟨cs, fr, q5⟩ := own_cells (unhide HC16).own e
    rcases e2 with e2 | e2
    · exact rows_ne q5 (unhide HC16).bk.st.row (by decide) e2
    · exact rows_ne q5 ((unhide HC16).bk.tab _ hsp.1).2.1.ent (by decide) e2))
  have h17q : w17.cell? ⟨gq, 0, none⟩ = some (.int .u8 ff) := by
    have hh := hqown
    rw [← unhide HLN] at hh
    exact Owns.cells hh 0 (by simp)
  have h17r : w17.cell? ⟨g17, 0, none⟩ = some (.int .u8 ff) := h17c
  obtain ⟨p17, hp17⟩ : ∃ p, (ff :: l17).length = p + 2 := by
    cases l17 with
    | nil => exact absurd rfl hl0
    | cons y l => exact ⟨l.length, by simp⟩
  rw [hp17] at hv17
  injection hv17 with e1 e2 e3
  subst e1 e2 e3
  have hglo := (unhide HC16).bk.glo (reqQ a k).t
  have hslo := (unhide HC16).bk.st.lo
  have HBE := hide (below_chg (unhide HC16).bel hc17 (fun k e => by rcases e with e | e <;> omega))
  clear ho17 hB17 hc17 hl17 hqf h17c hqown HA4 HC16 hcq hsp hglo hslo hp17 hl0
  have hpp : (1 : Int) < (p17 : Int) + 2 := by omega
  have hmm : (0 : Int) < (m : Int) + 1 := by omega
  go_wp2
  go_quiet (fail)
  go_wp2
  go_ret
  exact ⟨rfl, below_drawn (unhide HBE) _⟩
end Go.Proofs.YtfekelmldebplaaGreatDoor
