import Derived.Test.YtfekelmldebplaaGreatDoorSt
import Derived.Lib.ConvBytes
namespace Go.Proofs.YtfekelmldebplaaGreatDoor
open Go.RowKit

theorem LentV.kept {w w' : World} {B : Nat} {v : Value} {s : ByteArray} (h : LentV w B v s) (hb : Below w.heap.size w w') : LentV w' B v s := by
  rcases h with h | ⟨g, c, e, h⟩
  · exact .inl h
  · exact .inr ⟨g, c, e, ⟨ownsRow_keep h.own fun k _ p _ => hb.block k p⟩⟩

theorem LentV.blk {w : World} {B : Nat} {v : Value} {s : ByteArray} (h : LentV w B v s) : ∀ k, v.ownBlock = some k → B ≤ k ∧ k < w.heap.size := by
  rcases h with ⟨rfl, _⟩ | ⟨g, c, rfl, h⟩
  · intro k e
    simp [Value.ownBlock] at e
  · intro k e
    exact World.ownsRow.lt h.own k e
theorem own_through {w1 w2 w3 w4 w5 : World} {S B : Nat} {v v2 : Value} {s : ByteArray} {bs : List Int} (hL : LentV w1 S v s) (h2 : Below w1.heap.size w1 w2) (ho : Owns w2 w1.heap.size v2 bs) (g3 : w2.grownBy w3 v.ownBlock) (hb4 : Below w3.heap.size w3 w4) (hb5 : Below w4.heap.size w4 w5) (hB : B ≤ w1.heap.size) : Owns w5 B v2 bs := by
  have z2 := h2.size
  have z3 := g3.size
  have z4 := hb4.size
  refine own_weak (ownsRow_keep ho fun k h1 p q => ?_) hB
  rw [hb5.block k (by omega), hb4.block k (by omega), g3.block k p (fun e => by have := hL.blk k e.symm; omega)]
theorem below_through {w w1 w2 w3 w4 w5 : World} {o : Obj} {v : Value} {s : ByteArray} (hb1 : Below (w.alloc o).heap.size (w.alloc o) w1) (hL : LentV w1 (w.alloc o).heap.size v s) (h2 : Below w1.heap.size w1 w2) (g3 : w2.grownBy w3 v.ownBlock) (hb4 : Below w3.heap.size w3 w4) (hb5 : Below w4.heap.size w4 w5) : Below w.heap.size w w5 := by
  have z0 : (w.alloc o).heap.size = w.heap.size + 1 := by simp
  have z1 := hb1.size
  have z2 := h2.size
  have z3 := g3.size
  have z4 := hb4.size
  have a1 : Below w.heap.size w w1 := ((Below.refl _ _).alloc (Nat.le_refl _) o).trans (hb1.mono (by omega))
  have a2 := a1.trans (h2.mono (by omega))
  have a3 : Below w.heap.size w w3 := a2.grown g3 (by omega) (fun k e => by have := hL.blk k e; omega)
  exact (a3.trans (hb4.mono (by omega))).trans (hb5.mono (by omega))
theorem frameBytes_len (mark unit : Int) (xs : List Int) : (if frameOk mark unit xs.length = true then frameL mark unit xs else []).length ≤ 1000000000 := by
  split
  · rename_i h
    have := frameOk_iff.1 h
    rw [frameL_len]
    omega
  · simp
theorem frame_done {w w5 w' : World} {B bw : Nat} {xs : List SP} {vs vt vb vf v2 : Value} {rb rf : List Rec} {bs : List Int} (h : Inv w B bw xs vs vt vb vf rb rf) (hb : Below w.heap.size w w5) (ho : Owns w5 B v2 bs) (hv2 : ∀ k, v2.ownBlock = some k → w.heap.size ≤ k) (hy : Byted w5 B bw vs vt (.slice none 0 0) vb vf rb rf v2 w') :
    ∃ vb' rb', Inv w' B bw xs vs vt vb' vf rb' rf ∧ rb'.length = rb.length + 1 ∧ Chg w w' (fun i => i = bw ∨ vb.ownBlock = some i) := by
  obtain ⟨vb', rb', h1, h2⟩ := (h.below hb).byted ho (fun x m i e e' => by
    have := (World.ownsRow.lt (h.ok x m).own i e').2
    have := hv2 i e
    omega) hy
  refine ⟨vb', rb', h1, h2, (Chg.of_below hb _).trans hy.chg ?_⟩
  rintro i (e | e | e) hi
  · exact .inl e
  · exact .inr e
  · have := hv2 i e
    omega
theorem bytes_below (w : World) (s : ByteArray) : Below w.heap.size w (Lib.bytesWorld w 5 s) :=
  ⟨rfl, rfl, rfl, by rw [Lib.bytesWorld_size]; omega, fun k hk => Lib.bytesWorld_at_old w 5 s k hk⟩
theorem sb_getD (s : ByteArray) (i : Nat) (h : i < s.size) : (sb s).getD i 0 = ((s.data.toList.getD i 0).toNat : Int) := by
  have h' : i < s.data.toList.length := by simpa using h
  simp only [sb, List.getD, List.getElem?_map, List.getElem?_eq_getElem h', Option.map_some, Option.getD_some]
theorem bytes_lies (w : World) (s : ByteArray) : Lies (Lib.bytesWorld w 5 s) (.slice (some ⟨w.heap.size, 0, none⟩) s.size (grownCap w s.size 0 5)) (sb s) := by
  refine .inr ⟨w.heap.size, 0, _, by rw [sb_len], by rw [sb_len]; exact grownCap_ge _ _ _ _, .inr (by rw [Lib.bytesWorld_size]; omega), fun i hi => ?_⟩
  rw [sb_len] at hi
  rw [Nat.zero_add, Lib.bytesWorld_cell w 5 s i hi, sb_getD s i hi]
theorem conv_bytes (w : World) (s : ByteArray) : ∃ w' c, (convert 9 37 (.string s)).run Tryz.prog w = .ok (.slice (some ⟨w.heap.size, 0, none⟩) s.size c) w' ∧ Below w.heap.size w w' ∧ Lies w' (.slice (some ⟨w.heap.size, 0, none⟩) s.size c) (sb s) :=
  ⟨_, _, Lib.run_convert_string_bytes (P := Tryz.prog) w 9 37 5 s Tryz.underlying9 Tryz.underlying37 Tryz.underlying5, bytes_below w s, bytes_lies w s⟩

set_option maxRecDepth 100000 in
set_option maxHeartbeats 4000000 in
theorem step_frame (o : OpV) (B bw : Nat) (xs : List SP) (vs vt vb vf : Value) (rb rf : List Rec) (w : World) (h : Inv w B bw xs vs vt vb vf rb rf) (hs : o.s.size ≤ 1000000000) (hB : B ≤ w.heap.size) (hrb : rb.length ≤ 1000000000)
    (hC : -9223372036854775808 ≤ o.C ∧ o.C ≤ 9223372036854775807) :
    Calls Tryz.prog 39 #[.pointer (some ⟨bw, 0, none⟩), .agg (o.cells 1)] w fun e w' => e = .returned (.bool true) ∧ ∃ vb' rb', Inv w' B bw xs vs vt vb' vf rb' rf ∧ rb'.length = rb.length + 1 ∧ Chg w w' (fun i => i = bw ∨ vb.ownBlock = some i) := by
  obtain ⟨A, Bq, C, D, s, l, n0, n1, n2, n3, n4, ru, li⟩ := o
  unfold OpV.cells
  have H := hide h
  have hbw : bw < w.heap.size := (Array.getElem?_eq_some_iff.1 h.book.row).1
  simp only at hs hC
  clear h
  go_enter Tryz.func39, Tryz.ntmps39
  go_wp2_with fail
  refine (lent_all s _ _ hs).mono ?_
  rintro e w1 ⟨v, rfl, hL, hb1⟩
  obtain ⟨av, cv, ev⟩ := lies_slice hL.lies
  rw [sb_len] at ev
  subst ev
  have HL := hide hL
  have HB1 := hide hb1
  have ro := (hb1.block w.heap.size (by simp)).trans (heap_alloc_new w _)
  have c1 := cell_of_row _ _ 1 _ _ _ ro
  have c2 := cell_of_row _ _ 2 _ _ _ ro
  have c5 := cell_of_row _ _ 5 _ _ _ ro
  simp at c1 c2 c5
  have RO := hide ro
  have hl1 : w.heap.size < w1.heap.size := by have := hb1.size; simp at this; omega
  clear hL hb1 ro
  go_wp2_with fail
  refine (frame_all A Bq _ (sb s) w1 (unhide HL).lies (by rw [sb_len]; exact hs)).mono ?_
  rintro e w2 ⟨v2, k2, rfl, hb2, hk2, ho2, hn2⟩
  obtain ⟨a2, m2, q2, rfl⟩ := own_shape ho2
  have HB2 := hide hb2
  have RO2 := hide ((hb2.block w.heap.size hl1).trans (unhide RO))
  have c1 := cell_of_row _ _ 1 _ _ _ (unhide RO2)
  have c2 := cell_of_row _ _ 2 _ _ _ (unhide RO2)
  have c5 := cell_of_row _ _ 5 _ _ _ (unhide RO2)
  simp at c1 c2 c5
  have HK2 := hide hk2
  have HO2 := hide ho2
  have HN2 := hide hn2
  clear hb2 hk2 ho2 hn2
  go_wp2_with fail
  refine (back_all s _ _ w2 hs ((unhide HL).kept (unhide HB2))).mono ?_
  rintro e w3 ⟨rfl, hg3⟩
  have HG3 := hide hg3
  have RO3 : Hid (w3.heap[w.heap.size]? = some (.cells #[.int .i64 1, .int .i64 A, .int .i64 Bq, .int .i64 C, .int .i64 D, .string s, l, n0, n1, n2, n3, n4, ru, li] 95 (0, 0))) := by
    refine (hg3.block w.heap.size (by have := (unhide HB2).size; omega) (fun e => ?_)).trans (unhide RO2)
    have := (unhide HL).blk _ e.symm
    simp at this
    omega
  have c1 := cell_of_row _ _ 1 _ _ _ (unhide RO3)
  have c2 := cell_of_row _ _ 2 _ _ _ (unhide RO3)
  have c5 := cell_of_row _ _ 5 _ _ _ (unhide RO3)
  simp at c1 c2 c5
  clear hg3
  obtain ⟨w4, cc, hcv, hb4, hl4⟩ := conv_bytes w3 s
  have HB4 := hide hb4
  have HL4 := hide hl4
  clear hb4 hl4
  go_wp2_with fail
  refine (rframe_all A Bq _ (sb s) w4 (unhide HL4) (by rw [sb_len]; exact hs)).mono ?_
  rintro e w5 ⟨v5, k5, rfl, hb5, hk5, ho5, hn5⟩
  obtain ⟨a5, m5, q5, rfl⟩ := own_shape ho5
  have O2 : Hid (Owns w5 B (.slice a2 m2 q2) (if frameOk A Bq (sb s).length = true then frameL A Bq (sb s) else [])) := own_through (unhide HL) (unhide HB2) (unhide HO2) (unhide HG3) (unhide HB4) hb5 (by omega)
  have HW5 := hide (below_through (unhide HB1) (unhide HL) (unhide HB2) (unhide HG3) (unhide HB4) hb5)
  have h1 := conv_lies (unhide O2).lies
  have h2 := conv_lies (Owns.lies ho5)
  have HB5 := hide hb5
  have HK5 := hide hk5
  generalize strOfNums (if frameOk A Bq (sb s).length = true then frameL A Bq (sb s) else []) = str at h1 h2
  have hz5 := (unhide HW5).size
  have HV2 : Hid (∀ k, (Value.slice a2 m2 q2).ownBlock = some k → w.heap.size ≤ k) := fun k e => by have := World.ownsRow.lt (unhide HO2) k e; omega
  clear hb5 hk5 ho5 hn5 hcv
  go_wp2_with fail
  refine (byte_any B bw vs vt (.slice none 0 0) vb vf _ rb rf _ w5 ((unhide H).below (unhide HW5)).book (unhide O2) (fun r m k e e' => by have := unhide HV2 k e'; have := ((unhide H).book.sep r m k e).2.1; omega) (frameBytes_len _ _ _) hrb (by omega)).mono ?_
  rintro e w6 ⟨rfl, hy⟩
  have HE := hide (frame_done (unhide H) (unhide HW5) (unhide O2) (unhide HV2) hy)
  clear hy
  have q29 : ∀ (w : World) (a : Option Addr) (n c n' c' : Nat), (binOp .eql 37 (.slice a n c) (.slice none n' c')).run Tryz.prog w = .ok (.bool a.isNone) w := fun w a n c n' c' => Lib.run_eql_slice_nil w _ _ a n c n' c' Tryz.underlying37
  by_cases hk : frameOk A Bq (sb s).length = true
  · have k0 : k2 = 0 := by rw [unhide HK2, if_pos hk]
    have k0' : k5 = 0 := by rw [unhide HK5, if_pos hk]
    subst k0 k0'
    clear hk
    go_wp2
    go_ret
    exact ⟨rfl, unhide HE⟩
  · have k0 : k2 = 1 := by rw [unhide HK2, if_neg hk]
    have k0' : k5 = 1 := by rw [unhide HK5, if_neg hk]
    have e0 := unhide HN2 (by simpa using hk)
    simp only [Value.slice.injEq] at e0
    obtain ⟨rfl, rfl, rfl⟩ := e0
    subst k0 k0'
    clear hk
    go_wp2
    go_ret
    exact ⟨rfl, unhide HE⟩
end Go.Proofs.YtfekelmldebplaaGreatDoor
