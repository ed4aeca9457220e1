import Derived.Test.YtfekelmldebplaaGreatDoorUl
import Derived.Test.YtfekelmldebplaaGreatDoorVa
import Derived.Test.YtfekelmldebplaaGreatDoorTf
namespace Go.Proofs.YtfekelmldebplaaGreatDoor
open Go.RowKit

set_option maxRecDepth 10000 in
set_option maxHeartbeats 1000000 in
theorem packBits_any (w : World) (e g : Nat) (T : TypeId) (hi : Int) (L : List Int) (a c : Nat) (h : TabAt w e g T hi L) (hac : a + c ≤ L.length) (hL : ∀ x ∈ L, x = 0 ∨ x = 1) :
    Calls Tryz.prog 262 #[.pointer (some ⟨e, 0, none⟩), .int .i64 a, .int .i64 c] w fun r w' => ∃ v, r = .returned v ∧ Owns w' w.heap.size v (packL (spanL L a c)) ∧ Below w.heap.size w w' := by
  have HG := hide (getE_any w e g T hi L a c h hac)
  have hlen := h.len
  have HP : Hid (∀ w1 k, w1.heap[k]? = some (.cells (((L.drop a).take c).map (Value.int .i64)).toArray 3 (0, 0)) → Calls Tryz.prog 264 #[.slice (some ⟨k, 0, none⟩) c c] w1 fun r w' => ∃ v', r = .returned v' ∧ Owns w' w1.heap.size v' (packL (spanL L a c)) ∧ Below w1.heap.size w1 w') := fun w1 k hk => by
    have hl : ((L.drop a).take c).length = c := by simp; omega
    have q := rowI_lies hk 0 c c (by omega)
    rw [List.drop_zero, List.take_of_length_le (by omega)] at q
    exact bitsPack_any _ _ w1 q (fun x hx => hL x (List.mem_of_mem_drop (List.mem_of_mem_take hx))) (by unfold spanL; omega)
  clear h hL
  go_enter Tryz.func262, Tryz.ntmps262
  go_wp2_with fail
  refine (unhide HG).mono ?_
  rintro r w1 ⟨k, rfl, hk, hr, hb⟩
  have HP1 := hide (unhide HP w1 k hr)
  clear HP HG hr
  go_wp2_with fail
  refine (unhide HP1).mono ?_
  rintro r w2 ⟨v', rfl, ho, hb2⟩
  have HO := hide ho
  have hz := hb.size
  obtain ⟨a', n', c', rfl⟩ := own_shape ho
  clear ho HP1
  go_wp2
  go_ret
  exact ⟨_, rfl, (unhide HO).weak hz, bl_trans hb hb2⟩

set_option maxRecDepth 10000 in
set_option maxHeartbeats 1000000 in
theorem packWords_any (w : World) (e g : Nat) (T : TypeId) (hi : Int) (L : List Int) (a c : Nat) (h : TabAt w e g T hi L) (hac : a + c ≤ L.length) (hL : ∀ x ∈ L, 0 ≤ x ∧ x ≤ 65535) :
    Calls Tryz.prog 265 #[.pointer (some ⟨e, 0, none⟩), .int .i64 a, .int .i64 c] w fun r w' => ∃ v, r = .returned v ∧ Owns w' w.heap.size v (wordsL (spanL L a c)) ∧ Below w.heap.size w w' := by
  have HG := hide (getE_any w e g T hi L a c h hac)
  have hlen := h.len
  have HP : Hid (∀ w1 k, w1.heap[k]? = some (.cells (((L.drop a).take c).map (Value.int .i64)).toArray 3 (0, 0)) → Calls Tryz.prog 266 #[.slice (some ⟨k, 0, none⟩) c c] w1 fun r w' => ∃ v', r = .returned v' ∧ Owns w' w1.heap.size v' (wordsL (spanL L a c)) ∧ Below w1.heap.size w1 w') := fun w1 k hk => by
    have hl : ((L.drop a).take c).length = c := by simp; omega
    have q := rowI_lies hk 0 c c (by omega)
    rw [List.drop_zero, List.take_of_length_le (by omega)] at q
    exact wordsPack_any _ _ w1 q (fun x hx => hL x (List.mem_of_mem_drop (List.mem_of_mem_take hx))) (by unfold spanL; omega)
  clear h hL
  go_enter Tryz.func265, Tryz.ntmps265
  go_wp2_with fail
  refine (unhide HG).mono ?_
  rintro r w1 ⟨k, rfl, hk, hr, hb⟩
  have HP1 := hide (unhide HP w1 k hr)
  clear HP HG hr
  go_wp2_with fail
  refine (unhide HP1).mono ?_
  rintro r w2 ⟨v', rfl, ho, hb2⟩
  have HO := hide ho
  have hz := hb.size
  obtain ⟨a', n', c', rfl⟩ := own_shape ho
  clear ho HP1
  go_wp2
  go_ret
  exact ⟨_, rfl, (unhide HO).weak hz, bl_trans hb hb2⟩

set_option maxRecDepth 10000 in
set_option maxHeartbeats 1000000 in
theorem written_any (q : Req) (av : Option Addr) (cv : Nat) (ve : Value) (go : Nat) (old : List Int) (w : World) (hv : LiesI w (.slice av q.vals.length cv) q.vals) (hr : w.heap[go]? = some (.cells (old.map (Value.int .i64)).toArray 3 (0, 0))) (hl : q.vals.length = old.length) (hn : old.length ≤ 2000) :
    Calls Tryz.prog 192 #[.agg (rrow q.f q.t q.ra q.rc q.wa q.wc (.slice av q.vals.length cv) q.keep ve), .slice (some ⟨go, 0, none⟩) old.length old.length] w fun e w' => ∃ g, e = .returned (.slice (some ⟨g, 0, none⟩) old.length old.length) ∧ w.heap.size ≤ g ∧ w'.heap[g]? = some (.cells ((writtenL old q.vals q.keep).map (Value.int .i64)).toArray 3 (0, 0)) ∧ Below w.heap.size w w' := by
  have hmk := makesL old.length (by omega)
  unfold rrow
  obtain ⟨A, hA⟩ : ∃ A : Obj, A = .cells #[.int .u8 q.f, .int .i64 q.t, .int .i64 q.ra, .int .i64 q.rc, .int .i64 q.wa, .int .i64 q.wc, .slice av q.vals.length cv, .int .i64 q.keep, ve] 273 := ⟨_, rfl⟩
  have HBA := hide (rule_new w A)
  have HRA : Hid ((w.alloc A).heap[w.heap.size]? = some A) := heap_alloc_new w A
  have HR0 : Hid (((w.alloc A).alloc (.cells ((List.replicate old.length (0 : Int)).map (Value.int .i64)).toArray 3)).heap[w.heap.size + 1]? = some (.cells (((List.range 0).map (fun i => maskI (q.keep : Int) (old.getD i 0) (q.vals.getD i 0)) ++ List.replicate (old.length - 0) 0).map (Value.int .i64)).toArray 3 (0, 0))) := by
    have := heap_alloc_new (w.alloc A) (.cells ((List.replicate old.length (0 : Int)).map (Value.int .i64)).toArray 3)
    simp only [World.size_alloc] at this
    exact this
  have HB0 : Hid (Below (w.alloc A).heap.size (w.alloc A) ((w.alloc A).alloc (.cells ((List.replicate old.length (0 : Int)).map (Value.int .i64)).toArray 3))) := rule_new _ _
  generalize (List.replicate old.length (0 : Int)).map (Value.int .i64) = Z at hmk HR0 HB0
  have HV := hide hv
  have HRo := hide hr
  have hgo := (Array.getElem?_eq_some_iff.1 hr).1
  have HLN := hide hl
  clear hv hr hl
  subst hA
  go_enter Tryz.func192, Tryz.ntmps192
  go_wp2
  go_loopw [12] (fun i wr => ∃ k : Nat, k ≤ old.length ∧ i = .int .i64 k ∧ Hid (wr.heap[w.heap.size + 1]? = some (.cells (((List.range k).map (fun i => maskI (q.keep : Int) (old.getD i 0) (q.vals.getD i 0)) ++ List.replicate (old.length - k) 0).map (Value.int .i64)).toArray 3 (0, 0))) ∧ Hid (Below (w.heap.size + 1) (w.alloc (.cells #[.int .u8 q.f, .int .i64 q.t, .int .i64 q.ra, .int .i64 q.rc, .int .i64 q.wa, .int .i64 q.wc, .slice av q.vals.length cv, .int .i64 q.keep, ve] 273)) wr)) (fun i _ => old.length - (intOf i).toNat)
  case atStart => exact ⟨0, by omega, rfl, HR0, by have := unhide HB0; simp only [World.size_alloc] at this; exact this⟩
  case round =>
    obtain ⟨k, hk, rfl, HR, HB⟩ := hrel
    by_cases hlt : k < old.length
    · have hvne : q.vals ≠ [] := fun e => by have hl := unhide HLN; rw [e] at hl; simp at hl; omega
      obtain ⟨av', cv', e1, hx⟩ := unhide HV
      cases e1
      obtain ⟨b, o, rfl, hbl, hcc⟩ := hx.resolve_left hvne
      have hb1 : Below w.heap.size w wr := (unhide HBA).trans ((unhide HB).mono (by simp))
      have ck := (hb1.cell (by exact hbl)).trans (hcc k (by have hl := unhide HLN; omega))
      have co := (hb1.cell (by exact hgo)).trans (rowI_cell (unhide HRo) k hlt)
      have rA := ((unhide HB).block w.heap.size (by omega)).trans (unhide HRA)
      have a6 := cell_of_row _ _ 6 _ _ _ rA
      have a7 := cell_of_row _ _ 7 _ _ _ rA
      simp at a6 a7
      have HE : Hid ((fun i => maskI (q.keep : Int) (old.getD i 0) (q.vals.getD i 0)) k = bits BinOp.or IntKind.i64 (bits BinOp.and IntKind.i64 (old.getD k 0) (q.keep : Int)) (bits BinOp.andNot IntKind.i64 (q.vals.getD k 0) (q.keep : Int))) := rfl
      generalize old.getD k 0 = x0 at co HE
      generalize q.vals.getD k 0 = x1 at ck HE
      have qz : ∃ z, wr.cell? ⟨w.heap.size + 1, k, none⟩ = some (.int .i64 z) := ⟨_, rowI_cell (unhide HR) k (by simp; omega)⟩
      obtain ⟨z, qz⟩ := qz
      have f := frozen_of_row _ _ k _ _ (unhide HR)
      have hk4 : (k : Int) < (old.length : Int) := by omega
      have hk5 : (k : Int) < (q.vals.length : Int) := by have hl := unhide HLN; omega
      have HS := hide (row_setI (q := k) (x := (fun i => maskI (q.keep : Int) (old.getD i 0) (q.vals.getD i 0)) k) (unhide HR))
      rw [fillL_next (fun i => maskI (q.keep : Int) (old.getD i 0) (q.vals.getD i 0)) old.length k hlt, unhide HE] at HS
      have HS2 : Hid (Below (w.heap.size + 1) (w.alloc (.cells #[.int .u8 q.f, .int .i64 q.t, .int .i64 q.ra, .int .i64 q.rc, .int .i64 q.wa, .int .i64 q.wc, .slice (some ⟨b, o, none⟩) q.vals.length cv, .int .i64 q.keep, ve] 273)) (wr.setCell ⟨w.heap.size + 1, k, none⟩ (.int .i64 (bits BinOp.or IntKind.i64 (bits BinOp.and IntKind.i64 x0 (q.keep : Int)) (bits BinOp.andNot IntKind.i64 x1 (q.keep : Int)))))) :=
        ⟨(unhide HB).os, (unhide HB).tape, (unhide HB).output, by have := (unhide HB).size; simpa [World.setCell] using this, fun j p => (heap_setCell_other _ _ _ _ (fun e => by have : j = w.heap.size + 1 := e; omega)).trans ((unhide HB).block j p)⟩
      clear hcc rA hx HE
      go_wp2
      go_region
      go_wp2
      go_roundw
      case rel => exact ⟨k + 1, by omega, by go_num, unhide HS, (unhide HS2).drew⟩
      case measure => simp [intOf]; omega
    · obtain rfl : k = old.length := by omega
      have HF : Hid (Below w.heap.size w wr) := (unhide HBA).trans ((unhide HB).mono (by simp))
      go_wp2
      go_ret
      refine ⟨_, rfl, by omega, ?_, unhide HF⟩
      have := unhide HR
      rw [fillL_all] at this
      exact this
end Go.Proofs.YtfekelmldebplaaGreatDoor
