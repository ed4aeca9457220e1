import Derived.Test.YtfekelmldebplaaGreatDoorKa
namespace Go.Proofs.YtfekelmldebplaaGreatDoor
open Go.RowKit

set_option maxRecDepth 10000 in
set_option maxHeartbeats 2000000 in
theorem reqAnswer_echo (f t ra rc wa wc : Int) (vv : Value) (k : Int) (b o c : Nat) (es : List Int) (w : World) (v : Value) (h : Lies w (.slice (some ⟨b, o, none⟩) es.length c) es) (hp : es ≠ []) (hl : es.length ≤ 1000) :
    Calls Tryz.prog 193 #[.agg #[.int .u8 f, .int .i64 t, .int .i64 ra, .int .i64 rc, .int .i64 wa, .int .i64 wc, vv, .int .i64 k, .slice (some ⟨b, o, none⟩) es.length c], v] w fun e w' => ∃ v', e = .returned v' ∧ Owns w' w.heap.size v' (f :: es) ∧ Below w.heap.size w w' := by
  obtain ⟨i0, hi, hz0, hz1, hz2⟩ := info_parts info5
  have hp0 : 0 < es.length := List.length_pos_iff.2 hp
  obtain ⟨b2, o2, c2, e2, hlc, hbb, hcc⟩ := h.shape hp
  cases e2
  obtain ⟨A, hA⟩ : ∃ A : Obj, A = .cells #[.int .u8 f, .int .i64 t, .int .i64 ra, .int .i64 rc, .int .i64 wa, .int .i64 wc, vv, .int .i64 k, .slice (some ⟨b, o, none⟩) es.length c] 273 := ⟨_, rfl⟩
  have HB0 : Hid (Below w.heap.size w ((w.alloc A).alloc (.cells #[.int .u8 f] 5))) := ((Below.refl _ _).alloc (Nat.le_refl _) _).alloc (by simp) _
  have HO0 : Hid (((w.alloc A).alloc (.cells #[.int .u8 f] 5)).ownsRow w.heap.size 5 1 (.slice (some ⟨w.heap.size + 1, 0, none⟩) 1 1) 1 [.int .u8 f]) := by
    have hn := heap_alloc_new (w.alloc A) (.cells #[.int .u8 f] 5)
    simp only [World.size_alloc] at hn
    exact ⟨rfl, .inr ⟨w.heap.size + 1, 1, #[.int .u8 f], rfl, by omega, hn, Nat.le_refl _, by unfold maxLen; omega, rfl, rfl⟩⟩
  have r0 : ((w.alloc A).alloc (.cells #[.int .u8 f] 5)).heap[w.heap.size]? = some A := by
    rw [Below.heap_alloc _ _ _ (by simp)]
    exact heap_alloc_new w _
  have HNw : Hid (∀ j u, (es.map (Value.int .u8))[j]? = some u → ((w.alloc A).alloc (.cells #[.int .u8 f] 5)).cell? ((⟨b, o, none⟩ : Addr).add j) = some u) := news_lies fun i hi => ((unhide HB0).cell (by exact hbb)).trans (hcc i hi)
  have HOne := hide (one_bytes es)
  subst hA
  have c8 := cell_of_row _ _ 8 _ _ _ r0
  simp at c8
  have hp1 : (0 : Int) < (es.length : Int) := by omega
  clear r0 h hcc hp
  go_enter Tryz.func193, Tryz.ntmps193
  go_wp2_with (at_builtin; go_loud (refine append_keep _ rfl (.tmp 13) (.tmp 15) 37 rfl w.heap.size 5 i0 (.int .u8 0) 1 1 Tryz.underlying37 hi hz0 hz1 hz2 rfl (by decide) _ 1 [.int .u8 f] rfl (unhide HO0) ⟨b, o, none⟩ es.length c (es.map (Value.int .u8)) rfl (by simp) (unhide HNw) (unhide HOne) hp0 (by unfold maxLen; omega) (by omega) (by simp; omega) ?_))
  intro v3 w3 r3 k3
  obtain ⟨a3, n3', c3, rfl⟩ := own_shape r3
  have hb3 : Below w.heap.size w w3 := below_kept (unhide HB0) (fun j e => (World.ownsRow.lt (unhide HO0) j e).1) k3
  have HR3 := hide r3
  clear r3 k3 c8
  go_wp2
  go_ret
  refine ⟨_, rfl, ?_, hb3⟩
  unfold Owns
  have := unhide HR3
  rw [show (f :: es).length = 1 + es.length by simp; omega]
  exact this

set_option maxRecDepth 10000 in
set_option maxHeartbeats 2000000 in
theorem reqAnswer_read (f t ra rc wa wc : Int) (vv : Value) (k : Int) (ae : Option Addr) (ce : Nat) (b o c : Nat) (bs : List Int) (w : World) (h : Lies w (.slice (some ⟨b, o, none⟩) bs.length c) bs) (hp : bs ≠ []) (hl : bs.length ≤ 255) :
    Calls Tryz.prog 193 #[.agg #[.int .u8 f, .int .i64 t, .int .i64 ra, .int .i64 rc, .int .i64 wa, .int .i64 wc, vv, .int .i64 k, .slice ae 0 ce], .slice (some ⟨b, o, none⟩) bs.length c] w fun e w' => ∃ v', e = .returned v' ∧ Owns w' w.heap.size v' (f :: (bs.length : Int) :: bs) ∧ Below w.heap.size w w' := by
  obtain ⟨i0, hi, hz0, hz1, hz2⟩ := info_parts info5
  have hp0 : 0 < bs.length := List.length_pos_iff.2 hp
  obtain ⟨b2, o2, c2, e2, hlc, hbb, hcc⟩ := h.shape hp
  cases e2
  obtain ⟨A, hA⟩ : ∃ A : Obj, A = .cells #[.int .u8 f, .int .i64 t, .int .i64 ra, .int .i64 rc, .int .i64 wa, .int .i64 wc, vv, .int .i64 k, .slice ae 0 ce] 273 := ⟨_, rfl⟩
  have HB0 : Hid (Below w.heap.size w ((w.alloc A).alloc (.cells #[.int .u8 f] 5))) := ((Below.refl _ _).alloc (Nat.le_refl _) _).alloc (by simp) _
  have HO0 : Hid (((w.alloc A).alloc (.cells #[.int .u8 f] 5)).ownsRow w.heap.size 5 1 (.slice (some ⟨w.heap.size + 1, 0, none⟩) 1 1) 1 [.int .u8 f]) := by
    have hn := heap_alloc_new (w.alloc A) (.cells #[.int .u8 f] 5)
    simp only [World.size_alloc] at hn
    exact ⟨rfl, .inr ⟨w.heap.size + 1, 1, #[.int .u8 f], rfl, by omega, hn, Nat.le_refl _, by unfold maxLen; omega, rfl, rfl⟩⟩
  have r0 : ((w.alloc A).alloc (.cells #[.int .u8 f] 5)).heap[w.heap.size]? = some A := by
    rw [Below.heap_alloc _ _ _ (by simp)]
    exact heap_alloc_new w _
  have HZ0 : Hid (((w.alloc A).alloc (.cells #[.int .u8 f] 5)).heap.size = w.heap.size + 1 + 1) := by show _ = _; simp
  have HCC := hide hcc
  subst hA
  have c8 := cell_of_row _ _ 8 _ _ _ r0
  simp at c8
  have hl' : (bs.length : Int) < 256 := by omega
  clear r0 h hcc hp
  go_enter Tryz.func193, Tryz.ntmps193
  go_wp2_with (at_builtin; go_loud (refine append_keep _ rfl (.tmp 17) (.tmp 21) 37 rfl w.heap.size 5 i0 (.int .u8 0) 1 1 Tryz.underlying37 hi hz0 hz1 hz2 rfl (by decide) _ 1 [.int .u8 f] rfl (World.ownsRow.alloc (unhide HO0) _) ⟨w.heap.size + 1 + 1, 0, none⟩ 1 1 [.int .u8 (bs.length : Int)] rfl rfl (by have q := cellsL ((w.alloc (.cells #[.int .u8 f, .int .i64 t, .int .i64 ra, .int .i64 rc, .int .i64 wa, .int .i64 wc, vv, .int .i64 k, .slice ae 0 ce] 273)).alloc (.cells #[.int .u8 f] 5)) #[.int .u8 (bs.length : Int)] 5; rw [unhide HZ0] at q; exact q) (by simp [Value.oneCell']) (by decide) (by unfold maxLen; omega) (by omega) (by simp; omega) ?_))
  intro v2 w2 r2 k2
  obtain ⟨a2, n2', c2, rfl⟩ := own_shape r2
  have hb2 : Below w.heap.size w w2 := below_kept (bl_trans (unhide HB0) ((Below.refl _ _).alloc (Nat.le_refl _) _)) (fun j e => (World.ownsRow.lt (unhide HO0) j e).1) k2
  have HR2 := hide r2
  have hz2' := hb2.size
  have HNw : Hid (∀ j u, (bs.map (Value.int .u8))[j]? = some u → w2.cell? ((⟨b, o, none⟩ : Addr).add j) = some u) := news_lies fun i hi => (hb2.cell (by exact hbb)).trans (unhide HCC i hi)
  have HOne := hide (one_bytes bs)
  clear r2 k2 c8
  go_wp2_with (at_builtin; go_loud (refine append_keep _ rfl (.tmp 23) (.tmp 24) 37 rfl w.heap.size 5 i0 (.int .u8 0) 1 1 Tryz.underlying37 hi hz0 hz1 hz2 rfl (by decide) _ 2 _ rfl (unhide HR2) ⟨b, o, none⟩ bs.length c (bs.map (Value.int .u8)) rfl (by simp) (unhide HNw) (unhide HOne) hp0 (by unfold maxLen; omega) (by omega) (by omega) ?_))
  intro v3 w3 r3 k3
  obtain ⟨a3, n3', c3, rfl⟩ := own_shape r3
  have hb3 : Below w.heap.size w w3 := below_kept hb2 (fun j e => (World.ownsRow.lt (unhide HR2) j e).1) k3
  have HR3 := hide r3
  clear r3 k3
  go_wp2
  go_ret
  refine ⟨_, rfl, ?_, hb3⟩
  unfold Owns
  have := unhide HR3
  rw [show (f :: (bs.length : Int) :: bs).length = 2 + bs.length by simp; omega]
  exact this
end Go.Proofs.YtfekelmldebplaaGreatDoor
