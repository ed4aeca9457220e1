import Derived.Test.YtfekelmldebplaaGreatDoorUi
namespace Go.Proofs.YtfekelmldebplaaGreatDoor
open Go.RowKit

theorem info186 : (Tryz.prog.info? 273).map (·.size) = some 9 := by kernel_rfl
theorem results_row_tmp {fn : Func} {p u : Tmp} {ty : TypeId} (h : fn.results = #[.cell p ty, .tmp u]) (tmps : Array Value) (w : World) (g : Nat) (cs : Array Value)
    (hp : tmps.getD p undef = .pointer (some ⟨g, 0, none⟩)) (hl : (loadVar ty ⟨g, 0, none⟩).run Tryz.prog w = .ok (.agg cs) w) :
    (results fn tmps).run Tryz.prog w = .ok (.tuple #[.agg cs, tmps.getD u undef]) w := by
  have hp' : tmps[p]?.getD undef = .pointer (some ⟨g, 0, none⟩) := by simpa using hp
  rw [results_cell_tmp h]
  simp [hp', asAddr, hl, Result.andThen]

theorem rrow_one (f t ra rc wa wc k : Int) (a a' : Option Addr) (n c n' c' : Nat) : (rrow f t ra rc wa wc (.slice a n c) k (.slice a' n' c')).all (·.oneCell') = true := by simp [rrow, Value.oneCell']
/-- What Parse gives. -/
def Parsed (w : World) (f : Int) (res : Int ⊕ Req) (e : Ending) (w' : World) : Prop :=
  Below w.heap.size w w' ∧ match res with
  | .inl x => ∃ n T p, e = .returned (.tuple #[.agg (rrow 0 0 0 0 0 0 (.slice none 0 0) 0 (.slice none 0 0)), .iface T (.pointer (some ⟨p, 0, none⟩))]) ∧ ErrAt w' f x n (.iface T (.pointer (some ⟨p, 0, none⟩)))
  | .inr q => ∃ vv ve, e = .returned (.tuple #[.agg (rrow q.f q.t q.ra q.rc q.wa q.wc vv q.keep ve), .nilIface]) ∧ LiesI w' vv q.vals ∧ Lies w' ve q.echo
theorem below_of_new {w w1 w2 : World} {rp : Nat} (hb : Below w.heap.size w w1) (hr : w.heap.size ≤ rp) (hc : Chg w1 w2 (fun k => k = rp)) : Below w.heap.size w w2 :=
  ⟨hc.os.trans hb.os, hc.tape.trans hb.tape, hc.output.trans hb.output, Nat.le_trans hb.size hc.size, fun k p => (hc.block k (Nat.lt_of_lt_of_le p hb.size) (fun e => by have e' : k = rp := e; omega)).trans (hb.block k p)⟩

set_option maxRecDepth 10000 in
set_option maxHeartbeats 1000000 in
theorem parseP_any (f : Int) (v : Value) (bs : List Int) (w : World) (h : Lies w v bs) (hw : ∀ b, v.ownBlock = some b → b < w.heap.size)
    (HP : ∀ rp W, QNew W rp f → Lies W v bs → (∀ b, v.ownBlock = some b → b ≠ rp) → Calls Tryz.prog 188 #[.pointer (some ⟨rp, 0, none⟩), v] W fun e w' => PPost W rp f v (parseL f bs) e w') :
    Calls Tryz.prog 156 #[.int .u8 f, v] w fun e w' => Parsed w f (parseL f bs) e w' := by
  have hb2 : Below w.heap.size w ((w.alloc (.cells (rrow 0 0 0 0 0 0 (.slice none 0 0) 0 (.slice none 0 0)) 273)).alloc (.cells (rrow f 0 0 0 0 0 (.slice none 0 0) 0 (.slice none 0 0)) 273)) := bl_trans (rule_new w _) (rule_new _ _)
  have hr2 : QNew ((w.alloc (.cells (rrow 0 0 0 0 0 0 (.slice none 0 0) 0 (.slice none 0 0)) 273)).alloc (.cells (rrow f 0 0 0 0 0 (.slice none 0 0) 0 (.slice none 0 0)) 273)) (w.heap.size + 1) f := by
    refine ⟨?_⟩
    have := heap_alloc_new (w.alloc (.cells (rrow 0 0 0 0 0 0 (.slice none 0 0) 0 (.slice none 0 0)) 273)) (.cells (rrow f 0 0 0 0 0 (.slice none 0 0) 0 (.slice none 0 0)) 273)
    simp only [World.size_alloc] at this
    exact this
  have r0 : ((w.alloc (.cells (rrow 0 0 0 0 0 0 (.slice none 0 0) 0 (.slice none 0 0)) 273)).alloc (.cells (rrow f 0 0 0 0 0 (.slice none 0 0) 0 (.slice none 0 0)) 273)).heap[w.heap.size]? = some (.cells (rrow 0 0 0 0 0 0 (.slice none 0 0) 0 (.slice none 0 0)) 273 (0, 0)) := ((rule_new (w.alloc (.cells (rrow 0 0 0 0 0 0 (.slice none 0 0) 0 (.slice none 0 0)) 273)) (.cells (rrow f 0 0 0 0 0 (.slice none 0 0) 0 (.slice none 0 0)) 273)).block w.heap.size (by simp)).trans (heap_alloc_new w _)
  have HC := hide (HP (w.heap.size + 1) _ hr2 (h.below hb2) (fun b e => by have := hw b e; omega))
  obtain ⟨av, cv, rfl⟩ := h.slice
  have HB2 := hide hb2
  have HR0 := hide r0
  have HWW := hide hw
  clear hb2 hr2 r0 h hw HP
  unfold rrow at HC HB2 HR0
  go_enter Tryz.func156, Tryz.ntmps156
  go_wp2_with fail
  refine (unhide HC).mono ?_
  rintro e w2 ⟨hc, hm⟩
  have hbb := hide (below_of_new (unhide HB2) (Nat.le_succ _) hc)
  have r2 := (hc.block w.heap.size (Array.getElem?_eq_some_iff.1 (unhide HR0)).1 (fun e => by have e' : w.heap.size = w.heap.size + 1 := e; omega)).trans (unhide HR0)
  have HR2 := hide r2
  clear r2 hc HC HB2 HR0
  generalize w.heap.size + 1 = rp at hm ⊢
  cases hq : parseL f bs with
  | inl x =>
    rw [hq] at hm
    obtain ⟨n, T, p, rfl, he⟩ := hm
    have HE := hide he
    have HQ := hide hq
    clear he hq
    go_wp2_with (refine wpList_store_row rfl 273 _ _ rfl w.heap.size (rrow 0 0 0 0 0 0 (.slice none 0 0) 0 (.slice none 0 0)) rfl rfl 273 _ (unhide HR2) info186 rfl (rrow_one _ _ _ _ _ _ _ _ _ _ _ _ _) ?_)
    have r5 := setRow_heap w2 w.heap.size _ (rrow 0 0 0 0 0 0 (.slice none 0 0) 0 (.slice none 0 0)) _ _ (unhide HR2)
    have hb5 := below_setRow (unhide hbb) (Nat.le_refl _) (rrow 0 0 0 0 0 0 (.slice none 0 0) 0 (.slice none 0 0))
    have he5 : ErrAt (w2.setRow w.heap.size (rrow 0 0 0 0 0 0 (.slice none 0 0) 0 (.slice none 0 0))) f x n (.iface T (.pointer (some ⟨p, 0, none⟩))) := by
      have e : w2.setRow w.heap.size (rrow 0 0 0 0 0 0 (.slice none 0 0) 0 (.slice none 0 0)) = w2 := setRow_self w2 w.heap.size _ _ _ (unhide HR2)
      rw [e]
      exact unhide HE
    refine bodyPost_ret (v := .tuple #[.agg (rrow 0 0 0 0 0 0 (.slice none 0 0) 0 (.slice none 0 0)), .iface T (.pointer (some ⟨p, 0, none⟩))]) (by exact results_row_tmp Tryz.results156 _ _ w.heap.size _ rfl (run_loadVar_row _ _ 273 _ _ (0, 0) _ r5 Tryz.underlying273 rfl info186)) (by rfl) ?_
    refine ⟨hb5, ?_⟩
    rw [unhide HQ]
    exact ⟨n, T, p, rfl, he5⟩
  | inr q =>
    rw [hq] at hm
    obtain ⟨vv, ve, rfl, h1, h2, h3, h4, h5⟩ := hm
    have c0 := cell_of_row _ _ 0 _ _ _ h1.row
    have c1 := cell_of_row _ _ 1 _ _ _ h1.row
    have c2 := cell_of_row _ _ 2 _ _ _ h1.row
    have c3 := cell_of_row _ _ 3 _ _ _ h1.row
    have c4 := cell_of_row _ _ 4 _ _ _ h1.row
    have c5 := cell_of_row _ _ 5 _ _ _ h1.row
    have c6 := cell_of_row _ _ 6 _ _ _ h1.row
    have c7 := cell_of_row _ _ 7 _ _ _ h1.row
    have c8 := cell_of_row _ _ 8 _ _ _ h1.row
    simp [rrow] at c0 c1 c2 c3 c4 c5 c6 c7 c8
    have CS : Hid (Chg w2 (w2.setRow w.heap.size (rrow q.f q.t q.ra q.rc q.wa q.wc vv q.keep ve)) (fun k => k = w.heap.size)) := ⟨rfl, rfl, rfl, by simp, fun k _ n => setRow_other _ _ _ _ n⟩
    have HL2 := hide (lies_chgI h2 (unhide CS) (fun b e e2 => by have := h4 b e; have e3 : b = w.heap.size := e2; simp at this; omega))
    have HL3 := hide (h3.chg (unhide CS) (fun b e e2 => by have := unhide HWW b (h5 b e); have e3 : b = w.heap.size := e2; omega))
    have R5 := hide (setRow_heap w2 w.heap.size _ (rrow q.f q.t q.ra q.rc q.wa q.wc vv q.keep ve) _ _ (unhide HR2))
    have B5 := hide (below_setRow (unhide hbb) (Nat.le_refl _) (rrow q.f q.t q.ra q.rc q.wa q.wc vv q.keep ve))
    obtain ⟨a6, n6, rfl, _⟩ := h2
    obtain ⟨a8, n8, rfl⟩ := h3.slice
    have HQ := hide hq
    clear h1 h3 hq h4 h5 CS
    unfold rrow at HL2 HL3 R5 B5
    go_wp2_with (refine wpList_store_row rfl 273 _ _ rfl w.heap.size #[.int .u8 q.f, .int .i64 q.t, .int .i64 q.ra, .int .i64 q.rc, .int .i64 q.wa, .int .i64 q.wc, .slice a6 q.vals.length n6, .int .i64 q.keep, .slice a8 q.echo.length n8] rfl rfl 273 _ (unhide HR2) info186 rfl (rrow_one _ _ _ _ _ _ _ _ _ _ _ _ _) ?_)
    refine bodyPost_ret (v := .tuple #[.agg #[.int .u8 q.f, .int .i64 q.t, .int .i64 q.ra, .int .i64 q.rc, .int .i64 q.wa, .int .i64 q.wc, .slice a6 q.vals.length n6, .int .i64 q.keep, .slice a8 q.echo.length n8], .nilIface]) (by exact results_row_tmp Tryz.results156 _ _ w.heap.size _ rfl (run_loadVar_row _ _ 273 _ _ (0, 0) _ (unhide R5) Tryz.underlying273 rfl info186)) (by rfl) ?_
    refine ⟨unhide B5, ?_⟩
    rw [unhide HQ]
    exact ⟨_, _, rfl, unhide HL2, unhide HL3⟩
end Go.Proofs.YtfekelmldebplaaGreatDoor

namespace Go.Proofs.YtfekelmldebplaaGreatDoor
open Go.RowKit

/-- What Parse gives, and where it lies. -/
def Parsed2 (w : World) (f : Int) (v : Value) (res : Int ⊕ Req) (e : Ending) (w' : World) : Prop :=
  Below w.heap.size w w' ∧ match res with
  | .inl x => ∃ n T p, e = .returned (.tuple #[.agg (rrow 0 0 0 0 0 0 (.slice none 0 0) 0 (.slice none 0 0)), .iface T (.pointer (some ⟨p, 0, none⟩))]) ∧ ErrAt w' f x n (.iface T (.pointer (some ⟨p, 0, none⟩)))
  | .inr q => ∃ vv ve, e = .returned (.tuple #[.agg (rrow q.f q.t q.ra q.rc q.wa q.wc vv q.keep ve), .nilIface]) ∧ LiesI w' vv q.vals ∧ Lies w' ve q.echo ∧ (∀ b, vv.ownBlock = some b → w.heap.size ≤ b) ∧ (∀ b, ve.ownBlock = some b → v.ownBlock = some b)

set_option maxRecDepth 10000 in
set_option maxHeartbeats 1000000 in
theorem parseP2_any (f : Int) (v : Value) (bs : List Int) (w : World) (h : Lies w v bs) (hw : ∀ b, v.ownBlock = some b → b < w.heap.size)
    (HP : ∀ rp W, QNew W rp f → Lies W v bs → (∀ b, v.ownBlock = some b → b ≠ rp) → Calls Tryz.prog 188 #[.pointer (some ⟨rp, 0, none⟩), v] W fun e w' => PPost W rp f v (parseL f bs) e w') :
    Calls Tryz.prog 156 #[.int .u8 f, v] w fun e w' => Parsed2 w f v (parseL f bs) e w' := by
  have hb2 : Below w.heap.size w ((w.alloc (.cells (rrow 0 0 0 0 0 0 (.slice none 0 0) 0 (.slice none 0 0)) 273)).alloc (.cells (rrow f 0 0 0 0 0 (.slice none 0 0) 0 (.slice none 0 0)) 273)) := bl_trans (rule_new w _) (rule_new _ _)
  have hr2 : QNew ((w.alloc (.cells (rrow 0 0 0 0 0 0 (.slice none 0 0) 0 (.slice none 0 0)) 273)).alloc (.cells (rrow f 0 0 0 0 0 (.slice none 0 0) 0 (.slice none 0 0)) 273)) (w.heap.size + 1) f := by
    refine ⟨?_⟩
    have := heap_alloc_new (w.alloc (.cells (rrow 0 0 0 0 0 0 (.slice none 0 0) 0 (.slice none 0 0)) 273)) (.cells (rrow f 0 0 0 0 0 (.slice none 0 0) 0 (.slice none 0 0)) 273)
    simp only [World.size_alloc] at this
    exact this
  have r0 : ((w.alloc (.cells (rrow 0 0 0 0 0 0 (.slice none 0 0) 0 (.slice none 0 0)) 273)).alloc (.cells (rrow f 0 0 0 0 0 (.slice none 0 0) 0 (.slice none 0 0)) 273)).heap[w.heap.size]? = some (.cells (rrow 0 0 0 0 0 0 (.slice none 0 0) 0 (.slice none 0 0)) 273 (0, 0)) := ((rule_new (w.alloc (.cells (rrow 0 0 0 0 0 0 (.slice none 0 0) 0 (.slice none 0 0)) 273)) (.cells (rrow f 0 0 0 0 0 (.slice none 0 0) 0 (.slice none 0 0)) 273)).block w.heap.size (by simp)).trans (heap_alloc_new w _)
  have HC := hide (HP (w.heap.size + 1) _ hr2 (h.below hb2) (fun b e => by have := hw b e; omega))
  obtain ⟨av, cv, rfl⟩ := h.slice
  have HB2 := hide hb2
  have HR0 := hide r0
  have HWW := hide hw
  clear hb2 hr2 r0 h hw HP
  unfold rrow at HC HB2 HR0
  go_enter Tryz.func156, Tryz.ntmps156
  go_wp2_with fail
  refine (unhide HC).mono ?_
  rintro e w2 ⟨hc, hm⟩
  have hbb := hide (below_of_new (unhide HB2) (Nat.le_succ _) hc)
  have r2 := (hc.block w.heap.size (Array.getElem?_eq_some_iff.1 (unhide HR0)).1 (fun e => by have e' : w.heap.size = w.heap.size + 1 := e; omega)).trans (unhide HR0)
  have HR2 := hide r2
  clear r2 hc HC HB2 HR0
  generalize w.heap.size + 1 = rp at hm ⊢
  cases hq : parseL f bs with
  | inl x =>
    rw [hq] at hm
    obtain ⟨n, T, p, rfl, he⟩ := hm
    have HE := hide he
    have HQ := hide hq
    clear he hq
    go_wp2_with (refine wpList_store_row rfl 273 _ _ rfl w.heap.size (rrow 0 0 0 0 0 0 (.slice none 0 0) 0 (.slice none 0 0)) rfl rfl 273 _ (unhide HR2) info186 rfl (rrow_one _ _ _ _ _ _ _ _ _ _ _ _ _) ?_)
    have r5 := setRow_heap w2 w.heap.size _ (rrow 0 0 0 0 0 0 (.slice none 0 0) 0 (.slice none 0 0)) _ _ (unhide HR2)
    have hb5 := below_setRow (unhide hbb) (Nat.le_refl _) (rrow 0 0 0 0 0 0 (.slice none 0 0) 0 (.slice none 0 0))
    have he5 : ErrAt (w2.setRow w.heap.size (rrow 0 0 0 0 0 0 (.slice none 0 0) 0 (.slice none 0 0))) f x n (.iface T (.pointer (some ⟨p, 0, none⟩))) := by
      have e : w2.setRow w.heap.size (rrow 0 0 0 0 0 0 (.slice none 0 0) 0 (.slice none 0 0)) = w2 := setRow_self w2 w.heap.size _ _ _ (unhide HR2)
      rw [e]
      exact unhide HE
    refine bodyPost_ret (v := .tuple #[.agg (rrow 0 0 0 0 0 0 (.slice none 0 0) 0 (.slice none 0 0)), .iface T (.pointer (some ⟨p, 0, none⟩))]) (by exact results_row_tmp Tryz.results156 _ _ w.heap.size _ rfl (run_loadVar_row _ _ 273 _ _ (0, 0) _ r5 Tryz.underlying273 rfl info186)) (by rfl) ?_
    refine ⟨hb5, ?_⟩
    rw [unhide HQ]
    exact ⟨n, T, p, rfl, he5⟩
  | inr q =>
    rw [hq] at hm
    obtain ⟨vv, ve, rfl, h1, h2, h3, h4, h5⟩ := hm
    have c0 := cell_of_row _ _ 0 _ _ _ h1.row
    have c1 := cell_of_row _ _ 1 _ _ _ h1.row
    have c2 := cell_of_row _ _ 2 _ _ _ h1.row
    have c3 := cell_of_row _ _ 3 _ _ _ h1.row
    have c4 := cell_of_row _ _ 4 _ _ _ h1.row
    have c5 := cell_of_row _ _ 5 _ _ _ h1.row
    have c6 := cell_of_row _ _ 6 _ _ _ h1.row
    have c7 := cell_of_row _ _ 7 _ _ _ h1.row
    have c8 := cell_of_row _ _ 8 _ _ _ h1.row
    simp [rrow] at c0 c1 c2 c3 c4 c5 c6 c7 c8
    have CS : Hid (Chg w2 (w2.setRow w.heap.size (rrow q.f q.t q.ra q.rc q.wa q.wc vv q.keep ve)) (fun k => k = w.heap.size)) := ⟨rfl, rfl, rfl, by simp, fun k _ n => setRow_other _ _ _ _ n⟩
    have HG4 : Hid (∀ b, vv.ownBlock = some b → w.heap.size ≤ b) := fun b e => by have := h4 b e; simp at this; omega
    have HG5 := hide h5
    have HL2 := hide (lies_chgI h2 (unhide CS) (fun b e e2 => by have := h4 b e; have e3 : b = w.heap.size := e2; simp at this; omega))
    have HL3 := hide (h3.chg (unhide CS) (fun b e e2 => by have := unhide HWW b (h5 b e); have e3 : b = w.heap.size := e2; omega))
    have R5 := hide (setRow_heap w2 w.heap.size _ (rrow q.f q.t q.ra q.rc q.wa q.wc vv q.keep ve) _ _ (unhide HR2))
    have B5 := hide (below_setRow (unhide hbb) (Nat.le_refl _) (rrow q.f q.t q.ra q.rc q.wa q.wc vv q.keep ve))
    obtain ⟨a6, n6, rfl, _⟩ := h2
    obtain ⟨a8, n8, rfl⟩ := h3.slice
    have HQ := hide hq
    clear h1 h3 hq h4 h5 CS
    unfold rrow at HL2 HL3 R5 B5
    go_wp2_with (refine wpList_store_row rfl 273 _ _ rfl w.heap.size #[.int .u8 q.f, .int .i64 q.t, .int .i64 q.ra, .int .i64 q.rc, .int .i64 q.wa, .int .i64 q.wc, .slice a6 q.vals.length n6, .int .i64 q.keep, .slice a8 q.echo.length n8] rfl rfl 273 _ (unhide HR2) info186 rfl (rrow_one _ _ _ _ _ _ _ _ _ _ _ _ _) ?_)
    refine bodyPost_ret (v := .tuple #[.agg #[.int .u8 q.f, .int .i64 q.t, .int .i64 q.ra, .int .i64 q.rc, .int .i64 q.wa, .int .i64 q.wc, .slice a6 q.vals.length n6, .int .i64 q.keep, .slice a8 q.echo.length n8], .nilIface]) (by exact results_row_tmp Tryz.results156 _ _ w.heap.size _ rfl (run_loadVar_row _ _ 273 _ _ (0, 0) _ (unhide R5) Tryz.underlying273 rfl info186)) (by rfl) ?_
    refine ⟨unhide B5, ?_⟩
    rw [unhide HQ]
    exact ⟨_, _, rfl, unhide HL2, unhide HL3, unhide HG4, unhide HG5⟩
end Go.Proofs.YtfekelmldebplaaGreatDoor
