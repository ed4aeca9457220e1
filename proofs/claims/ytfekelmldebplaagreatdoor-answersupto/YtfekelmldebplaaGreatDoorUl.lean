import Derived.Laws.ResultCell
import Derived.Test.YtfekelmldebplaaGreatDoorUg
set_option maxRecDepth 100000
set_option maxHeartbeats 8000000
namespace Go.Proofs.YtfekelmldebplaaGreatDoor
open Go.RowKit
theorem aFk (rp : Nat) (v : Value) (bs : List Int) (w : World) (hr : QNew w rp 1) (h : Lies w v bs) (hx : Bys bs) (hl : bs.length ≤ 252) :
  Calls Tryz.prog 188 #[.pointer (some ⟨rp, 0, none⟩), v] w fun e w' => bK w rp 1 v (aO 1 bs) e w' := by
 have c0 := cell_of_row _ _ 0 _ _ _ hr.row
 simp [rrow] at c0
 have HP := hide (gE rp 1 0 2000 v bs w hr h hx hl)
 rw [show ((0 : Nat) : Int) = 0 from rfl, show ((2000 : Nat) : Int) = 2000 from rfl] at HP
 have hq : aO 1 bs = aW 1 bs 0 2000 := rfl
 rw [hq]
 obtain ⟨av, cv, rfl⟩ := h.slice
 clear hr h hx hq
 go_enter Tryz.func188, Tryz.ntmps188
 go_wp2_with fail
 refine (aA HP).mono ?_
 rintro e w2 ⟨hc, hm⟩
 cases hq : aW 1 bs 0 2000 with
 | inl x =>
  rw [hq] at hm
  obtain ⟨n, T, p, rfl, he⟩ := hm
  have HE := hide he
  have HC := hide hc
  have HQ := hide hq
  clear he hc HP hq c0
  go_wp2
  go_ret
  exact bK.mkL (aA HQ) (aA HC) (aA HE)
 | inr q =>
  rw [hq] at hm
  obtain ⟨vv, ve, rfl, h1, h2, h3, h4, h5⟩ := hm
  have H1 := hide h1
  have H2 := hide h2
  have H3 := hide h3
  have H4 := hide h4
  have H5 := hide h5
  have HC := hide hc
  have HQ := hide hq
  clear h1 h2 h3 h4 h5 hc HP hq c0
  go_wp2
  go_ret
  exact bK.mkR (aA HQ) (aA HC) (aA H1) (aA H2) (aA H3) (aA H4) (aA H5)
theorem aFj (rp : Nat) (v : Value) (bs : List Int) (w : World) (hr : QNew w rp 2) (h : Lies w v bs) (hx : Bys bs) (hl : bs.length ≤ 252) :
  Calls Tryz.prog 188 #[.pointer (some ⟨rp, 0, none⟩), v] w fun e w' => bK w rp 2 v (aO 2 bs) e w' := by
 have c0 := cell_of_row _ _ 0 _ _ _ hr.row
 simp [rrow] at c0
 have HP := hide (gE rp 2 1 2000 v bs w hr h hx hl)
 rw [show ((1 : Nat) : Int) = 1 from rfl, show ((2000 : Nat) : Int) = 2000 from rfl] at HP
 have hq : aO 2 bs = aW 2 bs 1 2000 := rfl
 rw [hq]
 obtain ⟨av, cv, rfl⟩ := h.slice
 clear hr h hx hq
 go_enter Tryz.func188, Tryz.ntmps188
 go_wp2_with fail
 refine (aA HP).mono ?_
 rintro e w2 ⟨hc, hm⟩
 cases hq : aW 2 bs 1 2000 with
 | inl x =>
  rw [hq] at hm
  obtain ⟨n, T, p, rfl, he⟩ := hm
  have HE := hide he
  have HC := hide hc
  have HQ := hide hq
  clear he hc HP hq c0
  go_wp2
  go_ret
  exact bK.mkL (aA HQ) (aA HC) (aA HE)
 | inr q =>
  rw [hq] at hm
  obtain ⟨vv, ve, rfl, h1, h2, h3, h4, h5⟩ := hm
  have H1 := hide h1
  have H2 := hide h2
  have H3 := hide h3
  have H4 := hide h4
  have H5 := hide h5
  have HC := hide hc
  have HQ := hide hq
  clear h1 h2 h3 h4 h5 hc HP hq c0
  go_wp2
  go_ret
  exact bK.mkR (aA HQ) (aA HC) (aA H1) (aA H2) (aA H3) (aA H4) (aA H5)
theorem aFi (rp : Nat) (v : Value) (bs : List Int) (w : World) (hr : QNew w rp 3) (h : Lies w v bs) (hx : Bys bs) (hl : bs.length ≤ 252) :
  Calls Tryz.prog 188 #[.pointer (some ⟨rp, 0, none⟩), v] w fun e w' => bK w rp 3 v (aO 3 bs) e w' := by
 have c0 := cell_of_row _ _ 0 _ _ _ hr.row
 simp [rrow] at c0
 have HP := hide (gE rp 3 3 125 v bs w hr h hx hl)
 rw [show ((3 : Nat) : Int) = 3 from rfl, show ((125 : Nat) : Int) = 125 from rfl] at HP
 have hq : aO 3 bs = aW 3 bs 3 125 := rfl
 rw [hq]
 obtain ⟨av, cv, rfl⟩ := h.slice
 clear hr h hx hq
 go_enter Tryz.func188, Tryz.ntmps188
 go_wp2_with fail
 refine (aA HP).mono ?_
 rintro e w2 ⟨hc, hm⟩
 cases hq : aW 3 bs 3 125 with
 | inl x =>
  rw [hq] at hm
  obtain ⟨n, T, p, rfl, he⟩ := hm
  have HE := hide he
  have HC := hide hc
  have HQ := hide hq
  clear he hc HP hq c0
  go_wp2
  go_ret
  exact bK.mkL (aA HQ) (aA HC) (aA HE)
 | inr q =>
  rw [hq] at hm
  obtain ⟨vv, ve, rfl, h1, h2, h3, h4, h5⟩ := hm
  have H1 := hide h1
  have H2 := hide h2
  have H3 := hide h3
  have H4 := hide h4
  have H5 := hide h5
  have HC := hide hc
  have HQ := hide hq
  clear h1 h2 h3 h4 h5 hc HP hq c0
  go_wp2
  go_ret
  exact bK.mkR (aA HQ) (aA HC) (aA H1) (aA H2) (aA H3) (aA H4) (aA H5)
theorem aFh (rp : Nat) (v : Value) (bs : List Int) (w : World) (hr : QNew w rp 4) (h : Lies w v bs) (hx : Bys bs) (hl : bs.length ≤ 252) :
  Calls Tryz.prog 188 #[.pointer (some ⟨rp, 0, none⟩), v] w fun e w' => bK w rp 4 v (aO 4 bs) e w' := by
 have c0 := cell_of_row _ _ 0 _ _ _ hr.row
 simp [rrow] at c0
 have HP := hide (gE rp 4 2 125 v bs w hr h hx hl)
 rw [show ((2 : Nat) : Int) = 2 from rfl, show ((125 : Nat) : Int) = 125 from rfl] at HP
 have hq : aO 4 bs = aW 4 bs 2 125 := rfl
 rw [hq]
 obtain ⟨av, cv, rfl⟩ := h.slice
 clear hr h hx hq
 go_enter Tryz.func188, Tryz.ntmps188
 go_wp2_with fail
 refine (aA HP).mono ?_
 rintro e w2 ⟨hc, hm⟩
 cases hq : aW 4 bs 2 125 with
 | inl x =>
  rw [hq] at hm
  obtain ⟨n, T, p, rfl, he⟩ := hm
  have HE := hide he
  have HC := hide hc
  have HQ := hide hq
  clear he hc HP hq c0
  go_wp2
  go_ret
  exact bK.mkL (aA HQ) (aA HC) (aA HE)
 | inr q =>
  rw [hq] at hm
  obtain ⟨vv, ve, rfl, h1, h2, h3, h4, h5⟩ := hm
  have H1 := hide h1
  have H2 := hide h2
  have H3 := hide h3
  have H4 := hide h4
  have H5 := hide h5
  have HC := hide hc
  have HQ := hide hq
  clear h1 h2 h3 h4 h5 hc HP hq c0
  go_wp2
  go_ret
  exact bK.mkR (aA HQ) (aA HC) (aA H1) (aA H2) (aA H3) (aA H4) (aA H5)
theorem aFg (rp : Nat) (v : Value) (bs : List Int) (w : World) (hr : QNew w rp 5) (h : Lies w v bs) (hx : Bys bs) (hl : bs.length ≤ 252) (hv : ∀ b, v.ownBlock = some b → b ≠ rp) :
  Calls Tryz.prog 188 #[.pointer (some ⟨rp, 0, none⟩), v] w fun e w' => bK w rp 5 v (aO 5 bs) e w' := by
 have c0 := cell_of_row _ _ 0 _ _ _ hr.row
 simp [rrow] at c0
 have HP := hide (xM rp 5 v bs w hr h hx hl hv)
 have hq : aO 5 bs = dK 5 bs := rfl
 rw [hq]
 obtain ⟨av, cv, rfl⟩ := h.slice
 clear hr h hx hq hv
 go_enter Tryz.func188, Tryz.ntmps188
 go_wp2_with fail
 refine (aA HP).mono ?_
 rintro e w2 ⟨hc, hm⟩
 cases hq : dK 5 bs with
 | inl x =>
  rw [hq] at hm
  obtain ⟨n, T, p, rfl, he⟩ := hm
  have HE := hide he
  have HC := hide hc
  have HQ := hide hq
  clear he hc HP hq c0
  go_wp2
  go_ret
  exact bK.mkL (aA HQ) (aA HC) (aA HE)
 | inr q =>
  rw [hq] at hm
  obtain ⟨vv, ve, rfl, h1, h2, h3, h4, h5⟩ := hm
  have H1 := hide h1
  have H2 := hide h2
  have H3 := hide h3
  have H4 := hide h4
  have H5 := hide h5
  have HC := hide hc
  have HQ := hide hq
  clear h1 h2 h3 h4 h5 hc HP hq c0
  go_wp2
  go_ret
  exact bK.mkR (aA HQ) (aA HC) (aA H1) (aA H2) (aA H3) (aA H4) (aA H5)
theorem aFf (rp : Nat) (v : Value) (bs : List Int) (w : World) (hr : QNew w rp 6) (h : Lies w v bs) (hx : Bys bs) (hl : bs.length ≤ 252) (hv : ∀ b, v.ownBlock = some b → b ≠ rp) :
  Calls Tryz.prog 188 #[.pointer (some ⟨rp, 0, none⟩), v] w fun e w' => bK w rp 6 v (aO 6 bs) e w' := by
 have c0 := cell_of_row _ _ 0 _ _ _ hr.row
 simp [rrow] at c0
 have HP := hide (xL rp 6 v bs w hr h hx hl hv)
 have hq : aO 6 bs = eD 6 bs := rfl
 rw [hq]
 obtain ⟨av, cv, rfl⟩ := h.slice
 clear hr h hx hq hv
 go_enter Tryz.func188, Tryz.ntmps188
 go_wp2_with fail
 refine (aA HP).mono ?_
 rintro e w2 ⟨hc, hm⟩
 cases hq : eD 6 bs with
 | inl x =>
  rw [hq] at hm
  obtain ⟨n, T, p, rfl, he⟩ := hm
  have HE := hide he
  have HC := hide hc
  have HQ := hide hq
  clear he hc HP hq c0
  go_wp2
  go_ret
  exact bK.mkL (aA HQ) (aA HC) (aA HE)
 | inr q =>
  rw [hq] at hm
  obtain ⟨vv, ve, rfl, h1, h2, h3, h4, h5⟩ := hm
  have H1 := hide h1
  have H2 := hide h2
  have H3 := hide h3
  have H4 := hide h4
  have H5 := hide h5
  have HC := hide hc
  have HQ := hide hq
  clear h1 h2 h3 h4 h5 hc HP hq c0
  go_wp2
  go_ret
  exact bK.mkR (aA HQ) (aA HC) (aA H1) (aA H2) (aA H3) (aA H4) (aA H5)
theorem aDq (rp : Nat) (v : Value) (bs : List Int) (w : World) (hr : QNew w rp 15) (h : Lies w v bs) (hx : Bys bs) (hl : bs.length ≤ 252) (hv : ∀ b, v.ownBlock = some b → b ≠ rp) :
  Calls Tryz.prog 188 #[.pointer (some ⟨rp, 0, none⟩), v] w fun e w' => bK w rp 15 v (aO 15 bs) e w' := by
 have c0 := cell_of_row _ _ 0 _ _ _ hr.row
 simp [rrow] at c0
 have HP := hide (vM rp 15 v bs w hr h hx hl hv)
 have hq : aO 15 bs = eQ 15 bs := rfl
 rw [hq]
 obtain ⟨av, cv, rfl⟩ := h.slice
 clear hr h hx hq hv
 go_enter Tryz.func188, Tryz.ntmps188
 go_wp2_with fail
 refine (aA HP).mono ?_
 rintro e w2 ⟨hc, hm⟩
 cases hq : eQ 15 bs with
 | inl x =>
  rw [hq] at hm
  obtain ⟨n, T, p, rfl, he⟩ := hm
  have HE := hide he
  have HC := hide hc
  have HQ := hide hq
  clear he hc HP hq c0
  go_wp2
  go_ret
  exact bK.mkL (aA HQ) (aA HC) (aA HE)
 | inr q =>
  rw [hq] at hm
  obtain ⟨vv, ve, rfl, h1, h2, h3, h4, h5⟩ := hm
  have H1 := hide h1
  have H2 := hide h2
  have H3 := hide h3
  have H4 := hide h4
  have H5 := hide h5
  have HC := hide hc
  have HQ := hide hq
  clear h1 h2 h3 h4 h5 hc HP hq c0
  go_wp2
  go_ret
  exact bK.mkR (aA HQ) (aA HC) (aA H1) (aA H2) (aA H3) (aA H4) (aA H5)
theorem aDp (rp : Nat) (v : Value) (bs : List Int) (w : World) (hr : QNew w rp 16) (h : Lies w v bs) (hx : Bys bs) (hl : bs.length ≤ 252) (hv : ∀ b, v.ownBlock = some b → b ≠ rp) :
  Calls Tryz.prog 188 #[.pointer (some ⟨rp, 0, none⟩), v] w fun e w' => bK w rp 16 v (aO 16 bs) e w' := by
 have c0 := cell_of_row _ _ 0 _ _ _ hr.row
 simp [rrow] at c0
 have HP := hide (vL rp 16 v bs w hr h hx hl hv)
 have hq : aO 16 bs = eP 16 bs := rfl
 rw [hq]
 obtain ⟨av, cv, rfl⟩ := h.slice
 clear hr h hx hq hv
 go_enter Tryz.func188, Tryz.ntmps188
 go_wp2_with fail
 refine (aA HP).mono ?_
 rintro e w2 ⟨hc, hm⟩
 cases hq : eP 16 bs with
 | inl x =>
  rw [hq] at hm
  obtain ⟨n, T, p, rfl, he⟩ := hm
  have HE := hide he
  have HC := hide hc
  have HQ := hide hq
  clear he hc HP hq c0
  go_wp2
  go_ret
  exact bK.mkL (aA HQ) (aA HC) (aA HE)
 | inr q =>
  rw [hq] at hm
  obtain ⟨vv, ve, rfl, h1, h2, h3, h4, h5⟩ := hm
  have H1 := hide h1
  have H2 := hide h2
  have H3 := hide h3
  have H4 := hide h4
  have H5 := hide h5
  have HC := hide hc
  have HQ := hide hq
  clear h1 h2 h3 h4 h5 hc HP hq c0
  go_wp2
  go_ret
  exact bK.mkR (aA HQ) (aA HC) (aA H1) (aA H2) (aA H3) (aA H4) (aA H5)
theorem aDo (rp : Nat) (v : Value) (bs : List Int) (w : World) (hr : QNew w rp 22) (h : Lies w v bs) (hx : Bys bs) (hl : bs.length ≤ 252) (hv : ∀ b, v.ownBlock = some b → b ≠ rp) :
  Calls Tryz.prog 188 #[.pointer (some ⟨rp, 0, none⟩), v] w fun e w' => bK w rp 22 v (aO 22 bs) e w' := by
 have c0 := cell_of_row _ _ 0 _ _ _ hr.row
 simp [rrow] at c0
 have HP := hide (vK rp 22 v bs w hr h hx hl hv)
 have hq : aO 22 bs = dE 22 bs := rfl
 rw [hq]
 obtain ⟨av, cv, rfl⟩ := h.slice
 clear hr h hx hq hv
 go_enter Tryz.func188, Tryz.ntmps188
 go_wp2_with fail
 refine (aA HP).mono ?_
 rintro e w2 ⟨hc, hm⟩
 cases hq : dE 22 bs with
 | inl x =>
  rw [hq] at hm
  obtain ⟨n, T, p, rfl, he⟩ := hm
  have HE := hide he
  have HC := hide hc
  have HQ := hide hq
  clear he hc HP hq c0
  go_wp2
  go_ret
  exact bK.mkL (aA HQ) (aA HC) (aA HE)
 | inr q =>
  rw [hq] at hm
  obtain ⟨vv, ve, rfl, h1, h2, h3, h4, h5⟩ := hm
  have H1 := hide h1
  have H2 := hide h2
  have H3 := hide h3
  have H4 := hide h4
  have H5 := hide h5
  have HC := hide hc
  have HQ := hide hq
  clear h1 h2 h3 h4 h5 hc HP hq c0
  go_wp2
  go_ret
  exact bK.mkR (aA HQ) (aA HC) (aA H1) (aA H2) (aA H3) (aA H4) (aA H5)
theorem nL : (Tryz.prog.info? 273).map (·.size) = some 9 := by kernel_rfl
theorem fM {fn : Func} {p u : Tmp} {ty : TypeId} (h : fn.results = #[.cell p ty, .tmp u]) (tmps : Array Value) (w : World) (g : Nat) (cs : Array Value)
  (hp : tmps.getD p undef = .pointer (some ⟨g, 0, none⟩)) (hl : (loadVar ty ⟨g, 0, none⟩).run Tryz.prog w = .ok (.agg cs) w) :
  (results fn tmps).run Tryz.prog w = .ok (.tuple #[.agg cs, tmps.getD u undef]) w := by
 have hp' : tmps[p]?.getD undef = .pointer (some ⟨g, 0, none⟩) := by simpa using hp
 rw [results_cell_tmp h]
 simp [hp', asAddr, hl, Result.andThen]
theorem uT (f t ra rc wa wc k : Int) (a a' : Option Addr) (n c n' c' : Nat) : (rrow f t ra rc wa wc (.slice a n c) k (.slice a' n' c')).all (·.oneCell') = true := by simp [rrow, Value.oneCell']
theorem gL {w w1 w2 : World} {rp : Nat} (hb : Below w.heap.size w w1) (hr : w.heap.size ≤ rp) (hc : Chg w1 w2 (fun k => k = rp)) : Below w.heap.size w w2 :=
 ⟨hc.os.trans hb.os, hc.tape.trans hb.tape, hc.output.trans hb.output, Nat.le_trans hb.size hc.size, fun k p => (hc.block k (Nat.lt_of_lt_of_le p hb.size) (fun e => by have e' : k = rp := e; omega)).trans (hb.block k p)⟩
def aGm (w : World) (f : Int) (v : Value) (res : Int ⊕ Req) (e : Ending) (w' : World) : Prop :=
 Below w.heap.size w w' ∧ match res with
 | .inl x => ∃ n T p, e = .returned (.tuple #[.agg (rrow 0 0 0 0 0 0 (.slice none 0 0) 0 (.slice none 0 0)), .iface T (.pointer (some ⟨p, 0, none⟩))]) ∧ dN w' f x n (.iface T (.pointer (some ⟨p, 0, none⟩)))
 | .inr q => ∃ vv ve, e = .returned (.tuple #[.agg (rrow q.f q.t q.ra q.rc q.wa q.wc vv q.keep ve), .nilIface]) ∧ cB w' vv q.vals ∧ Lies w' ve q.echo ∧ (∀ b, vv.ownBlock = some b → w.heap.size ≤ b) ∧ (∀ b, ve.ownBlock = some b → v.ownBlock = some b)
theorem mX (f : Int) (v : Value) (bs : List Int) (w : World) (h : Lies w v bs) (hw : ∀ b, v.ownBlock = some b → b < w.heap.size)
  (HP : ∀ rp W, QNew W rp f → Lies W v bs → (∀ b, v.ownBlock = some b → b ≠ rp) → Calls Tryz.prog 188 #[.pointer (some ⟨rp, 0, none⟩), v] W fun e w' => bK W rp f v (aO f bs) e w') :
  Calls Tryz.prog 156 #[.int .u8 f, v] w fun e w' => aGm w f v (aO f bs) e w' := by
 have hb2 : Below w.heap.size w ((w.alloc (.cells (rrow 0 0 0 0 0 0 (.slice none 0 0) 0 (.slice none 0 0)) 273)).alloc (.cells (rrow f 0 0 0 0 0 (.slice none 0 0) 0 (.slice none 0 0)) 273)) := aD (aZ w _) (aZ _ _)
 have hr2 : QNew ((w.alloc (.cells (rrow 0 0 0 0 0 0 (.slice none 0 0) 0 (.slice none 0 0)) 273)).alloc (.cells (rrow f 0 0 0 0 0 (.slice none 0 0) 0 (.slice none 0 0)) 273)) (w.heap.size + 1) f := by
  refine ⟨?_⟩
  have := heap_alloc_new (w.alloc (.cells (rrow 0 0 0 0 0 0 (.slice none 0 0) 0 (.slice none 0 0)) 273)) (.cells (rrow f 0 0 0 0 0 (.slice none 0 0) 0 (.slice none 0 0)) 273)
  simp only [World.size_alloc] at this
  exact this
 have r0 : ((w.alloc (.cells (rrow 0 0 0 0 0 0 (.slice none 0 0) 0 (.slice none 0 0)) 273)).alloc (.cells (rrow f 0 0 0 0 0 (.slice none 0 0) 0 (.slice none 0 0)) 273)).heap[w.heap.size]? = some (.cells (rrow 0 0 0 0 0 0 (.slice none 0 0) 0 (.slice none 0 0)) 273 (0, 0)) := ((aZ (w.alloc (.cells (rrow 0 0 0 0 0 0 (.slice none 0 0) 0 (.slice none 0 0)) 273)) (.cells (rrow f 0 0 0 0 0 (.slice none 0 0) 0 (.slice none 0 0)) 273)).block w.heap.size (by simp)).trans (heap_alloc_new w _)
 have HC := hide (HP (w.heap.size + 1) _ hr2 (h.below hb2) (fun b e => by have := hw b e; omega))
 obtain ⟨av, cv, rfl⟩ := h.slice
 have HB2 := hide hb2
 have HR0 := hide r0
 have HWW := hide hw
 clear hb2 hr2 r0 h hw HP
 unfold rrow at HC HB2 HR0
 go_enter Tryz.func156, Tryz.ntmps156
 go_wp2_with fail
 refine (aA HC).mono ?_
 rintro e w2 ⟨hc, hm⟩
 have hbb := hide (gL (aA HB2) (Nat.le_succ _) hc)
 have r2 := (hc.block w.heap.size (Array.getElem?_eq_some_iff.1 (aA HR0)).1 (fun e => by have e' : w.heap.size = w.heap.size + 1 := e; omega)).trans (aA HR0)
 have HR2 := hide r2
 clear r2 hc HC HB2 HR0
 generalize w.heap.size + 1 = rp at hm ⊢
 cases hq : aO f bs with
 | inl x =>
  rw [hq] at hm
  obtain ⟨n, T, p, rfl, he⟩ := hm
  have HE := hide he
  have HQ := hide hq
  clear he hq
  go_wp2_with (refine wpList_store_row rfl 273 _ _ rfl w.heap.size (rrow 0 0 0 0 0 0 (.slice none 0 0) 0 (.slice none 0 0)) rfl rfl 273 _ (aA HR2) nL rfl (uT _ _ _ _ _ _ _ _ _ _ _ _ _) ?_)
  have r5 := setRow_heap w2 w.heap.size _ (rrow 0 0 0 0 0 0 (.slice none 0 0) 0 (.slice none 0 0)) _ _ (aA HR2)
  have hb5 := below_setRow (aA hbb) (Nat.le_refl _) (rrow 0 0 0 0 0 0 (.slice none 0 0) 0 (.slice none 0 0))
  have he5 : dN (w2.setRow w.heap.size (rrow 0 0 0 0 0 0 (.slice none 0 0) 0 (.slice none 0 0))) f x n (.iface T (.pointer (some ⟨p, 0, none⟩))) := by
   have e : w2.setRow w.heap.size (rrow 0 0 0 0 0 0 (.slice none 0 0) 0 (.slice none 0 0)) = w2 := setRow_self w2 w.heap.size _ _ _ (aA HR2)
   rw [e]
   exact aA HE
  refine bodyPost_ret (v := .tuple #[.agg (rrow 0 0 0 0 0 0 (.slice none 0 0) 0 (.slice none 0 0)), .iface T (.pointer (some ⟨p, 0, none⟩))]) (by exact fM Tryz.results156 _ _ w.heap.size _ rfl (run_loadVar_row _ _ 273 _ _ (0, 0) _ r5 Tryz.underlying273 rfl nL)) (by rfl) ?_
  refine ⟨hb5, ?_⟩
  rw [aA HQ]
  exact ⟨n, T, p, rfl, he5⟩
 | inr q =>
  rw [hq] at hm
  obtain ⟨vv, ve, rfl, h1, h2, h3, h4, h5⟩ := hm
  have c0 := cell_of_row _ _ 0 _ _ _ h1.row
  have c1 := cell_of_row _ _ 1 _ _ _ h1.row
  have c2 := cell_of_row _ _ 2 _ _ _ h1.row
  have c3 := cell_of_row _ _ 3 _ _ _ h1.row
  have c4 := cell_of_row _ _ 4 _ _ _ h1.row
  have c5 := cell_of_row _ _ 5 _ _ _ h1.row
  have c6 := cell_of_row _ _ 6 _ _ _ h1.row
  have c7 := cell_of_row _ _ 7 _ _ _ h1.row
  have c8 := cell_of_row _ _ 8 _ _ _ h1.row
  simp [rrow] at c0 c1 c2 c3 c4 c5 c6 c7 c8
  have CS : Hid (Chg w2 (w2.setRow w.heap.size (rrow q.f q.t q.ra q.rc q.wa q.wc vv q.keep ve)) (fun k => k = w.heap.size)) := ⟨rfl, rfl, rfl, by simp, fun k _ n => setRow_other _ _ _ _ n⟩
  have HG4 : Hid (∀ b, vv.ownBlock = some b → w.heap.size ≤ b) := fun b e => by have := h4 b e; simp at this; omega
  have HG5 := hide h5
  have HL2 := hide (fB h2 (aA CS) (fun b e e2 => by have := h4 b e; have e3 : b = w.heap.size := e2; simp at this; omega))
  have HL3 := hide (h3.chg (aA CS) (fun b e e2 => by have := aA HWW b (h5 b e); have e3 : b = w.heap.size := e2; omega))
  have R5 := hide (setRow_heap w2 w.heap.size _ (rrow q.f q.t q.ra q.rc q.wa q.wc vv q.keep ve) _ _ (aA HR2))
  have B5 := hide (below_setRow (aA hbb) (Nat.le_refl _) (rrow q.f q.t q.ra q.rc q.wa q.wc vv q.keep ve))
  obtain ⟨a6, n6, rfl, _⟩ := h2
  obtain ⟨a8, n8, rfl⟩ := h3.slice
  have HQ := hide hq
  clear h1 h3 hq h4 h5 CS
  unfold rrow at HL2 HL3 R5 B5
  go_wp2_with (refine wpList_store_row rfl 273 _ _ rfl w.heap.size #[.int .u8 q.f, .int .i64 q.t, .int .i64 q.ra, .int .i64 q.rc, .int .i64 q.wa, .int .i64 q.wc, .slice a6 q.vals.length n6, .int .i64 q.keep, .slice a8 q.echo.length n8] rfl rfl 273 _ (aA HR2) nL rfl (uT _ _ _ _ _ _ _ _ _ _ _ _ _) ?_)
  refine bodyPost_ret (v := .tuple #[.agg #[.int .u8 q.f, .int .i64 q.t, .int .i64 q.ra, .int .i64 q.rc, .int .i64 q.wa, .int .i64 q.wc, .slice a6 q.vals.length n6, .int .i64 q.keep, .slice a8 q.echo.length n8], .nilIface]) (by exact fM Tryz.results156 _ _ w.heap.size _ rfl (run_loadVar_row _ _ 273 _ _ (0, 0) _ (aA R5) Tryz.underlying273 rfl nL)) (by rfl) ?_
  refine ⟨aA B5, ?_⟩
  rw [aA HQ]
  exact ⟨_, _, rfl, aA HL2, aA HL3, aA HG4, aA HG5⟩
end Go.Proofs.YtfekelmldebplaaGreatDoor
