import Derived.Test.YtfekelmldebplaaGreatDoorSz
import Derived.Test.YtfekelmldebplaaGreatDoorCards
import Derived.Test.YtfekelmldebplaaGreatDoorTie
import Derived.ProofKit
import Derived.OpenShut
import Derived.ChangeOld
import Derived.JoinedCond
import Derived.Deep.Slices
import Derived.Deep.Strs
import Derived.Deep.DeepHandedRow
import Derived.Lib.LaidTab
import Derived.LaidHandle
namespace Go.Proofs.YtfekelmldebplaaGreatDoor
open Go.ChangeShapes Go.WideShapes Go.ChangeAt Go.RowKit Go.Deep

theorem ownK : ownKnob Tryz.prog.godebug = none := by kernel_rfl
theorem laidOut : laidOutB Tryz.prog = true := by kernel_rfl
theorem cells61 : Tryz.prog.cellsOf 95 = 14 := by kernel_rfl
theorem cellsOf3 : Tryz.prog.cellsOf 3 = 1 := by kernel_rfl
theorem cells9 : Tryz.prog.cellsOf 9 = 1 := by kernel_rfl

/-! ### What the bound gives -/
theorem bulk_pos {H : Type} (d : DataW H) : 1 ≤ Rows.uptoBulk d := by
  cases d with
  | lit l => cases l <;> simp [Rows.uptoBulk]
  | nil => simp [Rows.uptoBulk]
  | ptr d => simp [Rows.uptoBulk]
  | slice elems spare => simp [Rows.uptoBulk]
  | agg parts => simp [Rows.uptoBulk]
  | iface t d => simp [Rows.uptoBulk]
  | map entries => simp [Rows.uptoBulk]
  | held h => simp [Rows.uptoBulk]
theorem bulk_len {H : Type} (l : List (DataW H)) : l.length ≤ Rows.uptoBulkAll l := by
  induction l with
  | nil => simp [Rows.uptoBulkAll]
  | cons x r ih =>
    have := bulk_pos x
    simp only [Rows.uptoBulkAll, List.length_cons]
    omega
theorem bulk_mem {H : Type} {d : DataW H} {l : List (DataW H)} (h : d ∈ l) : Rows.uptoBulk d ≤ Rows.uptoBulkAll l := by
  induction l with
  | nil => cases h
  | cons x r ih =>
    simp only [Rows.uptoBulkAll]
    rcases List.mem_cons.1 h with e | e
    · subst e; omega
    · have := ih e; omega
theorem bulk_slice {H : Type} (l s : List (DataW H)) : l.length ≤ Rows.uptoBulk (.slice l s) ∧ Rows.uptoBulkAll l ≤ Rows.uptoBulk (.slice l s) := by
  have := bulk_len l
  simp only [Rows.uptoBulk]
  omega
theorem bulk_one {H : Type} {a : DataW H} (hk : Rows.uptoSmall H [a] = true) : Rows.uptoBulk a ≤ 1048576 := by
  have h : Rows.uptoBulkAll [a] ≤ 1048576 := of_decide_eq_true hk
  simp only [Rows.uptoBulkAll] at h
  omega

theorem plain_of_cell {w : World} {a : Addr} {v : Value} (h : w.cell? a = some v) : ∃ b o, a = ⟨b, o, none⟩ := by
  obtain ⟨b, o, s⟩ := a
  refine ⟨b, o, ?_⟩
  cases s with
  | none => rfl
  | some s =>
    exfalso
    unfold World.cell? at h
    split at h
    · simp at h
    · cases h
theorem add_plain' (b o j : Nat) : (⟨b, o, none⟩ : Addr).add j = ⟨b, o + j, none⟩ := by unfold Addr.add; split <;> simp_all

theorem wf_i64 {n : Int} (h : (Lit.int .i64 n).wf = true) : -9223372036854775808 ≤ n ∧ n ≤ 9223372036854775807 := by
  simpa [Lit.wf, IntKind.min, IntKind.max, IntKind.signed, IntKind.bits] using h
theorem wf_u8 {n : Int} (h : (Lit.int .u8 n).wf = true) : 0 ≤ n ∧ n ≤ 255 := by
  simpa [Lit.wf, IntKind.min, IntKind.max, IntKind.signed, IntKind.bits] using h

section
variable {H : Type} {enc : TypeId × Value → H} {W : World}

set_option maxRecDepth 100000 in
/-- One step of a script, read. -/
theorem read_op {fuel : Nat} {cs : List Value} {x : DataW H × List MemPlace} (h : DataW.trod enc Tryz.prog W 0 (fun _ => true) true fuel 95 cs = some x) :
    ∃ o : Int × OpV, cs = (o.2.cells o.1).toList ∧ (-9223372036854775808 ≤ o.2.A ∧ o.2.A ≤ 9223372036854775807) ∧ (-9223372036854775808 ≤ o.2.C ∧ o.2.C ≤ 9223372036854775807) ∧ o.2.s.size + 1 ≤ Rows.uptoBulk x.1 := by
  obtain ⟨ys, n, _, rfl, hl, hlen, hf⟩ := DataW.trod_struct Tryz.underlying95 h
  rw [cells61] at hl
  have z : ys.length = 9 := hlen
  match cs, hl with
  | [c0, c1, c2, c3, c4, c5, c6, c7, c8, c9, c10, c11, c12, c13], _ =>
    have f0 : DataW.trod enc Tryz.prog W 0 (fun _ => true) true n 3 (([c0, c1, c2, c3, c4, c5, c6, c7, c8, c9, c10, c11, c12, c13] : List Value).drop 0 |>.take (Tryz.prog.cellsOf 3)) = ys[0]? := hf 0 _ rfl
    have f1 : DataW.trod enc Tryz.prog W 0 (fun _ => true) true n 3 (([c0, c1, c2, c3, c4, c5, c6, c7, c8, c9, c10, c11, c12, c13] : List Value).drop 1 |>.take (Tryz.prog.cellsOf 3)) = ys[1]? := hf 1 _ rfl
    have f2 : DataW.trod enc Tryz.prog W 0 (fun _ => true) true n 3 (([c0, c1, c2, c3, c4, c5, c6, c7, c8, c9, c10, c11, c12, c13] : List Value).drop 2 |>.take (Tryz.prog.cellsOf 3)) = ys[2]? := hf 2 _ rfl
    have f3 : DataW.trod enc Tryz.prog W 0 (fun _ => true) true n 3 (([c0, c1, c2, c3, c4, c5, c6, c7, c8, c9, c10, c11, c12, c13] : List Value).drop 3 |>.take (Tryz.prog.cellsOf 3)) = ys[3]? := hf 3 _ rfl
    have f4 : DataW.trod enc Tryz.prog W 0 (fun _ => true) true n 3 (([c0, c1, c2, c3, c4, c5, c6, c7, c8, c9, c10, c11, c12, c13] : List Value).drop 4 |>.take (Tryz.prog.cellsOf 3)) = ys[4]? := hf 4 _ rfl
    have f5 : DataW.trod enc Tryz.prog W 0 (fun _ => true) true n 9 (([c0, c1, c2, c3, c4, c5, c6, c7, c8, c9, c10, c11, c12, c13] : List Value).drop 5 |>.take (Tryz.prog.cellsOf 9)) = ys[5]? := hf 5 _ rfl
    simp only [cellsOf3, cells9, List.take_succ_cons, List.take_zero, List.drop] at f0 f1 f2 f3 f4 f5
    rw [List.getElem?_eq_getElem (by omega)] at f0 f1 f2 f3 f4 f5
    obtain ⟨k, e0, _, w0⟩ := DataW.trod_int Tryz.underlying3 f0
    obtain ⟨a, e1, _, w1⟩ := DataW.trod_int Tryz.underlying3 f1
    obtain ⟨b, e2, _, w2⟩ := DataW.trod_int Tryz.underlying3 f2
    obtain ⟨c, e3, _, w3⟩ := DataW.trod_int Tryz.underlying3 f3
    obtain ⟨d, e4, _, w4⟩ := DataW.trod_int Tryz.underlying3 f4
    obtain ⟨s, e5, y5, w5⟩ := DataW.trod_string Tryz.underlying9 f5
    simp at e0 e1 e2 e3 e4 e5
    subst e0 e1 e2 e3 e4 e5
    refine ⟨(k, ⟨a, b, c, d, s, c6, c7, c8, c9, c10, c11, c12, c13⟩), rfl, wf_i64 w1, wf_i64 w3, ?_⟩
    have m : (ys[5]'(by omega)).1 ∈ ys.map (·.1) := List.mem_map.2 ⟨_, List.getElem_mem _, rfl⟩
    have q := bulk_mem m
    rw [y5] at q
    simp only [Rows.uptoBulk, Array.length_toList] at q ⊢
    show s.data.size + 1 ≤ _
    omega

theorem bulk_sum (f : Nat → Int × OpV) (D : Nat → DataW H) (l : List Nat) (h : ∀ i ∈ l, (f i).2.s.size + 1 ≤ Rows.uptoBulk (D i)) : ((l.map f).map fun o => o.2.s.size + 1).sum ≤ Rows.uptoBulkAll (l.map D) := by
  induction l with
  | nil => simp [Rows.uptoBulkAll]
  | cons x r ih =>
    have h1 := h x (by simp)
    have h2 := ih fun i m => h i (by simp [m])
    simp only [List.map_cons, List.sum_cons, Rows.uptoBulkAll]
    omega

/-- A script, read. -/
theorem read_script {v : Value} {d : DataW H} {p : List MemPlace} (h : DataW.Trod enc Tryz.prog W 0 (fun _ => true) true 22 v d p) {os : Option Addr} {len cap : Nat} (hv : v = .slice os len cap) (hk : Rows.uptoBulk d ≤ 1048576) :
    ∃ ops : List (Int × OpV), len = ops.length ∧ ScrAt W.heap.size W os ops ∧ ops.length ≤ 1048576 ∧ acc ops ops.length ≤ 1048576 ∧ (∀ op ∈ ops, -9223372036854775808 ≤ op.2.A ∧ op.2.A ≤ 9223372036854775807) ∧ (∀ op ∈ ops, -9223372036854775808 ≤ op.2.C ∧ op.2.C ≤ 9223372036854775807) := by
  subst hv
  obtain ⟨fuel, hf⟩ := h
  have none : len = 0 → ∃ ops : List (Int × OpV), len = ops.length ∧ ScrAt W.heap.size W os ops ∧ ops.length ≤ 1048576 ∧ acc ops ops.length ≤ 1048576 ∧ (∀ op ∈ ops, -9223372036854775808 ≤ op.2.A ∧ op.2.A ≤ 9223372036854775807) ∧ (∀ op ∈ ops, -9223372036854775808 ≤ op.2.C ∧ op.2.C ≤ 9223372036854775807) := fun e => ⟨[], by simpa using e, fun i op ho => by simp at ho, by simp, by simp [acc], by simp, by simp⟩
  rcases open_slice Tryz.underlying22 hf with ⟨hcs, _⟩ | ⟨a, len', cap', m, n, D, Pl, hcs, _, hl, hm, hmm, hx, hel⟩
  · simp [Value.cells] at hcs
    exact none hcs.2.1
  · simp [Value.cells] at hcs
    obtain ⟨rfl, rfl, rfl⟩ := hcs
    simp only [Prod.mk.injEq] at hx
    obtain ⟨rfl, _⟩ := hx
    have hs := bulk_slice ((List.range len).map D) ((List.range (m - len)).map fun j => D (len + j))
    have hlen : len ≤ 1048576 := by have := hs.1; simp at this; omega
    have hml : len ≤ m := by rw [hmm]; split <;> omega
    rw [cells61] at hel
    by_cases h0 : len = 0
    · exact none h0
    · have inh : Inhabited (Int × OpV) := ⟨(0, ⟨0, 0, 0, 0, ByteArray.empty, .bool false, .bool false, .bool false, .bool false, .bool false, .bool false, .bool false, .bool false⟩)⟩
      obtain ⟨f, hfn⟩ := choose_lt (α := Int × OpV) (n := len) (p := fun i o => W.cells? 0 (a.add (i * 14)) 14 = some (o.2.cells o.1).toList ∧ (-9223372036854775808 ≤ o.2.A ∧ o.2.A ≤ 9223372036854775807) ∧ (-9223372036854775808 ≤ o.2.C ∧ o.2.C ≤ 9223372036854775807) ∧ o.2.s.size + 1 ≤ Rows.uptoBulk (D i)) (fun i hi => by
        obtain ⟨cs', h1, h2⟩ := hel i (by omega)
        obtain ⟨o, e, q1, q2, q3⟩ := read_op h2
        exact ⟨o, by rw [h1, e], q1, q2, q3⟩)
      have cell : ∀ i, i < len → ∀ j, j < 14 → W.cell? ((a.add (i * 14)).add j) = ((f i).2.cells (f i).1).toList[j]? := fun i hi j hj => (World.cells?_some (hfn i hi).1).2.2 j hj
      have c0 := cell 0 (by omega) 0 (by omega)
      simp [Addr.add, OpV.cells] at c0
      obtain ⟨sb, so, rfl⟩ := plain_of_cell c0
      have hlt := World.block_lt_of_cell? W _ c0
      have mem : ∀ op ∈ (List.range len).map f, ∃ i, i < len ∧ op = f i := fun op ho => by
        obtain ⟨i, hi, rfl⟩ := List.mem_map.1 ho
        exact ⟨i, List.mem_range.1 hi, rfl⟩
      have hsum := bulk_sum f D (List.range len) (fun i hi => (hfn i (List.mem_range.1 hi)).2.2.2)
      refine ⟨(List.range len).map f, by simp, fun i op ho => ?_, by simpa using hlen, ?_, fun op ho => ?_, fun op ho => ?_⟩
      · rw [List.getElem?_map] at ho
        by_cases hi : i < len
        · rw [List.getElem?_range hi] at ho
          obtain rfl : f i = op := by simpa using ho
          refine ⟨sb, so, rfl, hlt, fun j u hu => ?_⟩
          have hj : j < 14 := by
            have := (Array.getElem?_eq_some_iff.1 hu).1
            simpa [OpV.cells] using this
          have := cell i hi j hj
          rw [add_plain', add_plain'] at this
          rw [this, Array.getElem?_toList, hu]
        · rw [List.getElem?_eq_none (by simp; omega)] at ho
          cases ho
      · unfold acc
        rw [List.take_length]
        omega
      · obtain ⟨i, hi, rfl⟩ := mem op ho
        exact (hfn i hi).2.1
      · obtain ⟨i, hi, rfl⟩ := mem op ho
        exact (hfn i hi).2.2.1
end
end Go.Proofs.YtfekelmldebplaaGreatDoor
