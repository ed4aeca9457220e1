import Derived.Test.YtfekelmldebplaaRows
import Derived.Test.YtfekelmldebplaaM
import Derived.ProofKit
import Derived.OpenShut
import Derived.ChangeOld
import Derived.JoinedCond
import Derived.Deep.Slices
import Derived.Deep.Strs
namespace Go.Proofs.Ytfekelmldebplaa
open Go.ChangeShapes Go.WideShapes Go.ChangeAt Go.RowKit Go.Deep

theorem ownK : ownKnob Try.prog.godebug = none := by kernel_rfl
theorem laidOut : laidOutB Try.prog = true := by kernel_rfl
theorem cells35 : Try.prog.cellsOf 32 = 3 := by kernel_rfl
theorem cells5 : Try.prog.cellsOf 5 = 1 := by kernel_rfl
theorem cells3 : Try.prog.cellsOf 3 = 1 := by kernel_rfl
theorem cells29 : Try.prog.cellsOf 26 = 1 := by kernel_rfl

/-! ### What the bound gives -/
theorem bulk_pos {H : Type} (d : DataW H) : 1 ≤ Rows.uptoBulk d := by
  cases d with
  | lit l => cases l <;> simp [Rows.uptoBulk]
  | nil => simp [Rows.uptoBulk]
  | ptr d => simp [Rows.uptoBulk]
  | slice elems spare => simp [Rows.uptoBulk]
  | agg parts => simp [Rows.uptoBulk]
  | iface t d => simp [Rows.uptoBulk]
  | map entries => simp [Rows.uptoBulk]
  | held h => simp [Rows.uptoBulk]
theorem bulk_len {H : Type} (l : List (DataW H)) : l.length ≤ Rows.uptoBulkAll l := by
  induction l with
  | nil => simp [Rows.uptoBulkAll]
  | cons x r ih =>
    have := bulk_pos x
    simp only [Rows.uptoBulkAll, List.length_cons]
    omega
theorem bulk_mem {H : Type} {d : DataW H} {l : List (DataW H)} (h : d ∈ l) : Rows.uptoBulk d ≤ Rows.uptoBulkAll l := by
  induction l with
  | nil => cases h
  | cons x r ih =>
    simp only [Rows.uptoBulkAll]
    rcases List.mem_cons.1 h with e | e
    · subst e; omega
    · have := ih e; omega
theorem bulk_slice {H : Type} (l s : List (DataW H)) : l.length ≤ Rows.uptoBulk (.slice l s) ∧ Rows.uptoBulkAll l ≤ Rows.uptoBulk (.slice l s) := by
  have := bulk_len l
  simp only [Rows.uptoBulk]
  omega
theorem bulk_three {H : Type} {a b c : DataW H} (hk : Rows.uptoSmall H [a, b, c] = true) : Rows.uptoBulk a ≤ 1048576 ∧ Rows.uptoBulk b ≤ 1048576 ∧ Rows.uptoBulk c ≤ 1048576 := by
  have h : Rows.uptoBulkAll [a, b, c] ≤ 1048576 := of_decide_eq_true hk
  simp only [Rows.uptoBulkAll] at h
  omega

theorem plain_of_cell {w : World} {a : Addr} {v : Value} (h : w.cell? a = some v) : ∃ b o, a = ⟨b, o, none⟩ := by
  obtain ⟨b, o, s⟩ := a
  refine ⟨b, o, ?_⟩
  cases s with
  | none => rfl
  | some s =>
    exfalso
    unfold World.cell? at h
    split at h
    · simp at h
    · cases h
theorem add_plain' (b o j : Nat) : (⟨b, o, none⟩ : Addr).add j = ⟨b, o + j, none⟩ := by unfold Addr.add; split <;> simp_all

theorem wf_i64 {n : Int} (h : (Lit.int .i64 n).wf = true) : -9223372036854775808 ≤ n ∧ n ≤ 9223372036854775807 := by
  simpa [Lit.wf, IntKind.min, IntKind.max, IntKind.signed, IntKind.bits] using h
theorem wf_u8 {n : Int} (h : (Lit.int .u8 n).wf = true) : 0 ≤ n ∧ n ≤ 255 := by
  simpa [Lit.wf, IntKind.min, IntKind.max, IntKind.signed, IntKind.bits] using h

section
variable {H : Type} {enc : TypeId × Value → H} {W : World}

/-- A slice of bytes, read: the bytes lie there. -/
theorem read_bytes {fuel : Nat} {cs : List Value} {x : DataW H × List MemPlace} (h : DataW.trod enc Try.prog W 0 (fun _ => true) true fuel 26 cs = some x) :
    ∃ v xs, cs = [v] ∧ Lies W v xs ∧ Bys xs ∧ xs.length ≤ Rows.uptoBulk x.1 := by
  rcases open_ints Try.underlying26 Try.underlying5 cells5 h with ⟨hcs, hx⟩ | ⟨a, len, cap, zs, hcs, _, hl, hm, hz, hx, hcell, hwz⟩
  · exact ⟨_, [], hcs, .inl ⟨none, 0, rfl, rfl⟩, Bys.nil, by simp⟩
  · have hzl : len ≤ zs.length := by simp at hz; omega
    refine ⟨_, zs.take len, hcs, ?_, ?_, ?_⟩
    · by_cases h0 : len = 0
      · subst h0
        exact .inl ⟨some a, cap, rfl, by simp⟩
      · have c0 := hcell 0 (by omega)
        obtain ⟨b, o, e⟩ := plain_of_cell c0
        have ea : a = ⟨b, o, none⟩ := by simpa [Addr.add] using e
        subst ea
        have hlen : (zs.take len).length = len := by simp; omega
        refine .inr ⟨b, o, cap, by rw [hlen], by rw [hlen]; exact hl, .inr ?_, fun i hi => ?_⟩
        · have := World.block_lt_of_cell? W _ c0
          simpa [Addr.add] using this
        · rw [hlen] at hi
          have := hcell i (by omega)
          rw [add_plain'] at this
          rw [this, getD_take _ _ _ hi]
    · intro y hy
      have := wf_u8 (hwz y (List.mem_of_mem_take hy))
      omega
    · rw [hx]
      have := (bulk_slice (lits (H := H) .u8 (zs.take len)) (lits .u8 (zs.drop len))).1
      simpa [lits] using this

set_option maxRecDepth 100000 in
/-- One of what is sent, read. -/
theorem read_sent {fuel : Nat} {cs : List Value} {x : DataW H × List MemPlace} (h : DataW.trod enc Try.prog W 0 (fun _ => true) true fuel 32 cs = some x) (hk : Rows.uptoBulk x.1 ≤ 1048576) :
    ∃ m u v xs, cs = [.int .i64 m, .int .i64 u, v] ∧ SD.Ok W ⟨m, u, v, xs⟩ := by
  obtain ⟨y0, y1, y2, n, rfl, hl, h0, h1, h2⟩ := trod_struct3 Try.underlying32 h
  rw [cells35] at hl
  match cs, hl with
  | [c0, c1, c2], _ =>
    simp only [cells3, cells29, List.take_succ_cons, List.take_zero, List.drop] at h0 h1 h2
    obtain ⟨m, e0, _, w0⟩ := DataW.trod_int Try.underlying3 h0
    obtain ⟨u, e1, _, w1⟩ := DataW.trod_int Try.underlying3 h1
    obtain ⟨v, xs, e2, hli, hby, hbl⟩ := read_bytes h2
    have b0 := wf_i64 w0
    have b1 := wf_i64 w1
    have hb : Rows.uptoBulk y2.1 ≤ 1048576 := by
      have q : Rows.uptoBulk y2.1 ≤ Rows.uptoBulkAll [y0.1, y1.1, y2.1] := bulk_mem (by simp)
      simp only [Rows.uptoBulk] at hk
      omega
    refine ⟨m, u, v, xs, ?_, ⟨b0.1, b0.2, b1.1, b1.2, hli, hby, by show xs.length ≤ 140737488355328; omega⟩⟩
    simp at e0 e1 e2
    rw [e0, e1, e2]

/-- What is sent, read. -/
theorem read_all {v : Value} {d : DataW H} {p : List MemPlace} (h : DataW.Trod enc Try.prog W 0 (fun _ => true) true 22 v d p) {os : Option Addr} {len cap : Nat} (hv : v = .slice os len cap) (hk : Rows.uptoBulk d ≤ 1048576) :
    ∃ sb so ss, len = ss.length ∧ (os = some ⟨sb, so, none⟩ ∨ ss = []) ∧ SentAt W sb so ss ∧ ss.length ≤ 1048576 := by
  subst hv
  obtain ⟨fuel, hf⟩ := h
  rcases open_slice Try.underlying22 hf with ⟨hcs, _⟩ | ⟨a, len', cap', m, n, D, Pl, hcs, _, hl, hm, hmm, hx, hel⟩
  · simp [Value.cells] at hcs
    obtain ⟨rfl, rfl, rfl⟩ := hcs
    exact ⟨0, 0, [], rfl, .inr rfl, ⟨by simp, by simp, by simp, by simp, by simp⟩, by simp⟩
  · simp [Value.cells] at hcs
    obtain ⟨rfl, rfl, rfl⟩ := hcs
    simp only [Prod.mk.injEq] at hx
    obtain ⟨rfl, _⟩ := hx
    have hs := bulk_slice ((List.range len).map D) ((List.range (m - len)).map fun j => D (len + j))
    have hlen : len ≤ 1048576 := by have := hs.1; simp at this; omega
    have hml : len ≤ m := by rw [hmm]; split <;> omega
    rw [cells35] at hel
    by_cases h0 : len = 0
    · subst h0
      exact ⟨0, 0, [], rfl, .inr rfl, ⟨by simp, by simp, by simp, by simp, by simp⟩, by simp⟩
    · have hD : ∀ i, i < len → Rows.uptoBulk (D i) ≤ 1048576 := fun i hi => by
        have : Rows.uptoBulk (D i) ≤ Rows.uptoBulkAll ((List.range len).map D) := bulk_mem (List.mem_map.2 ⟨i, List.mem_range.2 hi, rfl⟩)
        omega
      obtain ⟨f, hfn⟩ := choose_lt (α := Int × Int × Value × List Int) (n := len) (p := fun i x => W.cells? 0 (a.add (i * 3)) 3 = some [.int .i64 x.1, .int .i64 x.2.1, x.2.2.1] ∧ SD.Ok W ⟨x.1, x.2.1, x.2.2.1, x.2.2.2⟩) (fun i hi => by
        obtain ⟨cs', h1, h2⟩ := hel i (by omega)
        obtain ⟨mk, u, v, xs, e, hok⟩ := read_sent h2 (hD i hi)
        exact ⟨(mk, u, v, xs), by rw [h1, e], hok⟩)
      have cell : ∀ i, i < len → ∀ j, j < 3 → W.cell? ((a.add (i * 3)).add j) = [Value.int .i64 (f i).1, .int .i64 (f i).2.1, (f i).2.2.1][j]? := fun i hi j hj => (World.cells?_some (hfn i hi).1).2.2 j hj
      have c0 := cell 0 (by omega) 0 (by omega)
      simp [Addr.add] at c0
      obtain ⟨sb, so, rfl⟩ := plain_of_cell c0
      have hlt := World.block_lt_of_cell? W _ c0
      have at_ : ∀ i s, ((List.range len).map fun i => (⟨(f i).1, (f i).2.1, (f i).2.2.1, (f i).2.2.2⟩ : SD))[i]? = some s → i < len ∧ s = ⟨(f i).1, (f i).2.1, (f i).2.2.1, (f i).2.2.2⟩ := fun i s hs => by
        rw [List.getElem?_map] at hs
        by_cases hi : i < len
        · rw [List.getElem?_range hi] at hs
          exact ⟨hi, by simpa using hs.symm⟩
        · rw [List.getElem?_eq_none (by simp; omega)] at hs
          cases hs
      refine ⟨sb, so, (List.range len).map fun i => ⟨(f i).1, (f i).2.1, (f i).2.2.1, (f i).2.2.2⟩, by simp, .inl rfl, ⟨fun _ => hlt, ?_, ?_, ?_, ?_⟩, by simpa using hlen⟩
      · intro i s hs
        obtain ⟨hi, rfl⟩ := at_ i s hs
        have := cell i hi 0 (by omega)
        rw [add_plain', add_plain'] at this
        simpa using this
      · intro i s hs
        obtain ⟨hi, rfl⟩ := at_ i s hs
        have := cell i hi 1 (by omega)
        rw [add_plain', add_plain'] at this
        simpa using this
      · intro i s hs
        obtain ⟨hi, rfl⟩ := at_ i s hs
        have := cell i hi 2 (by omega)
        rw [add_plain', add_plain'] at this
        simpa using this
      · intro s hs
        obtain ⟨i, hi, rfl⟩ := List.mem_map.1 hs
        exact (hfn i (List.mem_range.1 hi)).2

/-- Numbers, read. -/
theorem read_ints {v : Value} {d : DataW H} {p : List MemPlace} (h : DataW.Trod enc Try.prog W 0 (fun _ => true) true 23 v d p) {oc : Option Addr} {len cap : Nat} (hv : v = .slice oc len cap) (hk : Rows.uptoBulk d ≤ 1048576) :
    ∃ cb co cs, len = cs.length ∧ (oc = some ⟨cb, co, none⟩ ∨ cs = []) ∧ IntsAt W cb co cs ∧ cs.length ≤ 1048576 := by
  subst hv
  obtain ⟨fuel, hf⟩ := h
  rcases open_ints Try.underlying23 Try.underlying3 cells3 hf with ⟨hcs, _⟩ | ⟨a, len', cap', zs, hcs, _, hl, hm, hz, hx, hcell, hwz⟩
  · simp [Value.cells] at hcs
    obtain ⟨rfl, rfl, rfl⟩ := hcs
    exact ⟨0, 0, [], rfl, .inr rfl, ⟨by simp, by simp, by simp, by simp⟩, by simp⟩
  · simp [Value.cells] at hcs
    obtain ⟨rfl, rfl, rfl⟩ := hcs
    simp only [Prod.mk.injEq] at hx
    obtain ⟨rfl, _⟩ := hx
    have hzl : len ≤ zs.length := by simp at hz; omega
    have hlen : (zs.take len).length = len := by rw [List.length_take]; omega
    have hb := (bulk_slice (lits (H := H) .i64 (zs.take len)) (lits .i64 (zs.drop len))).1
    rw [show (lits (H := H) .i64 (zs.take len)).length = len by simp [lits]; omega] at hb
    have hrange : ∀ i, -9223372036854775808 ≤ (zs.take len).getD i 0 ∧ (zs.take len).getD i 0 ≤ 9223372036854775807 := fun i => by
      by_cases hi : i < (zs.take len).length
      · have := wf_i64 (hwz _ (List.mem_of_mem_take (List.getElem_mem hi)))
        simpa [List.getD, List.getElem?_eq_getElem hi] using this
      · simp [List.getD, List.getElem?_eq_none (Nat.le_of_not_lt hi)]
    by_cases h0 : len = 0
    · subst h0
      exact ⟨0, 0, [], rfl, .inr rfl, ⟨by simp, by simp, by simp, by simp⟩, by simp⟩
    · have c0 := hcell 0 (by omega)
      simp [Addr.add] at c0
      obtain ⟨cb, co, rfl⟩ := plain_of_cell c0
      refine ⟨cb, co, zs.take len, hlen.symm, .inl rfl, ⟨fun _ => World.block_lt_of_cell? W _ c0, fun i hi => ?_, fun i => (hrange i).1, fun i => (hrange i).2⟩, by omega⟩
      rw [hlen] at hi
      have := hcell i (by omega)
      rw [add_plain'] at this
      rw [this, getD_take _ _ _ hi]
end

set_option maxRecDepth 100000 in
theorem contract (H : Type) (enc : TypeId × Value → H) (W : World) (base : Nat) (args : Array Value) (ds gs : List (DataW H)) (before : List MemPlace)
    (hval : ∀ (j : Nat) t v, Try.f3.params[j]? = some t → args[j]? = some v → Value.okWide Try.prog W .any base t v)
    (hW : DataW.Whole enc Try.prog Try.f3.params.toList Rows.framedSpec.vars false W args.toList ds gs before) (hk : Rows.uptoSmall H (ds ++ gs) = true) :
    Calls Try.prog 3 args W fun e W' => ∃ v, e = .returned v ∧ Rows.framedSpec.post enc Try.prog Try.f3 false true false false W args v W' := by
  have hW' := hW
  obtain ⟨p, q, hA0, hV, rfl, hfz, hnd⟩ := hW
  have hA : DataW.TrodAll enc Try.prog W 0 (fun _ => true) true Try.f3.params.toList args.toList ds p := hA0
  rw [Try.params3] at hA hval
  obtain ⟨v0, vs0, d0, ds0, p0, q0, hargs, rfl, rfl, h0, r0⟩ := trodAll_cons hA
  obtain ⟨v1, vs1, d1, ds1, p1, q1, rfl, rfl, rfl, h1, r1⟩ := trodAll_cons r0
  obtain ⟨v2, vs2, d2, ds2, p2, q2, rfl, rfl, rfl, h2, r2⟩ := trodAll_cons r1
  obtain ⟨rfl, rfl, rfl⟩ := trodAll_nil r2
  obtain rfl : args = #[v0, v1, v2] := by cases args; simp_all
  obtain ⟨rfl, rfl⟩ := trodVars_none hV
  obtain ⟨os, len0, cap0, e0⟩ := okWide_slice Try.underlying22 (hval 0 22 v0 rfl rfl)
  obtain ⟨oc, len1, cap1, e1⟩ := okWide_slice Try.underlying23 (hval 1 23 v1 rfl rfl)
  have k0 := h0
  have k1 := h1
  have lt0 : ∀ x ∈ p0, x.block < W.heap.size := by obtain ⟨m, hm⟩ := k0; exact DataW.trod_lt m _ _ _ hm
  have lt1 : ∀ x ∈ p1, x.block < W.heap.size := by obtain ⟨m, hm⟩ := k1; exact DataW.trod_lt m _ _ _ hm
  obtain ⟨bad, rfl, rfl, rfl, w2⟩ := open_int Try.underlying3 (hval 2 3 v2 rfl rfl) h2
  clear hA0
  simp only [List.append_nil] at hW' hk
  have hbk := bulk_three hk
  obtain ⟨sb, so, ss, rfl, hos, hS, hsn⟩ := read_all h0 e0 hbk.1
  obtain ⟨cb, co, cs, rfl, hoc, hC, hcn⟩ := read_ints h1 e1 hbk.2.1
  have wb := wf_i64 w2
  subst e0 e1
  refine (framed_walk sb so cap0 ss cb co cap1 cs bad os oc W hos hoc hS hsn hC hcn wb.1 wb.2).mono fun e W' ⟨he, bel⟩ => ?_
  subst he
  exact ⟨_, rfl, _, _, _, [], _, [], hW', trodAll_mk1 (shut_bool Try.underlying4 _), (trodAll_cons_mk (Below.trod laidOut (by kernel_rfl) (of_decide_eq_true (by kernel_rfl)) k0 bel lt0) (trodAll_cons_mk (Below.trod laidOut (by kernel_rfl) (of_decide_eq_true (by kernel_rfl)) k1 bel lt1) (trodAll_cons_mk (shut_int Try.underlying3 w2) trodAll_mk0))), rfl, bel.frame _, fun h => by cases h⟩

set_option maxRecDepth 100000 in
theorem lifted (os : Os) (started : os.Started) (H : Type) (enc : TypeId × Value → H) (F : Stop.Interp) :
    ReturnsInHanded {} Try.checked os 3 .any ((Rows.OpenSpec.upto Rows.framedSpec).pre6 enc Try.prog Try.f3 Rows.framedUptoRow.domain false) (((Rows.OpenSpec.upto Rows.framedSpec).at F).post enc Try.prog Try.f3 false true false false) := by
  refine returnsInHanded_of_cond (C := Try.checked) (s := Rows.OpenSpec.upto Rows.framedSpec) (k := Rows.uptoSmall) rfl ownK started (by kernel_rfl) Try.func3
    (OpenSpec.witness (enc := enc) (C := Try.checked) (s := Rows.OpenSpec.upto Rows.framedSpec) (k := Rows.uptoSmall) rfl false ⟨#[], #[.slice none 0 0, .slice none 0 0, .int .i64 0], []⟩ 8 (by kernel_rfl) (by kernel_rfl) (by kernel_rfl)
      (x := ([.nil, .nil, .lit (.int .i64 0)], [], [])) (by kernel_rfl) rfl (by kernel_rfl)) ?_
  intro W base args ds gs before hval hW _ hk _
  exact contract H enc W base args ds gs before hval hW hk

theorem framed_holds : Rows.FramedUptoSaid :=
  OpenClaim.holds_of_cond 3 Try.f3 rfl rfl rfl rfl rfl rfl rfl ⟨rfl, rfl, rfl, rfl, rfl⟩ rfl rfl rfl rfl rfl (by kernel_rfl) Try.func3 (by kernel_rfl)
    (of_decide_eq_true (by kernel_rfl)) (by unfold Func.isWrapper; first | (rw [if_pos (by decide +kernel)]; kernel_rfl) | (rw [if_neg (by decide +kernel)]; exact ⟨rfl, rfl⟩))
    (fun os started H enc _ F => lifted os started H enc F)
end Go.Proofs.Ytfekelmldebplaa
