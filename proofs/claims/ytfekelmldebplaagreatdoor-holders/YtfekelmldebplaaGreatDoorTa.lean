import Derived.Test.YtfekelmldebplaaGreatDoorSk
import Derived.Laws.CopyOwn
import Derived.BigRegion
namespace Go.Proofs.YtfekelmldebplaaGreatDoor
open Go.RowKit

/-- A table, as it lies: its struct's block e, its entries' block g. -/
structure TabAt (w : World) (e g : Nat) (T : TypeId) (hi : Int) (L : List Int) : Prop where
  row : w.heap[e]? = some (.cells #[.slice (some ⟨g, 0, none⟩) L.length L.length, .int .i64 hi] T (0, 0))
  ent : w.heap[g]? = some (.cells (L.map (Value.int .i64)).toArray 3 (0, 0))
  len : L.length ≤ 200

/-- Numbers, as they lie under a slice. -/
def LiesI (w : World) (v : Value) (xs : List Int) : Prop := ∃ a c, v = .slice a xs.length c ∧ (xs = [] ∨ ∃ b o, a = some ⟨b, o, none⟩ ∧ b < w.heap.size ∧ ∀ i, i < xs.length → w.cell? ⟨b, o + i, none⟩ = some (.int .i64 (xs.getD i 0)))

def hasB (n : Nat) (a c : Int) : Bool := decide (0 ≤ a) && (decide (0 ≤ c) && decide (c ≤ (n : Int) - a))

set_option maxHeartbeats 400000 in
theorem has_any (w : World) (e g : Nat) (T : TypeId) (hi : Int) (L : List Int) (a c : Int) (h : TabAt w e g T hi L) (ha : a ≤ 9223372036854775807) :
    Calls Tryz.prog 261 #[.pointer (some ⟨e, 0, none⟩), .int .i64 a, .int .i64 c] w fun r w' => r = .returned (.bool (hasB L.length a c)) ∧ Below w.heap.size w w' := by
  have c0 := cell_of_row _ _ 0 _ _ _ h.row
  simp at c0
  have hl := h.len
  clear h
  by_cases h0 : 0 ≤ a
  · have hw : IntKind.i64.wrap ((L.length : Int) - a) = (L.length : Int) - a := by simp [IntKind.wrap, IntKind.bits, IntKind.signed]; omega
    by_cases h1 : 0 ≤ c
    · go_enter Tryz.func261, Tryz.ntmps261
      go_wp2
      go_ret
      exact ⟨ret_bool (by simp [hasB, h0, h1]), Below.refl _ _⟩
    · have h1' : decide (0 ≤ c) = false := by simpa using h1
      go_enter Tryz.func261, Tryz.ntmps261
      go_wp2
      go_ret
      exact ⟨ret_bool (by simp [hasB, h0, h1']), Below.refl _ _⟩
  · have h0' : decide (0 ≤ a) = false := by simpa using h0
    go_enter Tryz.func261, Tryz.ntmps261
    go_wp2
    go_ret
    exact ⟨ret_bool (by simp [hasB, h0']), Below.refl _ _⟩

theorem info3 : (Tryz.prog.info? 3).map (fun i => (i.zero, i.size, i.bytes)) = some (some (.int .i64 0), 1, 8) := by kernel_rfl
theorem makesI (n : Nat) (hn : n ≤ 1000000000) (u : World) : (Instr.makeSlice 24 (.int .i64 (n : Int)) (.int .i64 (n : Int))).run Tryz.prog u = .ok (.slice (some ⟨u.heap.size, 0, none⟩) n n) (u.alloc (.cells (madeCells #[.int .i64 0] n) 3)) := by
  obtain ⟨i0, hi, hz0, hz1, hz2⟩ := info_parts info3
  have := run_make (P := Tryz.prog) (w := u) 24 3 i0 (.int .i64 0) Tryz.underlying24 hi hz0 .i64 .i64 (n : Int) (n : Int) (by omega) (by omega) (by rw [hz2]; omega) (by omega)
  rw [hz1] at this
  simpa [Value.cells] using this
theorem made_ints (n : Nat) : madeCells #[.int .i64 0] n = ((List.replicate n (0 : Int)).map (Value.int .i64)).toArray := by
  apply Array.ext
  · simp [madeCells]
  · intro i h1 h2
    simp [madeCells, Nat.mod_one]

set_option maxHeartbeats 400000 in
theorem newBits_any (n : Nat) (w : World) (hn : n ≤ 200) :
    Calls Tryz.prog 115 #[.int .i64 n] w fun r w' => ∃ e g, r = .returned (.pointer (some ⟨e, 0, none⟩)) ∧ w.heap.size ≤ e ∧ w.heap.size ≤ g ∧ e < w'.heap.size ∧ g < w'.heap.size ∧ e ≠ g ∧ TabAt w' e g 299 1 (List.replicate n 0) ∧ Below w.heap.size w w' := by
  have hm := makesI n (by omega)
  have hmm := made_ints n
  have HM := hide hmm
  clear hmm
  generalize hZ : madeCells #[.int .i64 0] n = Z at HM hm
  clear hZ
  go_enter Tryz.func115, Tryz.ntmps115
  go_wp2
  go_ret
  refine ⟨w.heap.size + 1, w.heap.size, rfl, by omega, by omega, by simp, by simp; omega, by omega, ⟨?_, ?_, by simpa using hn⟩, ((Below.refl _ _).alloc (Nat.le_refl _) _).alloc (by simp) _⟩
  · rw [List.length_replicate]
    have := heap_alloc_new (w.alloc (.cells Z 3)) (.cells #[.slice (some ⟨w.heap.size, 0, none⟩) n n, .int .i64 1] 299)
    simpa using this
  · rw [Below.heap_alloc _ _ _ (by simp), heap_alloc_new, unhide HM]

set_option maxHeartbeats 400000 in
theorem newWords_any (n : Nat) (w : World) (hn : n ≤ 200) :
    Calls Tryz.prog 116 #[.int .i64 n] w fun r w' => ∃ e g, r = .returned (.pointer (some ⟨e, 0, none⟩)) ∧ w.heap.size ≤ e ∧ w.heap.size ≤ g ∧ e < w'.heap.size ∧ g < w'.heap.size ∧ e ≠ g ∧ TabAt w' e g 300 65535 (List.replicate n 0) ∧ Below w.heap.size w w' := by
  have hm := makesI n (by omega)
  have hmm := made_ints n
  have HM := hide hmm
  clear hmm
  generalize hZ : madeCells #[.int .i64 0] n = Z at HM hm
  clear hZ
  go_enter Tryz.func116, Tryz.ntmps116
  go_wp2
  go_ret
  refine ⟨w.heap.size + 1, w.heap.size, rfl, by omega, by omega, by simp, by simp; omega, by omega, ⟨?_, ?_, by simpa using hn⟩, ((Below.refl _ _).alloc (Nat.le_refl _) _).alloc (by simp) _⟩
  · rw [List.length_replicate]
    have := heap_alloc_new (w.alloc (.cells Z 3)) (.cells #[.slice (some ⟨w.heap.size, 0, none⟩) n n, .int .i64 65535] 300)
    simpa using this
  · rw [Below.heap_alloc _ _ _ (by simp), heap_alloc_new, unhide HM]

def allowsB (hi : Int) (xs : List Int) : Bool := xs.all fun x => decide (0 ≤ x) && decide (x ≤ hi)
theorem allowsB_next (hi : Int) (xs : List Int) (k : Nat) (hk : k < xs.length) : allowsB hi (xs.drop k) = ((decide (0 ≤ xs.getD k 0) && decide (xs.getD k 0 ≤ hi)) && allowsB hi (xs.drop (k + 1))) := by
  rw [List.drop_eq_getElem_cons hk]
  simp only [allowsB, List.all_cons, List.getD, List.getElem?_eq_getElem hk, Option.getD_some]

set_option maxRecDepth 10000 in
set_option maxHeartbeats 400000 in
theorem allows_any (w : World) (e g : Nat) (T : TypeId) (hi : Int) (L : List Int) (v : Value) (xs : List Int) (h : TabAt w e g T hi L) (hx : LiesI w v xs) (hn : xs.length ≤ 1000000000) :
    Calls Tryz.prog 259 #[.pointer (some ⟨e, 0, none⟩), v] w fun r w' => r = .returned (.bool (allowsB hi xs)) ∧ Below w.heap.size w w' := by
  have c1 := cell_of_row _ _ 1 _ _ _ h.row
  simp at c1
  have lt := (Array.getElem?_eq_some_iff.1 h.row).1
  clear h
  obtain ⟨a, c, rfl, hl⟩ := hx
  have HL := hide hl
  clear hl
  go_enter Tryz.func259, Tryz.ntmps259
  go_wp2
  go_loopw [9] (fun i wr => ∃ k : Nat, k ≤ xs.length ∧ i = .int .i64 k ∧ Hid (allowsB hi xs = allowsB hi (xs.drop k)) ∧ Below w.heap.size w wr) (fun i _ => xs.length - (intOf i).toNat)
  case atStart => exact ⟨0, by omega, rfl, hide rfl, Below.refl _ _⟩
  case round =>
    obtain ⟨k, hk, rfl, hA, hb⟩ := hrel
    by_cases hlt : k < xs.length
    · obtain ⟨b, o, rfl, hbl, hc⟩ := (unhide HL).resolve_left (fun e => by rw [e] at hlt; simp at hlt)
      have ck := (hb.cell (by exact hbl)).trans (hc k hlt)
      have cw := (hb.cell (by exact lt)).trans c1
      have hNx := hide (allowsB_next hi xs k hlt)
      generalize xs.getD k 0 = y at ck hNx
      by_cases h0 : y < 0
      · go_wp2
        go_ret
        refine ⟨ret_bool ?_, hb⟩
        rw [unhide hA, unhide hNx]
        simp; omega
      · by_cases h1 : y ≤ hi
        · have h1' : decide (hi < y) = false := by simp; omega
          have h0' : decide (y < 0) = false := by simp; omega
          go_wp2
          go_roundw
          case rel =>
            refine ⟨k + 1, by omega, by go_num, ?_, hb⟩
            show _ = _
            rw [unhide hA, unhide hNx]
            simp; omega
          case measure => simp [intOf]; omega
        · have h1' : hi < y := by omega
          have h0' : decide (y < 0) = false := by simp; omega
          go_wp2
          go_ret
          refine ⟨ret_bool ?_, hb⟩
          rw [unhide hA, unhide hNx]
          simp; omega
    · obtain rfl : k = xs.length := by omega
      go_wp2
      go_ret
      refine ⟨ret_bool ?_, hb⟩
      rw [unhide hA]
      simp [allowsB]

theorem size3 : (Tryz.prog.info? 3).map (·.size) = some 1 := by kernel_rfl
theorem makesL (n : Nat) (hn : n ≤ 1000000000) (u : World) : (Instr.makeSlice 24 (.int .i64 (n : Int)) (.int .i64 (n : Int))).run Tryz.prog u = .ok (.slice (some ⟨u.heap.size, 0, none⟩) n n) (u.alloc (.cells ((List.replicate n (0 : Int)).map (Value.int .i64)).toArray 3)) := by
  rw [makesI n hn u, made_ints]
theorem splice_all {α : Type} (Z C : List α) (h : C.length = Z.length) : splice Z 0 C = C := by simp [splice, h]

set_option maxRecDepth 10000 in
set_option maxHeartbeats 400000 in
theorem getE_any (w : World) (e g : Nat) (T : TypeId) (hi : Int) (L : List Int) (a c : Nat) (h : TabAt w e g T hi L) (hac : a + c ≤ L.length) :
    Calls Tryz.prog 260 #[.pointer (some ⟨e, 0, none⟩), .int .i64 a, .int .i64 c] w fun r w' => ∃ k, r = .returned (.slice (some ⟨k, 0, none⟩) c c) ∧ w.heap.size ≤ k ∧ w'.heap[k]? = some (.cells (((L.drop a).take c).map (Value.int .i64)).toArray 3 (0, 0)) ∧ Below w.heap.size w w' := by
  have c0 := cell_of_row _ _ 0 _ _ _ h.row
  simp at c0
  have hl := h.len
  have lt := (Array.getElem?_eq_some_iff.1 h.row).1
  have ltg := (Array.getElem?_eq_some_iff.1 h.ent).1
  have HE := hide h.ent
  clear h
  have hm := makesL c (by omega)
  obtain ⟨Z, hZ⟩ : ∃ Z, Z = (List.replicate c (0 : Int)).map (Value.int .i64) := ⟨_, rfl⟩
  obtain ⟨C, hC⟩ : ∃ C, C = ((L.drop a).take c).map (Value.int .i64) := ⟨_, rfl⟩
  rw [← hZ] at hm
  rw [← hC]
  have zl : Z.length = c := by rw [hZ]; simp
  have cl : C.length = c := by rw [hC]; simp; omega
  have hA : (a : Int) ≤ (L.length : Int) := by omega
  have c0' : ((w.alloc (.cells Z.toArray 3))).cell? ⟨e, 0, none⟩ = some (.slice (some ⟨g, 0, none⟩) L.length L.length) := by
    rw [← c0]
    exact World.cell?_of_block (Below.heap_alloc _ _ _ lt)
  have HG : Hid ((w.alloc (.cells Z.toArray 3)).heap[w.heap.size]? = some (.cells Z.toArray 3 (0, 0))) := heap_alloc_new w _
  have HB : Hid (Below w.heap.size w (w.alloc (.cells Z.toArray 3))) := (Below.refl _ _).alloc (Nat.le_refl _) _
  have HS : Hid (∀ j v, C[j]? = some v → (w.alloc (.cells Z.toArray 3)).cell? ((⟨g, a, none⟩ : Addr).add j) = some v) := fun j v hj => by
    have e1 : (⟨g, a, none⟩ : Addr).add j = ⟨g, a + j, none⟩ := by unfold Addr.add; split <;> simp_all
    rw [e1, cell_of_row _ _ _ _ _ _ ((Below.heap_alloc _ _ _ ltg).trans (unhide HE))]
    have hjc : j < c := by
      have := (List.getElem?_eq_some_iff.1 hj).1
      omega
    rw [hC] at hj
    simp [hjc] at hj
    simpa using hj
  have H1 : Hid (∀ v ∈ C, v.oneCell' = true) := fun v hv => by
    rw [hC] at hv
    obtain ⟨x, _, rfl⟩ := List.mem_map.1 hv
    rfl
  have ZL := hide zl
  have CL := hide cl
  clear c0 hZ hC zl cl
  by_cases hLa : L.length = a
  · have hc0 : c = 0 := by omega
    have hrun := run_copy_none (P := Tryz.prog) (w.alloc (.cells Z.toArray 3)) 24 24 3 3 (some ⟨w.heap.size, 0, none⟩) (some ⟨g, 0, none⟩) c c 0 0 Tryz.underlying24 size3 (Nat.zero_min c)
    have hCZ : C = Z := by rw [List.eq_nil_of_length_eq_zero ((unhide CL).trans hc0), List.eq_nil_of_length_eq_zero ((unhide ZL).trans hc0)]
    have HCZ := hide hCZ
    clear hCZ hc0
    subst hLa
    go_enter Tryz.func260, Tryz.ntmps260
    go_wp2
    go_ret
    exact ⟨_, rfl, Nat.le_refl _, by rw [unhide HCZ]; exact unhide HG, unhide HB⟩
  · have hrun := run_copy_row (P := Tryz.prog) (w.alloc (.cells Z.toArray 3)) 24 24 3 3 w.heap.size 0 c c ⟨g, a, none⟩ (L.length - a) (L.length - a) Z.toArray 3 C Tryz.underlying24 size3 (unhide HG) (by rw [unhide CL]; show c = min _ _; omega) (unhide HS) (by rw [unhide CL]; simp [unhide ZL]) (unhide H1)
    have HR : Hid (((w.alloc (.cells Z.toArray 3)).setRow w.heap.size (Z.toArray.toList.take 0 ++ C ++ Z.toArray.toList.drop (0 + C.length)).toArray).heap[w.heap.size]? = some (.cells C.toArray 3 (0, 0))) := by
      show _ = _
      rw [setRow_heap _ _ _ _ _ _ (unhide HG)]
      simp [unhide CL, unhide ZL]
    have HB2 := hide (below_setRow (unhide HB) (Nat.le_refl _) (Z.toArray.toList.take 0 ++ C ++ Z.toArray.toList.drop (0 + C.length)).toArray)
    generalize (w.alloc (.cells Z.toArray 3)).setRow w.heap.size (Z.toArray.toList.take 0 ++ C ++ Z.toArray.toList.drop (0 + C.length)).toArray = W2 at hrun HR HB2
    have hA2 : (a : Int) < (L.length : Int) := by omega
    go_enter Tryz.func260, Tryz.ntmps260
    go_wp2
    go_ret
    exact ⟨_, rfl, Nat.le_refl _, unhide HR, unhide HB2⟩

/-- Entries that were set. -/
def setL (L : List Int) (a : Nat) (xs : List Int) : List Int := L.take a ++ xs ++ L.drop (a + xs.length)
theorem setL_len (L : List Int) (a : Nat) (xs : List Int) (h : a + xs.length ≤ L.length) : (setL L a xs).length = L.length := by simp [setL]; omega

set_option maxRecDepth 10000 in
set_option maxHeartbeats 400000 in
theorem setE_any (w : World) (e g : Nat) (T : TypeId) (hi : Int) (L : List Int) (a : Nat) (v : Value) (xs : List Int) (h : TabAt w e g T hi L) (hx : LiesI w v xs) (hac : a + xs.length ≤ L.length) (hne : e ≠ g) :
    Calls Tryz.prog 263 #[.pointer (some ⟨e, 0, none⟩), .int .i64 a, v] w fun r w' => r = .returned (.tuple #[]) ∧ TabAt w' e g T hi (setL L a xs) ∧ Chg w w' (fun k => k = g) := by
  have c0 := cell_of_row _ _ 0 _ _ _ h.row
  simp at c0
  have hl := h.len
  have H := hide h
  clear h
  obtain ⟨av, cv, rfl, hs⟩ := hx
  have hA : (a : Int) ≤ (L.length : Int) := by omega
  by_cases hn : xs = []
  · subst hn
    have e0 : setL L a [] = L := by simp [setL]
    have E0 := hide e0
    clear e0 hs hac
    by_cases hLa : L.length = a
    · subst hLa
      have hrun := run_copy_none (P := Tryz.prog) w 24 24 3 3 (some ⟨g, 0, none⟩) av 0 0 0 cv Tryz.underlying24 size3 rfl
      go_enter Tryz.func263, Tryz.ntmps263
      go_wp2
      refine bodyPost_end (v := .tuple #[]) (by simp [results, Tryz.results263]) rfl ⟨rfl, ?_, Chg.refl _ _⟩
      rw [unhide E0]
      exact unhide H
    · have hrun := run_copy_none (P := Tryz.prog) w 24 24 3 3 (some ⟨g, a, none⟩) av (L.length - a) (L.length - a) 0 cv Tryz.underlying24 size3 (Nat.zero_min _)
      have hA2 : (a : Int) < (L.length : Int) := by omega
      go_enter Tryz.func263, Tryz.ntmps263
      go_wp2
      refine bodyPost_end (v := .tuple #[]) (by simp [results, Tryz.results263]) rfl ⟨rfl, ?_, Chg.refl _ _⟩
      rw [unhide E0]
      exact unhide H
  · obtain ⟨b, o, rfl, hb, hc⟩ := hs.resolve_left hn
    have hp : 0 < xs.length := List.length_pos_iff.2 hn
    obtain ⟨C, hC⟩ : ∃ C, C = xs.map (Value.int .i64) := ⟨_, rfl⟩
    have cl : C.length = xs.length := by rw [hC]; simp
    have hrun := run_copy_row (P := Tryz.prog) w 24 24 3 3 g a (L.length - a) (L.length - a) ⟨b, o, none⟩ xs.length cv (L.map (Value.int .i64)).toArray 3 C Tryz.underlying24 size3 (unhide H).ent (by rw [cl]; show _ = min _ _; omega) (fun j u hj => by
        have hjc : j < xs.length := by have := (List.getElem?_eq_some_iff.1 hj).1; omega
        have e1 : (⟨b, o, none⟩ : Addr).add j = ⟨b, o + j, none⟩ := by unfold Addr.add; split <;> simp_all
        rw [e1, hc j hjc]
        rw [hC, List.getElem?_map, List.getElem?_eq_getElem hjc] at hj
        simpa [List.getD, List.getElem?_eq_getElem hjc] using hj) (by rw [cl]; simpa using hac) (fun u hu => by
        rw [hC] at hu
        obtain ⟨x, _, rfl⟩ := List.mem_map.1 hu
        rfl)
    have HR : Hid (∀ w', w' = w.setRow g ((L.map (Value.int .i64)).toArray.toList.take a ++ C ++ (L.map (Value.int .i64)).toArray.toList.drop (a + C.length)).toArray → TabAt w' e g T hi (setL L a xs) ∧ Chg w w' (fun k => k = g)) := by
      rintro w' rfl
      refine ⟨⟨?_, ?_, by rw [setL_len L a xs hac]; exact hl⟩, rfl, rfl, rfl, by simp [World.setRow], fun k _ q => setRow_other w g k _ (fun e => q e)⟩
      · rw [setRow_other w g e _ hne, setL_len L a xs hac]
        exact (unhide H).row
      · rw [setRow_heap _ _ _ _ _ _ (unhide H).ent, cl, hC]
        simp [setL]
    generalize hW : w.setRow g ((L.map (Value.int .i64)).toArray.toList.take a ++ C ++ (L.map (Value.int .i64)).toArray.toList.drop (a + C.length)).toArray = W2 at hrun HR
    have HR2 := hide (unhide HR W2 rfl)
    clear HR hc hC hW
    have hA2 : (a : Int) < (L.length : Int) := by omega
    go_enter Tryz.func263, Tryz.ntmps263
    go_wp2
    exact bodyPost_end (v := .tuple #[]) (by simp [results, Tryz.results263]) rfl ⟨rfl, unhide HR2⟩
end Go.Proofs.YtfekelmldebplaaGreatDoor
