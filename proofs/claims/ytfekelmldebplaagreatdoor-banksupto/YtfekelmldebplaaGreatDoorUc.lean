import Derived.Laws.CopyOwn
import Derived.BigRegion
import Derived.Test.YtfekelmldebplaaGreatDoorBb
set_option maxRecDepth 100000
set_option maxHeartbeats 8000000
namespace Go.Proofs.YtfekelmldebplaaGreatDoor
open Go.RowKit
structure TabAt (w : World) (e g : Nat) (T : TypeId) (hi : Int) (L : List Int) : Prop where
 row : w.heap[e]? = some (.cells #[.slice (some ⟨g, 0, none⟩) L.length L.length, .int .i64 hi] T (0, 0))
 ent : w.heap[g]? = some (.cells (L.map (Value.int .i64)).toArray 3 (0, 0))
 len : L.length ≤ 200
def cB (w : World) (v : Value) (xs : List Int) : Prop := ∃ a c, v = .slice a xs.length c ∧ (xs = [] ∨ ∃ b o, a = some ⟨b, o, none⟩ ∧ b < w.heap.size ∧ ∀ i, i < xs.length → w.cell? ⟨b, o + i, none⟩ = some (.int .i64 (xs.getD i 0)))
def hasB (n : Nat) (a c : Int) : Bool := decide (0 ≤ a) && (decide (0 ≤ c) && decide (c ≤ (n : Int) - a))
theorem nM (w : World) (e g : Nat) (T : TypeId) (hi : Int) (L : List Int) (a c : Int) (h : TabAt w e g T hi L) (ha : a ≤ 9223372036854775807) :
  Calls Tryz.prog 261 #[.pointer (some ⟨e, 0, none⟩), .int .i64 a, .int .i64 c] w fun r w' => r = .returned (.bool (hasB L.length a c)) ∧ Below w.heap.size w w' := by
 have c0 := cell_of_row _ _ 0 _ _ _ h.row
 simp at c0
 have hl := h.len
 clear h
 by_cases h0 : 0 ≤ a
 ·have hw : IntKind.i64.wrap ((L.length : Int) - a) = (L.length : Int) - a := by simp [IntKind.wrap, IntKind.bits, IntKind.signed]; omega
  by_cases h1 : 0 ≤ c
  ·go_enter Tryz.func261, Tryz.ntmps261
   go_wp2
   go_ret
   exact ⟨aV (by simp [hasB, h0, h1]), Below.refl _ _⟩
  ·have h1' : decide (0 ≤ c) = false := by simpa using h1
   go_enter Tryz.func261, Tryz.ntmps261
   go_wp2
   go_ret
   exact ⟨aV (by simp [hasB, h0, h1']), Below.refl _ _⟩
 ·have h0' : decide (0 ≤ a) = false := by simpa using h0
  go_enter Tryz.func261, Tryz.ntmps261
  go_wp2
  go_ret
  exact ⟨aV (by simp [hasB, h0']), Below.refl _ _⟩
theorem aHt : (Tryz.prog.info? 3).map (fun i => (i.zero, i.size, i.bytes)) = some (some (.int .i64 0), 1, 8) := by kernel_rfl
theorem yJ (n : Nat) (hn : n ≤ 1000000000) (u : World) : (Instr.makeSlice 24 (.int .i64 (n : Int)) (.int .i64 (n : Int))).run Tryz.prog u = .ok (.slice (some ⟨u.heap.size, 0, none⟩) n n) (u.alloc (.cells (madeCells #[.int .i64 0] n) 3)) := by
 obtain ⟨i0, hi, hz0, hz1, hz2⟩ := info_parts aHt
 have := run_make (P := Tryz.prog) (w := u) 24 3 i0 (.int .i64 0) Tryz.underlying24 hi hz0 .i64 .i64 (n : Int) (n : Int) (by omega) (by omega) (by rw [hz2]; omega) (by omega)
 rw [hz1] at this
 simpa [Value.cells] using this
theorem mJ (n : Nat) : madeCells #[.int .i64 0] n = ((List.replicate n (0 : Int)).map (Value.int .i64)).toArray := by
 apply Array.ext
 ·simp [madeCells]
 ·intro i h1 h2
  simp [madeCells, Nat.mod_one]
theorem vT (n : Nat) (w : World) (hn : n ≤ 200) :
  Calls Tryz.prog 115 #[.int .i64 n] w fun r w' => ∃ e g, r = .returned (.pointer (some ⟨e, 0, none⟩)) ∧ w.heap.size ≤ e ∧ w.heap.size ≤ g ∧ e < w'.heap.size ∧ g < w'.heap.size ∧ e ≠ g ∧ TabAt w' e g 299 1 (List.replicate n 0) ∧ Below w.heap.size w w' := by
 have hm := yJ n (by omega)
 have hmm := mJ n
 have HM := hide hmm
 clear hmm
 generalize hZ : madeCells #[.int .i64 0] n = Z at HM hm
 clear hZ
 go_enter Tryz.func115, Tryz.ntmps115
 go_wp2
 go_ret
 refine ⟨w.heap.size + 1, w.heap.size, rfl, by omega, by omega, by simp, by simp; omega, by omega, ⟨?_, ?_, by simpa using hn⟩, ((Below.refl _ _).alloc (Nat.le_refl _) _).alloc (by simp) _⟩
 ·rw [List.length_replicate]
  have := heap_alloc_new (w.alloc (.cells Z 3)) (.cells #[.slice (some ⟨w.heap.size, 0, none⟩) n n, .int .i64 1] 299)
  simpa using this
 ·rw [Below.heap_alloc _ _ _ (by simp), heap_alloc_new, aA HM]
theorem sW (n : Nat) (w : World) (hn : n ≤ 200) :
  Calls Tryz.prog 116 #[.int .i64 n] w fun r w' => ∃ e g, r = .returned (.pointer (some ⟨e, 0, none⟩)) ∧ w.heap.size ≤ e ∧ w.heap.size ≤ g ∧ e < w'.heap.size ∧ g < w'.heap.size ∧ e ≠ g ∧ TabAt w' e g 300 65535 (List.replicate n 0) ∧ Below w.heap.size w w' := by
 have hm := yJ n (by omega)
 have hmm := mJ n
 have HM := hide hmm
 clear hmm
 generalize hZ : madeCells #[.int .i64 0] n = Z at HM hm
 clear hZ
 go_enter Tryz.func116, Tryz.ntmps116
 go_wp2
 go_ret
 refine ⟨w.heap.size + 1, w.heap.size, rfl, by omega, by omega, by simp, by simp; omega, by omega, ⟨?_, ?_, by simpa using hn⟩, ((Below.refl _ _).alloc (Nat.le_refl _) _).alloc (by simp) _⟩
 ·rw [List.length_replicate]
  have := heap_alloc_new (w.alloc (.cells Z 3)) (.cells #[.slice (some ⟨w.heap.size, 0, none⟩) n n, .int .i64 65535] 300)
  simpa using this
 ·rw [Below.heap_alloc _ _ _ (by simp), heap_alloc_new, aA HM]
def fC (hi : Int) (xs : List Int) : Bool := xs.all fun x => decide (0 ≤ x) && decide (x ≤ hi)
theorem tZ (hi : Int) (xs : List Int) (k : Nat) (hk : k < xs.length) : fC hi (xs.drop k) = ((decide (0 ≤ xs.getD k 0) && decide (xs.getD k 0 ≤ hi)) && fC hi (xs.drop (k + 1))) := by
 rw [List.drop_eq_getElem_cons hk]
 simp only [fC, List.all_cons, List.getD, List.getElem?_eq_getElem hk, Option.getD_some]
theorem zL (w : World) (e g : Nat) (T : TypeId) (hi : Int) (L : List Int) (v : Value) (xs : List Int) (h : TabAt w e g T hi L) (hx : cB w v xs) (hn : xs.length ≤ 1000000000) :
  Calls Tryz.prog 259 #[.pointer (some ⟨e, 0, none⟩), v] w fun r w' => r = .returned (.bool (fC hi xs)) ∧ Below w.heap.size w w' := by
 have c1 := cell_of_row _ _ 1 _ _ _ h.row
 simp at c1
 have lt := (Array.getElem?_eq_some_iff.1 h.row).1
 clear h
 obtain ⟨a, c, rfl, hl⟩ := hx
 have HL := hide hl
 clear hl
 go_enter Tryz.func259, Tryz.ntmps259
 go_wp2
 go_loopw [9] (fun i wr => ∃ k : Nat, k ≤ xs.length ∧ i = .int .i64 k ∧ Hid (fC hi xs = fC hi (xs.drop k)) ∧ Below w.heap.size w wr) (fun i _ => xs.length - (intOf i).toNat)
 case atStart => exact ⟨0, by omega, rfl, hide rfl, Below.refl _ _⟩
 case round =>
  obtain ⟨k, hk, rfl, hA, hb⟩ := hrel
  by_cases hlt : k < xs.length
  ·obtain ⟨b, o, rfl, hbl, hc⟩ := (aA HL).resolve_left (fun e => by rw [e] at hlt; simp at hlt)
   have ck := (hb.cell (by exact hbl)).trans (hc k hlt)
   have cw := (hb.cell (by exact lt)).trans c1
   have hNx := hide (tZ hi xs k hlt)
   generalize xs.getD k 0 = y at ck hNx
   by_cases h0 : y < 0
   ·go_wp2
    go_ret
    refine ⟨aV ?_, hb⟩
    rw [aA hA, aA hNx]
    simp; omega
   ·by_cases h1 : y ≤ hi
    ·have h1' : decide (hi < y) = false := by simp; omega
     have h0' : decide (y < 0) = false := by simp; omega
     go_wp2
     go_roundw
     case rel =>
      refine ⟨k + 1, by omega, by go_num, ?_, hb⟩
      show _ = _
      rw [aA hA, aA hNx]
      simp; omega
     case measure => simp [intOf]; omega
    ·have h1' : hi < y := by omega
     have h0' : decide (y < 0) = false := by simp; omega
     go_wp2
     go_ret
     refine ⟨aV ?_, hb⟩
     rw [aA hA, aA hNx]
     simp; omega
  ·obtain rfl : k = xs.length := by omega
   go_wp2
   go_ret
   refine ⟨aV ?_, hb⟩
   rw [aA hA]
   simp [fC]
theorem uO : (Tryz.prog.info? 3).map (·.size) = some 1 := by kernel_rfl
theorem oY (n : Nat) (hn : n ≤ 1000000000) (u : World) : (Instr.makeSlice 24 (.int .i64 (n : Int)) (.int .i64 (n : Int))).run Tryz.prog u = .ok (.slice (some ⟨u.heap.size, 0, none⟩) n n) (u.alloc (.cells ((List.replicate n (0 : Int)).map (Value.int .i64)).toArray 3)) := by
 rw [yJ n hn u, mJ]
theorem jT (w : World) (e g : Nat) (T : TypeId) (hi : Int) (L : List Int) (a c : Nat) (h : TabAt w e g T hi L) (hac : a + c ≤ L.length) :
  Calls Tryz.prog 260 #[.pointer (some ⟨e, 0, none⟩), .int .i64 a, .int .i64 c] w fun r w' => ∃ k, r = .returned (.slice (some ⟨k, 0, none⟩) c c) ∧ w.heap.size ≤ k ∧ w'.heap[k]? = some (.cells (((L.drop a).take c).map (Value.int .i64)).toArray 3 (0, 0)) ∧ Below w.heap.size w w' := by
 have c0 := cell_of_row _ _ 0 _ _ _ h.row
 simp at c0
 have hl := h.len
 have lt := (Array.getElem?_eq_some_iff.1 h.row).1
 have ltg := (Array.getElem?_eq_some_iff.1 h.ent).1
 have HE := hide h.ent
 clear h
 have hm := oY c (by omega)
 obtain ⟨Z, hZ⟩ : ∃ Z, Z = (List.replicate c (0 : Int)).map (Value.int .i64) := ⟨_, rfl⟩
 obtain ⟨C, hC⟩ : ∃ C, C = ((L.drop a).take c).map (Value.int .i64) := ⟨_, rfl⟩
 rw [← hZ] at hm
 rw [← hC]
 have zl : Z.length = c := by rw [hZ]; simp
 have cl : C.length = c := by rw [hC]; simp; omega
 have hA : (a : Int) ≤ (L.length : Int) := by omega
 have c0' : ((w.alloc (.cells Z.toArray 3))).cell? ⟨e, 0, none⟩ = some (.slice (some ⟨g, 0, none⟩) L.length L.length) := by
  rw [← c0]
  exact World.cell?_of_block (Below.heap_alloc _ _ _ lt)
 have HG : Hid ((w.alloc (.cells Z.toArray 3)).heap[w.heap.size]? = some (.cells Z.toArray 3 (0, 0))) := heap_alloc_new w _
 have HB : Hid (Below w.heap.size w (w.alloc (.cells Z.toArray 3))) := (Below.refl _ _).alloc (Nat.le_refl _) _
 have HS : Hid (∀ j v, C[j]? = some v → (w.alloc (.cells Z.toArray 3)).cell? ((⟨g, a, none⟩ : Addr).add j) = some v) := fun j v hj => by
  have e1 : (⟨g, a, none⟩ : Addr).add j = ⟨g, a + j, none⟩ := by unfold Addr.add; split <;> simp_all
  rw [e1, cell_of_row _ _ _ _ _ _ ((Below.heap_alloc _ _ _ ltg).trans (aA HE))]
  have hjc : j < c := by
   have := (List.getElem?_eq_some_iff.1 hj).1
   omega
  rw [hC] at hj
  simp [hjc] at hj
  simpa using hj
 have H1 : Hid (∀ v ∈ C, v.oneCell' = true) := fun v hv => by
  rw [hC] at hv
  obtain ⟨x, _, rfl⟩ := List.mem_map.1 hv
  rfl
 have ZL := hide zl
 have CL := hide cl
 clear c0 hZ hC zl cl
 by_cases hLa : L.length = a
 ·have hc0 : c = 0 := by omega
  have hrun := run_copy_none (P := Tryz.prog) (w.alloc (.cells Z.toArray 3)) 24 24 3 3 (some ⟨w.heap.size, 0, none⟩) (some ⟨g, 0, none⟩) c c 0 0 Tryz.underlying24 uO (Nat.zero_min c)
  have hCZ : C = Z := by rw [List.eq_nil_of_length_eq_zero ((aA CL).trans hc0), List.eq_nil_of_length_eq_zero ((aA ZL).trans hc0)]
  have HCZ := hide hCZ
  clear hCZ hc0
  subst hLa
  go_enter Tryz.func260, Tryz.ntmps260
  go_wp2
  go_ret
  exact ⟨_, rfl, Nat.le_refl _, by rw [aA HCZ]; exact aA HG, aA HB⟩
 ·have hrun := run_copy_row (P := Tryz.prog) (w.alloc (.cells Z.toArray 3)) 24 24 3 3 w.heap.size 0 c c ⟨g, a, none⟩ (L.length - a) (L.length - a) Z.toArray 3 C Tryz.underlying24 uO (aA HG) (by rw [aA CL]; show c = min _ _; omega) (aA HS) (by rw [aA CL]; simp [aA ZL]) (aA H1)
  have HR : Hid (((w.alloc (.cells Z.toArray 3)).setRow w.heap.size (Z.toArray.toList.take 0 ++ C ++ Z.toArray.toList.drop (0 + C.length)).toArray).heap[w.heap.size]? = some (.cells C.toArray 3 (0, 0))) := by
   show _ = _
   rw [setRow_heap _ _ _ _ _ _ (aA HG)]
   simp [aA CL, aA ZL]
  have HB2 := hide (below_setRow (aA HB) (Nat.le_refl _) (Z.toArray.toList.take 0 ++ C ++ Z.toArray.toList.drop (0 + C.length)).toArray)
  generalize (w.alloc (.cells Z.toArray 3)).setRow w.heap.size (Z.toArray.toList.take 0 ++ C ++ Z.toArray.toList.drop (0 + C.length)).toArray = W2 at hrun HR HB2
  have hA2 : (a : Int) < (L.length : Int) := by omega
  go_enter Tryz.func260, Tryz.ntmps260
  go_wp2
  go_ret
  exact ⟨_, rfl, Nat.le_refl _, aA HR, aA HB2⟩
def setL (L : List Int) (a : Nat) (xs : List Int) : List Int := L.take a ++ xs ++ L.drop (a + xs.length)
theorem fE (L : List Int) (a : Nat) (xs : List Int) (h : a + xs.length ≤ L.length) : (setL L a xs).length = L.length := by simp [setL]; omega
theorem nY (w : World) (e g : Nat) (T : TypeId) (hi : Int) (L : List Int) (a : Nat) (v : Value) (xs : List Int) (h : TabAt w e g T hi L) (hx : cB w v xs) (hac : a + xs.length ≤ L.length) (hne : e ≠ g) :
  Calls Tryz.prog 263 #[.pointer (some ⟨e, 0, none⟩), .int .i64 a, v] w fun r w' => r = .returned (.tuple #[]) ∧ TabAt w' e g T hi (setL L a xs) ∧ Chg w w' (fun k => k = g) := by
 have c0 := cell_of_row _ _ 0 _ _ _ h.row
 simp at c0
 have hl := h.len
 have H := hide h
 clear h
 obtain ⟨av, cv, rfl, hs⟩ := hx
 have hA : (a : Int) ≤ (L.length : Int) := by omega
 by_cases hn : xs = []
 ·subst hn
  have e0 : setL L a [] = L := by simp [setL]
  have E0 := hide e0
  clear e0 hs hac
  by_cases hLa : L.length = a
  ·subst hLa
   have hrun := run_copy_none (P := Tryz.prog) w 24 24 3 3 (some ⟨g, 0, none⟩) av 0 0 0 cv Tryz.underlying24 uO rfl
   go_enter Tryz.func263, Tryz.ntmps263
   go_wp2
   refine bodyPost_end (v := .tuple #[]) (by simp [results, Tryz.results263]) rfl ⟨rfl, ?_, Chg.refl _ _⟩
   rw [aA E0]
   exact aA H
  ·have hrun := run_copy_none (P := Tryz.prog) w 24 24 3 3 (some ⟨g, a, none⟩) av (L.length - a) (L.length - a) 0 cv Tryz.underlying24 uO (Nat.zero_min _)
   have hA2 : (a : Int) < (L.length : Int) := by omega
   go_enter Tryz.func263, Tryz.ntmps263
   go_wp2
   refine bodyPost_end (v := .tuple #[]) (by simp [results, Tryz.results263]) rfl ⟨rfl, ?_, Chg.refl _ _⟩
   rw [aA E0]
   exact aA H
 ·obtain ⟨b, o, rfl, hb, hc⟩ := hs.resolve_left hn
  have hp : 0 < xs.length := List.length_pos_iff.2 hn
  obtain ⟨C, hC⟩ : ∃ C, C = xs.map (Value.int .i64) := ⟨_, rfl⟩
  have cl : C.length = xs.length := by rw [hC]; simp
  have hrun := run_copy_row (P := Tryz.prog) w 24 24 3 3 g a (L.length - a) (L.length - a) ⟨b, o, none⟩ xs.length cv (L.map (Value.int .i64)).toArray 3 C Tryz.underlying24 uO (aA H).ent (by rw [cl]; show _ = min _ _; omega) (fun j u hj => by
    have hjc : j < xs.length := by have := (List.getElem?_eq_some_iff.1 hj).1; omega
    have e1 : (⟨b, o, none⟩ : Addr).add j = ⟨b, o + j, none⟩ := by unfold Addr.add; split <;> simp_all
    rw [e1, hc j hjc]
    rw [hC, List.getElem?_map, List.getElem?_eq_getElem hjc] at hj
    simpa [List.getD, List.getElem?_eq_getElem hjc] using hj) (by rw [cl]; simpa using hac) (fun u hu => by
    rw [hC] at hu
    obtain ⟨x, _, rfl⟩ := List.mem_map.1 hu
    rfl)
  have HR : Hid (∀ w', w' = w.setRow g ((L.map (Value.int .i64)).toArray.toList.take a ++ C ++ (L.map (Value.int .i64)).toArray.toList.drop (a + C.length)).toArray → TabAt w' e g T hi (setL L a xs) ∧ Chg w w' (fun k => k = g)) := by
   rintro w' rfl
   refine ⟨⟨?_, ?_, by rw [fE L a xs hac]; exact hl⟩, rfl, rfl, rfl, by simp [World.setRow], fun k _ q => setRow_other w g k _ (fun e => q e)⟩
   ·rw [setRow_other w g e _ hne, fE L a xs hac]
    exact (aA H).row
   ·rw [setRow_heap _ _ _ _ _ _ (aA H).ent, cl, hC]
    simp [setL]
  generalize hW : w.setRow g ((L.map (Value.int .i64)).toArray.toList.take a ++ C ++ (L.map (Value.int .i64)).toArray.toList.drop (a + C.length)).toArray = W2 at hrun HR
  have HR2 := hide (aA HR W2 rfl)
  clear HR hc hC hW
  have hA2 : (a : Int) < (L.length : Int) := by omega
  go_enter Tryz.func263, Tryz.ntmps263
  go_wp2
  exact bodyPost_end (v := .tuple #[]) (by simp [results, Tryz.results263]) rfl ⟨rfl, aA HR2⟩
theorem cB.below {w w' : World} {v : Value} {xs : List Int} (h : cB w v xs) (hb : Below w.heap.size w w') : cB w' v xs := by
 obtain ⟨a, c, rfl, h⟩ := h
 refine ⟨a, c, rfl, h.imp id fun ⟨b, o, e, hl, hc⟩ => ⟨b, o, e, Nat.lt_of_lt_of_le hl hb.size, fun i hi => (hb.cell (by exact hl)).trans (hc i hi)⟩⟩
theorem rV (xs ys : List Int) (t : Nat) (h1 : t < xs.length) (h2 : t < ys.length) (e : xs.take t = ys.take t) : xs.getD t 0 = ys.getD t 0 ↔ xs.take (t + 1) = ys.take (t + 1) := by
 have g1 : xs.getD t 0 = xs[t] := by simp [List.getD, List.getElem?_eq_getElem h1]
 have g2 : ys.getD t 0 = ys[t] := by simp [List.getD, List.getElem?_eq_getElem h2]
 have e1 : xs.take (t + 1) = xs.take t ++ [xs[t]] := by rw [List.take_add_one, List.getElem?_eq_getElem h1, Option.toList_some]
 have e2 : ys.take (t + 1) = ys.take t ++ [ys[t]] := by rw [List.take_add_one, List.getElem?_eq_getElem h2, Option.toList_some]
 rw [g1, g2, e1, e2, e]
 constructor
 ·intro h; rw [h]
 ·intro h
  have := List.append_cancel_left h
  simpa using this
theorem yK (n : Nat) (hn : n ≤ 1000000) (u : World) : (Instr.makeSlice 37 (.int .i64 (n : Int)) (.int .i64 (n : Int))).run Tryz.prog u = .ok (.slice (some ⟨u.heap.size, 0, none⟩) n n) (u.alloc (.cells ((List.replicate n (0 : Int)).map (Value.int .u8)).toArray 5)) := by
 obtain ⟨i0, hi, hz0, hz1, hz2⟩ := info_parts jS
 have h := run_make (P := Tryz.prog) (w := u) 37 5 i0 (.int .u8 0) Tryz.underlying37 hi hz0 .i64 .i64 (n : Int) (n : Int) (by omega) (by omega) (by rw [hz2]; omega) (by omega)
 have e : madeCells #[.int .u8 0] n = ((List.replicate n (0 : Int)).map (Value.int .u8)).toArray := by
  apply Array.ext
  ·simp [madeCells]
  ·intro i h1 h2
   simp [madeCells, Nat.mod_one]
 rw [← e]
 simpa [hz1, Value.cells] using h
def orB (b : Int) (r : Nat) : Int := bits BinOp.or IntKind.u8 b (2 ^ r % 256)
def cC (xs : List Int) (N : Nat) : Nat → List Int
 | 0 => List.replicate N 0
 | k + 1 => if xs.getD k 0 = 1 then (cC xs N k).set (k / 8) (orB ((cC xs N k).getD (k / 8) 0) (k % 8)) else cC xs N k
def iD (xs : List Int) : List Int := cC xs ((xs.length + 7) / 8) xs.length
theorem eZ (xs : List Int) (N k : Nat) : (cC xs N k).length = N := by
 induction k with
 | zero => simp [cC]
 | succ k ih =>
  unfold cC
  split
  ·simp [ih]
  ·exact ih
theorem rZ {w : World} {g q : Nat} {bs : List Int} {x : Int} (h : w.heap[g]? = some (.cells (bs.map (Value.int .u8)).toArray 5 (0, 0))) : (w.setCell ⟨g, q, none⟩ (.int .u8 x)).heap[g]? = some (.cells ((bs.set q x).map (Value.int .u8)).toArray 5 (0, 0)) := by
 rw [heap_setCell_same w g q _ 5 _ h, List.map_set]
 simp
theorem gO {w0 w : World} {g q : Nat} {v : Value} (h : Below w0.heap.size w0 w) (hg : w0.heap.size ≤ g) : Below w0.heap.size w0 (w.setCell ⟨g, q, none⟩ v) :=
 ⟨h.os, h.tape, h.output, by have := h.size; simpa [World.setCell] using this, fun k p => (heap_setCell_other _ _ _ _ (fun e => by have : k = g := e; omega)).trans (h.block k p)⟩
def eG (k o v : Nat) : Nat := (o &&& k) ||| (v &&& (65535 - k))
theorem not_and (v k : Nat) (hv : v < 65536) (hk : k < 65536) : v &&& (18446744073709551615 - k) = v &&& (65535 - k) := by
 apply Nat.eq_of_testBit_eq
 intro i
 rw [Nat.testBit_and, Nat.testBit_and]
 have e1 := Nat.testBit_two_pow_sub_succ (n := 64) (x := k) (by omega) i
 have e2 := Nat.testBit_two_pow_sub_succ (n := 16) (x := k) (by omega) i
 rw [show (2 : Nat) ^ 64 - (k + 1) = 18446744073709551615 - k by omega] at e1
 rw [show (2 : Nat) ^ 16 - (k + 1) = 65535 - k by omega] at e2
 rw [e1, e2]
 by_cases hi : i < 16
 ·simp [hi, show i < 64 by omega]
 ·have : v.testBit i = false := Nat.testBit_lt_two_pow (Nat.lt_of_lt_of_le hv (by rw [show 65536 = 2 ^ 16 from rfl]; exact Nat.pow_le_pow_right (by omega) (by omega)))
  simp [this]
theorem kH (n : Nat) (h : n < 65536) : (BitVec.ofInt 64 (n : Int)).toNat = n := by
 rw [BitVec.toNat_ofInt]
 omega
theorem kR (n : Nat) (h : n < 65536) : IntKind.i64.wrap (n : Int) = (n : Int) := by
 simp [IntKind.wrap, IntKind.bits, IntKind.signed]
 omega
theorem aAc (o k : Nat) (ho : o < 65536) (hk : k < 65536) : bits BinOp.and IntKind.i64 (o : Int) (k : Int) = ((o &&& k : Nat) : Int) := by
 show IntKind.i64.wrap ((BitVec.ofInt 64 (o : Int) &&& BitVec.ofInt 64 (k : Int)).toNat : Int) = _
 rw [BitVec.toNat_and, kH o (by omega), kH k (by omega)]
 exact kR _ (Nat.lt_of_le_of_lt Nat.and_le_left ho)
theorem aG2 (o k : Nat) (ho : o < 65536) (hk : k < 65536) : bits BinOp.or IntKind.i64 (o : Int) (k : Int) = ((o ||| k : Nat) : Int) := by
 show IntKind.i64.wrap ((BitVec.ofInt 64 (o : Int) ||| BitVec.ofInt 64 (k : Int)).toNat : Int) = _
 rw [BitVec.toNat_or, kH o (by omega), kH k (by omega)]
 exact kR _ (Nat.or_lt_two_pow (n := 16) ho hk)
theorem zK (v k : Nat) (hv : v < 65536) (hk : k < 65536) : bits BinOp.andNot IntKind.i64 (v : Int) (k : Int) = ((v &&& (65535 - k) : Nat) : Int) := by
 show IntKind.i64.wrap ((BitVec.ofInt 64 (v : Int) &&& ~~~ BitVec.ofInt 64 (k : Int)).toNat : Int) = _
 rw [BitVec.toNat_and, BitVec.toNat_not, kH v (by omega), kH k (by omega), show 2 ^ 64 - 1 - k = 18446744073709551615 - k by omega, not_and v k hv hk]
 exact kR _ (Nat.lt_of_le_of_lt Nat.and_le_left hv)
theorem oW (k o v : Nat) (ho : o < 65536) (hv : v < 65536) : eG k o v < 65536 := Nat.or_lt_two_pow (n := 16) (Nat.lt_of_le_of_lt Nat.and_le_left ho) (Nat.lt_of_le_of_lt Nat.and_le_left hv)
theorem yI (o v : Nat) (hv : v < 65536) : eG 0 o v = v := by
 unfold eG
 rw [Nat.and_zero, Nat.zero_or, show 65535 - 0 = 2 ^ 16 - 1 from rfl, Nat.and_two_pow_sub_one_eq_mod, Nat.mod_eq_of_lt hv]
def jF (k o v : Int) : Int := bits BinOp.or IntKind.i64 (bits BinOp.and IntKind.i64 o k) (bits BinOp.andNot IntKind.i64 v k)
theorem mI (k o v : Nat) (hk : k < 65536) (ho : o < 65536) (hv : v < 65536) : jF (k : Int) (o : Int) (v : Int) = (eG k o v : Int) := by
 unfold jF eG
 rw [aAc o k ho hk, zK v k hv hk]
 exact aG2 _ _ (Nat.lt_of_le_of_lt Nat.and_le_left ho) (Nat.lt_of_le_of_lt Nat.and_le_left hv)
theorem oX (o v : Int) (ho : 0 ≤ o ∧ o ≤ 65535) (hv : 0 ≤ v ∧ v ≤ 65535) : jF 0 o v = v := by
 obtain ⟨o, rfl⟩ := Int.eq_ofNat_of_zero_le ho.1
 obtain ⟨v, rfl⟩ := Int.eq_ofNat_of_zero_le hv.1
 have := mI 0 o v (by omega) (by omega) (by omega)
 rw [yI o v (by omega)] at this
 exact this
theorem aD7 (k o v : Int) (hk : 0 ≤ k ∧ k ≤ 65535) (ho : 0 ≤ o ∧ o ≤ 65535) (hv : 0 ≤ v ∧ v ≤ 65535) : 0 ≤ jF k o v ∧ jF k o v ≤ 65535 := by
 obtain ⟨o, rfl⟩ := Int.eq_ofNat_of_zero_le ho.1
 obtain ⟨v, rfl⟩ := Int.eq_ofNat_of_zero_le hv.1
 obtain ⟨k, rfl⟩ := Int.eq_ofNat_of_zero_le hk.1
 rw [mI k o v (by omega) (by omega) (by omega)]
 have := oW k o v (by omega) (by omega)
 omega
structure Req where
 f : Int
 t : Nat
 ra : Nat
 rc : Nat
 wa : Nat
 wc : Nat
 vals : List Int
 keep : Nat
 echo : List Int
def wAt (bs : List Int) (i : Nat) : Nat := (256 * bs.getD (2 * i) 0 + bs.getD (2 * i + 1) 0).toNat
def bY (bs : List Int) (n : Nat) : List Int := (List.range n).map fun i => (wAt bs i : Int)
def eN (bs : List Int) (n : Nat) : List Int := (List.range n).map fun i => bs.getD (i / 8) 0 / 2 ^ (i % 8) % 2
def bS (n most : Nat) : Bool := decide (1 ≤ n) && decide (n ≤ most)
def aW (f : Int) (bs : List Int) (t most : Nat) : Int ⊕ Req :=
 if bs.length = 4 ∧ bS (wAt bs 1) most = true then .inr ⟨f, t, wAt bs 0, wAt bs 1, 0, 0, [], 0, []⟩ else .inl 3
def dK (f : Int) (bs : List Int) : Int ⊕ Req :=
 if bs.length = 4 ∧ (wAt bs 1 = 0 ∨ wAt bs 1 = 65280) then .inr ⟨f, 0, 0, 0, wAt bs 0, 1, [((wAt bs 1 / 65280 : Nat) : Int)], 0, bs⟩ else .inl 3
def eD (f : Int) (bs : List Int) : Int ⊕ Req :=
 if bs.length = 4 then .inr ⟨f, 3, 0, 0, wAt bs 0, 1, [(wAt bs 1 : Int)], 0, bs⟩ else .inl 3
def eQ (f : Int) (bs : List Int) : Int ⊕ Req :=
 if 4 ≤ bs.length ∧ bS (wAt bs 1) 1968 = true ∧ bs.length = 5 + (wAt bs 1 + 7) / 8 ∧ bs.getD 4 0 = (((wAt bs 1 + 7) / 8 : Nat) : Int) then .inr ⟨f, 0, 0, 0, wAt bs 0, wAt bs 1, eN (bs.drop 5) (wAt bs 1), 0, bs.take 4⟩ else .inl 3
def eP (f : Int) (bs : List Int) : Int ⊕ Req :=
 if 4 ≤ bs.length ∧ bS (wAt bs 1) 123 = true ∧ bs.length = 5 + 2 * wAt bs 1 ∧ bs.getD 4 0 = ((2 * wAt bs 1 : Nat) : Int) then .inr ⟨f, 3, 0, 0, wAt bs 0, wAt bs 1, bY (bs.drop 5) (wAt bs 1), 0, bs.take 4⟩ else .inl 3
def dE (f : Int) (bs : List Int) : Int ⊕ Req :=
 if bs.length = 6 then .inr ⟨f, 3, wAt bs 0, 1, wAt bs 0, 1, [(wAt bs 2 : Int)], wAt bs 1, bs⟩ else .inl 3
def cM (f : Int) (bs : List Int) : Int ⊕ Req :=
 if 8 ≤ bs.length ∧ bS (wAt bs 1) 125 = true ∧ bS (wAt bs 3) 121 = true ∧ bs.length = 9 + 2 * wAt bs 3 ∧ bs.getD 8 0 = ((2 * wAt bs 3 : Nat) : Int) then .inr ⟨f, 3, wAt bs 0, wAt bs 1, wAt bs 2, wAt bs 3, bY (bs.drop 9) (wAt bs 3), 0, []⟩ else .inl 3
def aO (f : Int) (bs : List Int) : Int ⊕ Req :=
 if f = 1 then aW f bs 0 2000 else if f = 2 then aW f bs 1 2000 else if f = 3 then aW f bs 3 125 else if f = 4 then aW f bs 2 125
 else if f = 5 then dK f bs else if f = 6 then eD f bs else if f = 15 then eQ f bs else if f = 16 then eP f bs
 else if f = 22 then dE f bs else if f = 23 then cM f bs else .inl 1
theorem dU (bs : List Int) (h : Bys bs) (i : Nat) : wAt bs i < 65536 := by
 have a := h.at (2 * i)
 have b := h.at (2 * i + 1)
 unfold wAt
 omega
theorem rU (bs : List Int) (h : Bys bs) (i : Nat) : ((wAt bs i : Nat) : Int) = 256 * bs.getD (2 * i) 0 + bs.getD (2 * i + 1) 0 := by
 have a := h.at (2 * i)
 have b := h.at (2 * i + 1)
 unfold wAt
 omega
structure Req.Ok (q : Req) : Prop where
 t : q.t < 4
 ra : q.ra < 65536
 rc : q.rc ≤ 2000
 wa : q.wa < 65536
 wc : q.wc ≤ 1968
 len : q.vals.length = q.wc
 vals : ∀ x ∈ q.vals, 0 ≤ x ∧ x ≤ (if q.t ≤ 1 then 1 else 65535)
 keep : q.keep < 65536
 bit : q.t ≤ 1 → q.keep = 0
 echo : Bys q.echo
 elen : q.echo.length ≤ 300
theorem dZ (bs : List Int) (n : Nat) : (bY bs n).length = n := by simp [bY]
theorem mU (bs : List Int) (n : Nat) : (eN bs n).length = n := by simp [eN]
theorem nR (bs : List Int) (h : Bys bs) (n : Nat) : ∀ x ∈ bY bs n, 0 ≤ x ∧ x ≤ 65535 := fun x hx => by
 obtain ⟨i, _, rfl⟩ := List.mem_map.1 hx
 have := dU bs h i
 omega
theorem wR (bs : List Int) (n : Nat) : ∀ x ∈ eN bs n, 0 ≤ x ∧ x ≤ 1 := fun x hx => by
 obtain ⟨i, _, rfl⟩ := List.mem_map.1 hx
 have : 0 ≤ bs.getD (i / 8) 0 / 2 ^ (i % 8) % 2 := Int.emod_nonneg _ (by omega)
 have : bs.getD (i / 8) 0 / 2 ^ (i % 8) % 2 < 2 := Int.emod_lt_of_pos _ (by omega)
 omega
theorem cZ (f : Int) (bs : List Int) (h : Bys bs) (hl : bs.length ≤ 252) (q : Req) (e : aO f bs = .inr q) : q.Ok := by
 have w0 := dU bs h 0
 have w1 := dU bs h 1
 have w2 := dU bs h 2
 have w3 := dU bs h 3
 have rd : ∀ t m, t < 4 → m ≤ 2000 → aW f bs t m = .inr q → q.Ok := fun t m ht hm e => by
  unfold aW at e
  split at e
  ·rename_i hc
   have hc2 := hc.2
   simp [bS] at hc2
   cases e
   exact ⟨ht, w0, by simp; omega, by simp, by simp, rfl, by simp, by simp, fun _ => rfl, Bys.nil, by simp⟩
  ·cases e
 unfold aO at e
 split at e
 ·exact rd _ _ (by omega) (by omega) e
 split at e
 ·exact rd _ _ (by omega) (by omega) e
 split at e
 ·exact rd _ _ (by omega) (by omega) e
 split at e
 ·exact rd _ _ (by omega) (by omega) e
 split at e
 ·unfold dK at e
  split at e
  ·cases e
   exact ⟨by simp, by simp, by simp, w0, by simp, rfl, by simp; omega, by simp, fun _ => rfl, h, by simp; omega⟩
  ·cases e
 split at e
 ·unfold eD at e
  split at e
  ·cases e
   exact ⟨by simp, by simp, by simp, w0, by simp, rfl, by simp; omega, by simp, fun _ => rfl, h, by simp; omega⟩
  ·cases e
 split at e
 ·unfold eQ at e
  split at e
  ·rename_i hc
   have hc2 := hc.2.1
   simp [bS] at hc2
   cases e
   exact ⟨by simp, by simp, by simp, w0, by simp; omega, mU _ _, fun x hx => by simpa using wR _ _ x hx, by simp, fun _ => rfl, h.take 4, by simp; omega⟩
  ·cases e
 split at e
 ·unfold eP at e
  split at e
  ·rename_i hc
   have hc2 := hc.2.1
   simp [bS] at hc2
   cases e
   exact ⟨by simp, by simp, by simp, w0, by simp; omega, dZ _ _, fun x hx => by simpa using nR _ (h.drop 5) _ x hx, by simp, fun _ => rfl, h.take 4, by simp; omega⟩
  ·cases e
 split at e
 ·unfold dE at e
  split at e
  ·cases e
   exact ⟨by simp, w0, by simp, w0, by simp, rfl, by simp; omega, w1, fun e => by simp at e, h, by simp; omega⟩
  ·cases e
 split at e
 ·unfold cM at e
  split at e
  ·rename_i hc
   have hc1 := hc.2.1
   have hc2 := hc.2.2.1
   simp [bS] at hc1 hc2
   cases e
   exact ⟨by simp, w0, by simp; omega, w2, by simp; omega, dZ _ _, fun x hx => by simpa using nR _ (h.drop 9) _ x hx, by simp, fun _ => rfl, Bys.nil, by simp⟩
  ·cases e
 ·cases e
def cU (old vals : List Int) (keep : Nat) : List Int := (List.range old.length).map fun i => jF (keep : Int) (old.getD i 0) (vals.getD i 0)
theorem iZ (old vals : List Int) (keep : Nat) : (cU old vals keep).length = old.length := by simp [cU]
def cV (t : Nat) (xs : List Int) : List Int := if t ≤ 1 then iD xs else dH xs
def bM (L : List Int) (a n : Nat) : List Int := (L.drop a).take n
def bI (L : List Int) (q : Req) : List Int := setL L q.wa (cU (bM L q.wa q.wc) q.vals q.keep)
def dS (q : Req) (p : List Int) : List Int := if q.echo = [] then q.f :: (p.length : Int) :: p else q.f :: q.echo
def Rule.over (x : Rule) (t ad : Int) : Bool := decide (x.t = t) && (decide (x.lo ≤ ad) && decide (ad ≤ x.hi))
def lets (wr : Bool) (x : Rule) : Bool := if wr then x.w else x.r
def mayB (wr : Bool) (rs : List Rule) (t a : Int) (n : Nat) : Bool := (List.range n).all fun k => rs.any (fun x => lets wr x && x.over t (a + k))
def excL (n : Nat) (rs : List Rule) (q : Req) : Int :=
 if (hasB n q.ra q.rc && hasB n q.wa q.wc) = true then (if (mayB false rs q.t q.ra q.rc && mayB true rs q.t q.wa q.wc) = true then 0 else 4) else 2
theorem fN (n : Nat) (m : Nat) (w : World) : Calls Tryz.prog 217 #[.int .i64 n, .int .i64 m] w fun e w' => e = .returned (.bool (bS n m)) ∧ w' = w := by
 by_cases h0 : 1 ≤ n
 ·have h0' : decide ((1 : Int) ≤ (n : Int)) = true := by simp; omega
  go_enter Tryz.func217, Tryz.ntmps217
  go_wp2
  go_ret
  exact ⟨aV (by simp [bS, h0]), rfl⟩
 ·have h0' : decide ((1 : Int) ≤ (n : Int)) = false := by simp; omega
  go_enter Tryz.func217, Tryz.ntmps217
  go_wp2
  go_ret
  exact ⟨aV (by simp [bS, h0]), rfl⟩
def dN (w : World) (f x : Int) : Nat → Value → Prop
 | 0, v => ∃ r, v = .iface 154 (.pointer (some ⟨r, 0, none⟩)) ∧ w.heap[r]? = some (.cells #[.int .u8 f, .int .u8 x] 216 (0, 0))
 | n + 1, v => ∃ l s u, v = .iface 278 (.pointer (some ⟨l, 0, none⟩)) ∧ w.heap[l]? = some (.cells #[.string s, u] 280 (0, 0)) ∧ dN w f x n u
theorem dN.below {w w' : World} {f x : Int} (hb : Below w.heap.size w w') : ∀ {n : Nat} {v : Value}, dN w f x n v → dN w' f x n v
 | 0, _, ⟨r, e, h⟩ => ⟨r, e, (hb.block _ (Array.getElem?_eq_some_iff.1 h).1).trans h⟩
 | _ + 1, _, ⟨l, s, u, e, h, k⟩ => ⟨l, s, u, e, (hb.block _ (Array.getElem?_eq_some_iff.1 h).1).trans h, dN.below hb k⟩
theorem dN.iface {w : World} {f x : Int} {n : Nat} {v : Value} (h : dN w f x n v) : ∃ T p, v = .iface T (.pointer (some ⟨p, 0, none⟩)) := by
 cases n with
 | zero => obtain ⟨r, e, _⟩ := h; exact ⟨_, _, e⟩
 | succ n => obtain ⟨l, s, u, e, _⟩ := h; exact ⟨_, _, e⟩
theorem eW (s : ByteArray) (v : Value) (f x : Int) (n : Nat) (w : World) (h : dN w f x n v) : Calls Tryz.prog 106 #[.string s, v] w fun e w' => ∃ v', e = .returned v' ∧ dN w' f x (n + 1) v' ∧ Below w.heap.size w w' := by
 obtain ⟨T, p, rfl⟩ := h.iface
 have H := hide h
 clear h
 go_enter Tryz.func106, Tryz.ntmps106
 go_wp2
 go_ret
 have hb : Below w.heap.size w (w.alloc (.cells #[.string s, .iface T (.pointer (some ⟨p, 0, none⟩))] 280)) := (Below.refl _ _).alloc (Nat.le_refl _) _
 exact ⟨_, rfl, ⟨w.heap.size, s, _, rfl, heap_alloc_new w _, (aA H).below hb⟩, hb⟩
def rrow (f t ra rc wa wc : Int) (vv : Value) (k : Int) (ve : Value) : Array Value := #[.int .u8 f, .int .i64 t, .int .i64 ra, .int .i64 rc, .int .i64 wa, .int .i64 wc, vv, .int .i64 k, ve]
theorem gB (f t ra rc wa wc : Int) (vv : Value) (k : Int) (ve : Value) (x : Int) (w : World) : Calls Tryz.prog 189 #[.agg (rrow f t ra rc wa wc vv k ve), .int .u8 x] w fun e w' => ∃ v', e = .returned v' ∧ dN w' f x 0 v' ∧ Below w.heap.size w w' := by
 unfold rrow
 go_enter Tryz.func189, Tryz.ntmps189
 go_wp2
 go_ret
 have hb : Below w.heap.size w (w.alloc (.cells #[.int .u8 f, .int .i64 t, .int .i64 ra, .int .i64 rc, .int .i64 wa, .int .i64 wc, vv, .int .i64 k, ve] 273)) := (Below.refl _ _).alloc (Nat.le_refl _) _
 exact ⟨_, rfl, ⟨_, rfl, by have q := heap_alloc_new (w.alloc (.cells #[.int .u8 f, .int .i64 t, .int .i64 ra, .int .i64 rc, .int .i64 wa, .int .i64 wc, vv, .int .i64 k, ve] 273)) (.cells #[.int .u8 f, .int .u8 x] 216); simpa using q⟩, hb.alloc hb.size _⟩
structure RAt (w : World) (rp : Nat) (f t ra rc wa wc : Int) (vv : Value) (k : Int) (ve : Value) : Prop where
 row : w.heap[rp]? = some (.cells (rrow f t ra rc wa wc vv k ve) 273 (0, 0))
theorem lP (rp : Nat) (f t ra rc wa wc : Int) (vv : Value) (k : Int) (ve : Value) (s : ByteArray) (w : World) (h : RAt w rp f t ra rc wa wc vv k ve) : Calls Tryz.prog 219 #[.pointer (some ⟨rp, 0, none⟩), .string s] w fun e w' => ∃ n v', e = .returned v' ∧ dN w' f 3 n v' ∧ Below w.heap.size w w' := by
 have c0 := cell_of_row _ _ 0 _ _ _ h.row
 have c1 := cell_of_row _ _ 1 _ _ _ h.row
 have c2 := cell_of_row _ _ 2 _ _ _ h.row
 have c3 := cell_of_row _ _ 3 _ _ _ h.row
 have c4 := cell_of_row _ _ 4 _ _ _ h.row
 have c5 := cell_of_row _ _ 5 _ _ _ h.row
 have c6 := cell_of_row _ _ 6 _ _ _ h.row
 have c7 := cell_of_row _ _ 7 _ _ _ h.row
 have c8 := cell_of_row _ _ 8 _ _ _ h.row
 simp [rrow] at c0 c1 c2 c3 c4 c5 c6 c7 c8
 clear h
 go_enter Tryz.func219, Tryz.ntmps219
 go_wp2_with fail
 refine (gB f t ra rc wa wc vv k ve 3 w).mono ?_
 rintro e w1 ⟨v1, rfl, h1, hb1⟩
 obtain ⟨T, p, rfl⟩ := h1.iface
 have H1 := hide h1
 clear h1 c0 c1 c2 c3 c4 c5 c6 c7 c8
 go_wp2_with fail
 refine (eW s _ f 3 0 w1 (aA H1)).mono ?_
 rintro e w2 ⟨v2, rfl, h2, hb2⟩
 obtain ⟨T2, p2, rfl⟩ := h2.iface
 have H2 := hide h2
 clear h2
 go_wp2
 go_ret
 exact ⟨_, _, rfl, aA H2, aD hb1 hb2⟩
theorem bW (rp : Nat) (f t ra rc wa wc : Int) (vv : Value) (k : Int) (ve : Value) (w : World) (h : RAt w rp f t ra rc wa wc vv k ve) : Calls Tryz.prog 216 #[.pointer (some ⟨rp, 0, none⟩)] w fun e w' => ∃ n v', e = .returned v' ∧ dN w' f 3 n v' ∧ Below w.heap.size w w' := by
 have HW := hide (fun s => lP rp f t ra rc wa wc vv k ve s w h)
 clear h
 go_enter Tryz.func216, Tryz.ntmps216
 go_wp2_with fail
 refine (aA HW _).mono ?_
 rintro e w1 ⟨n, v1, rfl, h1, hb1⟩
 obtain ⟨T, p, rfl⟩ := h1.iface
 have H1 := hide h1
 clear h1 HW
 go_wp2
 go_ret
 exact ⟨_, _, rfl, aA H1, hb1⟩
theorem eR (rp : Nat) (f t ra rc wa wc : Int) (vv : Value) (k : Int) (ve : Value) (w : World) (h : RAt w rp f t ra rc wa wc vv k ve) : Calls Tryz.prog 218 #[.pointer (some ⟨rp, 0, none⟩)] w fun e w' => ∃ n v', e = .returned v' ∧ dN w' f 3 n v' ∧ Below w.heap.size w w' := by
 have HW := hide (fun s => lP rp f t ra rc wa wc vv k ve s w h)
 clear h
 go_enter Tryz.func218, Tryz.ntmps218
 go_wp2_with fail
 refine (aA HW _).mono ?_
 rintro e w1 ⟨n, v1, rfl, h1, hb1⟩
 obtain ⟨T, p, rfl⟩ := h1.iface
 have H1 := hide h1
 clear h1 HW
 go_wp2
 go_ret
 exact ⟨_, _, rfl, aA H1, hb1⟩
theorem lO (n : Nat) (w : World) (hn : n ≤ 1000000) : Calls Tryz.prog 223 #[.int .i64 n] w fun e w' => e = .returned (.int .i64 (2 * (n : Int))) ∧ w' = w := by
 go_enter Tryz.func223, Tryz.ntmps223
 go_wp2
 go_ret
 exact ⟨rfl, rfl⟩
theorem kY (n N : Nat) (w : World) (hn : n ≤ 1000000) (hN : 2 * n = N) : Calls Tryz.prog 223 #[.int .i64 n] w fun e w' => e = .returned (.int .i64 (N : Int)) ∧ w' = w := by
 refine (lO n w hn).mono ?_
 rintro e w ⟨rfl, rfl⟩
 exact ⟨fL (by omega), rfl⟩
theorem rK (n N : Nat) (w : World) (hn : n ≤ 1000000) (hN : (n + 7) / 8 = N) : Calls Tryz.prog 221 #[.int .i64 n] w fun e w' => e = .returned (.int .i64 N) ∧ w' = w := by
 have h1 : ((n : Int) + 7) / 8 = (N : Int) := by omega
 clear hN
 go_enter Tryz.func221, Tryz.ntmps221
 go_wp2
 go_ret
 exact ⟨fL (by omega), rfl⟩
theorem pV (v : Value) (xs : List Int) (w : World) (h : cB w v xs) (hx : ∀ x ∈ xs, 0 ≤ x ∧ x ≤ 65535) (hn : xs.length ≤ 1000) :
  Calls Tryz.prog 266 #[v] w fun e w' => ∃ v', e = .returned v' ∧ Owns w' w.heap.size v' (dH xs) ∧ Below w.heap.size w w' := by
 obtain ⟨a, c, rfl, hl⟩ := h
 have HL := hide hl
 have HX := hide hx
 clear hl hx
 have hmk : ∀ u : World, (Instr.makeSlice 37 (.int .i64 0) (.int .i64 (2 * (xs.length : Int)))).run Tryz.prog u = .ok (.slice (some ⟨u.heap.size, 0, none⟩) 0 (2 * xs.length)) (u.alloc (.cells (madeCells #[.int .u8 0] (2 * xs.length)) 5)) := fun u => by
  rw [show 2 * (xs.length : Int) = ((2 * xs.length : Nat) : Int) by omega]
  exact aHs _ (by omega) u
 have O0 : Hid (Owns (w.alloc (.cells (madeCells #[.int .u8 0] (2 * xs.length)) 5)) w.heap.size (.slice (some ⟨w.heap.size, 0, none⟩) 0 (2 * xs.length)) []) := World.ownsRow_made w _ _ (Nat.le_refl _) (by unfold maxLen; omega) (by rw [size_madeCells]; omega)
 have HB0 : Hid (Below w.heap.size w (w.alloc (.cells (madeCells #[.int .u8 0] (2 * xs.length)) 5))) := (Below.refl _ _).alloc (Nat.le_refl _) _
 generalize madeCells #[.int .u8 0] (2 * xs.length) = Z at hmk O0 HB0
 go_enter Tryz.func266, Tryz.ntmps266
 go_wp2_with (go_at_call 223; refine (lO _ _ (by omega)).mono ?_; rintro e w ⟨rfl, rfl⟩)
 go_loopw [3, 12] (fun v i wr => ∃ k : Nat, k ≤ xs.length ∧ i = .int .i64 k ∧ Hid (v = .slice (some ⟨w.heap.size, 0, none⟩) (2 * k) (2 * xs.length) ∧ Owns wr w.heap.size (.slice (some ⟨w.heap.size, 0, none⟩) (2 * k) (2 * xs.length)) (dH (xs.take k))) ∧ Hid (Below w.heap.size w wr)) (fun v i _ => xs.length - (intOf i).toNat)
 case atStart => exact ⟨0, by omega, rfl, ⟨rfl, aA O0⟩, HB0⟩
 case round =>
  obtain ⟨k, hk, rfl, HVO, HB⟩ := hrel
  obtain ⟨rfl, HO1⟩ := aA HVO
  have HO := hide HO1
  clear HO1 HVO
  by_cases hlt : k < xs.length
  ·obtain ⟨b, o, rfl, hbl, hcc⟩ := (aA HL).resolve_left (fun e => by rw [e] at hlt; simp at hlt)
   have ck := ((aA HB).cell (by exact hbl)).trans (hcc k hlt)
   have hy := aA HX (xs.getD k 0) (by simp [List.getD, List.getElem?_eq_getElem hlt])
   have HN : Hid (dH (xs.take (k + 1)) = dH (xs.take k) ++ wd (xs.getD k 0)) := by
    show _ = _
    unfold dH
    rw [List.take_add_one, List.getElem?_eq_getElem hlt, Option.toList_some, List.flatMap_append]
    simp only [List.flatMap_cons, List.flatMap_nil, List.append_nil, List.getD, List.getElem?_eq_getElem hlt, Option.getD_some]
   have hwl := gQ (xs.take k)
   rw [List.length_take, Nat.min_eq_left (by omega)] at hwl
   generalize xs.getD k 0 = y at ck hy HN
   have HC := hide (pR w.heap.size (2 * k) (2 * xs.length) _ w.heap.size y wr hy.1 hy.2 hwl.symm (aA HO) (by omega))
   clear hwl hcc
   go_wp2_with fail
   refine (aA HC).mono ?_
   rintro r w2 ⟨rfl, ho2, hg2⟩
   have HO2 := hide ho2
   have HB2 := hide (Below.ofGrown (aA HB) hg2 (by have := (aA HB).size; omega) (Nat.le_refl _))
   clear ho2 hg2 HC
   go_wp2
   go_roundw
   case rel =>
    refine ⟨k + 1, by omega, by go_num, ?_, HB2⟩
    show _ ∧ Owns _ _ _ _
    rw [aA HN, show 2 * (k + 1) = 2 * k + 2 by omega]
    exact ⟨rfl, aA HO2⟩
   case measure => simp [intOf]; omega
  ·obtain rfl : k = xs.length := by omega
   go_wp2
   go_ret
   refine ⟨_, rfl, ?_, aA HB⟩
   have := aA HO
   rw [List.take_length] at this
   exact this
theorem jN {w : World} {g q : Nat} {L : List Int} {x : Int} (h : w.heap[g]? = some (.cells (L.map (Value.int .i64)).toArray 3 (0, 0))) : (w.setCell ⟨g, q, none⟩ (.int .i64 x)).heap[g]? = some (.cells ((L.set q x).map (Value.int .i64)).toArray 3 (0, 0)) := by
 rw [heap_setCell_same w g q _ 3 _ h, List.map_set]
 simp
theorem dP {w : World} {g : Nat} {L : List Int} (h : w.heap[g]? = some (.cells (L.map (Value.int .i64)).toArray 3 (0, 0))) (k : Nat) (hk : k < L.length) : w.cell? ⟨g, k, none⟩ = some (.int .i64 (L.getD k 0)) := by
 rw [cell_of_row _ _ k _ _ _ h]
 simp [List.getD, List.getElem?_eq_getElem hk]
theorem kT (g : Nat → Int) (n k : Nat) (hk : k < n) : ((List.range k).map g ++ List.replicate (n - k) 0).set k (g k) = (List.range (k + 1)).map g ++ List.replicate (n - (k + 1)) 0 := by
 rw [List.set_append_right _ _ (by simp), List.range_succ, List.map_append, show n - k = (n - (k + 1)) + 1 by omega, List.replicate_succ]
 simp
theorem mM (g : Nat → Int) (n : Nat) : (List.range n).map g ++ List.replicate (n - n) 0 = (List.range n).map g := by simp
theorem nE (v : Value) (bs : List Int) (n : Nat) (w : World) (h : Lies w v bs) (hx : Bys bs) (hn : 2 * n ≤ bs.length) (hm : n ≤ 1000) :
  Calls Tryz.prog 224 #[v, .int .i64 n] w fun e w' => ∃ g, e = .returned (.slice (some ⟨g, 0, none⟩) n n) ∧ w.heap.size ≤ g ∧ w'.heap[g]? = some (.cells ((bY bs n).map (Value.int .i64)).toArray 3 (0, 0)) ∧ Below w.heap.size w w' := by
 have hmk := oY n (by omega)
 obtain ⟨a, c, rfl⟩ : ∃ a c, v = .slice a bs.length c := by
  rcases h with ⟨a, c, rfl, rfl⟩ | ⟨b, o, c, rfl, _⟩
  ·exact ⟨_, _, rfl⟩
  ·exact ⟨_, _, rfl⟩
 have H := hide h
 have HX := hide hx
 clear h hx
 have HR0 : Hid ((w.alloc (.cells ((List.replicate n (0 : Int)).map (Value.int .i64)).toArray 3)).heap[w.heap.size]? = some (.cells (((List.range 0).map (fun i => (wAt bs i : Int)) ++ List.replicate (n - 0) 0).map (Value.int .i64)).toArray 3 (0, 0))) := heap_alloc_new w _
 have HB0 : Hid (Below w.heap.size w (w.alloc (.cells ((List.replicate n (0 : Int)).map (Value.int .i64)).toArray 3))) := (Below.refl _ _).alloc (Nat.le_refl _) _
 generalize (List.replicate n (0 : Int)).map (Value.int .i64) = Z at hmk HR0 HB0
 go_enter Tryz.func224, Tryz.ntmps224
 go_wp2
 go_loopw [11] (fun i wr => ∃ k : Nat, k ≤ n ∧ i = .int .i64 k ∧ Hid (wr.heap[w.heap.size]? = some (.cells (((List.range k).map (fun i => (wAt bs i : Int)) ++ List.replicate (n - k) 0).map (Value.int .i64)).toArray 3 (0, 0))) ∧ Hid (Below w.heap.size w wr)) (fun i _ => n - (intOf i).toNat)
 case atStart => exact ⟨0, by omega, rfl, HR0, HB0⟩
 case round =>
  obtain ⟨k, hk, rfl, HR, HB⟩ := hrel
  by_cases hlt : k < n
  ·obtain ⟨b, o, c2, e1, _, hbl, hcc⟩ := (aA H).shape (fun e => by rw [e] at hn; simp at hn; omega)
   cases e1
   have r0 := (aA HX).at (2 * k)
   have r1 := (aA HX).at (2 * k + 1)
   have HK : Hid (∀ w', Below w.heap.size w w' → Below w.heap.size w w' ∧ w'.cell? ⟨b, o + 2 * k, none⟩ = some (.int .u8 (bs.getD (2 * k) 0)) ∧ w'.cell? ⟨b, o + (2 * k + 1), none⟩ = some (.int .u8 (bs.getD (2 * k + 1) 0))) := fun w' h => ⟨h, (h.cell (by exact hbl)).trans (hcc _ (by omega)), (h.cell (by exact hbl)).trans (hcc _ (by omega))⟩
   have HE : Hid (256 * bs.getD (2 * k) 0 + bs.getD (2 * k + 1) 0 = (wAt bs k : Int)) := (rU bs (aA HX) k).symm
   generalize bs.getD (2 * k) 0 = x0 at HK r0 HE
   generalize bs.getD (2 * k + 1) 0 = x1 at HK r1 HE
   have q : ∃ z, wr.cell? ⟨w.heap.size, k, none⟩ = some (.int .i64 z) := ⟨_, dP (aA HR) k (by simp; omega)⟩
   obtain ⟨z, q⟩ := q
   have f := frozen_of_row _ _ k _ _ (aA HR)
   have HS := hide (jN (q := k) (x := (wAt bs k : Int)) (aA HR))
   rw [kT (fun i => (wAt bs i : Int)) n k hlt, ← aA HE] at HS
   have HS2 := hide (gO (q := k) (v := .int .i64 (256 * x0 + x1)) (aA HB) (Nat.le_refl _))
   clear hcc HE
   have HJ : ∃ j, Hid (2 * k = j) := ⟨_, rfl⟩
   obtain ⟨j, HJ⟩ := HJ
   rw [aA HJ] at HK
   have hk1 : (j : Int) + 1 < (bs.length : Int) := by have := aA HJ; omega
   have hk2 : (j : Int) < (bs.length : Int) := by omega
   have hk3 : (j : Int) + 1 ≤ 100000 := by have := aA HJ; omega
   have hk4 : (k : Int) < (n : Int) := by omega
   have hkm : k ≤ 1000000 := by omega
   have hwj : IntKind.i64.wrap ((j : Int) + 1) = (j : Int) + 1 := by
    simp [IntKind.wrap, IntKind.bits, IntKind.signed]
    omega
   have hj0 : (0 : Int) ≤ (j : Int) + 1 := by omega
   have hjt : ((j : Int) + 1).toNat = j + 1 := by omega
   go_wp2_with fail
   go_region_held3 (fun w' => Below w.heap.size w w' ∧ w'.cell? ⟨b, o + j, none⟩ = some (.int .u8 x0) ∧ w'.cell? ⟨b, o + (j + 1), none⟩ = some (.int .u8 x1))
    ((refine aA HK _ ?_; repeat (first
      | exact aA HB
      | exact And.left (by assumption)
      | refine Below.drew ?_
      | refine gO ?_ (by omega))))
    (first
      | (go_at_call 223; refine (kY _ _ _ hkm (aA HJ)).mono ?_; rintro e w2 ⟨rfl, rfl⟩)
      | (go_at_call 199; refine (aBv _ _ _ r0.1 r0.2 r1.1 r1.2).mono ?_; rintro e w2 ⟨rfl, rfl⟩)
      | fail)
   go_wp2
   go_roundw
   case rel => exact ⟨k + 1, by omega, by go_num, aA HS, (aA HS2).drew⟩
   case measure => simp [intOf]; omega
  ·obtain rfl : k = n := by omega
   go_wp2
   go_ret
   refine ⟨_, rfl, Nat.le_refl _, ?_, aA HB⟩
   have := aA HR
   rw [mM] at this
   exact this
theorem aDu (b : Int) (h0 : 0 ≤ b) (h1 : b < 256) : bits BinOp.or IntKind.u8 b 0 = b := by
 obtain ⟨b, rfl⟩ := Int.eq_ofNat_of_zero_le h0
 show IntKind.u8.wrap ((BitVec.ofInt 8 (b : Int) ||| BitVec.ofInt 8 0).toNat : Int) = _
 have e : (BitVec.ofInt 8 (b : Int)).toNat = b := by
  rw [BitVec.toNat_ofInt]
  omega
 rw [BitVec.toNat_or, e]
 simp [IntKind.wrap, IntKind.bits, IntKind.signed]
 omega
theorem aG3 (a b : Int) : 0 ≤ bits BinOp.or IntKind.u8 a b ∧ bits BinOp.or IntKind.u8 a b < 256 := by
 have : bits BinOp.or IntKind.u8 a b = IntKind.u8.wrap ((BitVec.ofInt 8 a ||| BitVec.ofInt 8 b).toNat : Int) := rfl
 rw [this]
 simp [IntKind.wrap, IntKind.bits, IntKind.signed]
 omega
theorem aDr (xs : List Int) (N k : Nat) : ∀ y ∈ cC xs N k, 0 ≤ y ∧ y < 256 := by
 induction k with
 | zero =>
  intro y hy
  simp [cC] at hy
  omega
 | succ k ih =>
  intro y hy
  unfold cC at hy
  split at hy
  ·rcases List.mem_or_eq_of_mem_set hy with h | rfl
   ·exact ih y h
   ·exact aG3 _ _
  ·exact ih y hy
theorem tQ (v : Value) (M : List Int) (w : World) (h : cB w v M) (hM : ∀ x ∈ M, x = 0 ∨ x = 1) (hn : M.length ≤ 2000) :
  Calls Tryz.prog 264 #[v] w fun e w' => ∃ v', e = .returned v' ∧ Owns w' w.heap.size v' (iD M) ∧ Below w.heap.size w w' := by
 obtain ⟨a, c, rfl, hl⟩ := h
 have HL := hide hl
 have HM := hide hM
 clear hl hM
 obtain ⟨N, hN⟩ : ∃ N : Nat, (M.length + 7) / 8 = N := ⟨_, rfl⟩
 have hm := yK N (by omega)
 have HNN := hide hN
 have HZ : Hid ((w.alloc (.cells ((List.replicate N (0 : Int)).map (Value.int .u8)).toArray 5)).heap[w.heap.size]? = some (.cells ((cC M N 0).map (Value.int .u8)).toArray 5 (0, 0))) := heap_alloc_new w _
 have HB0 : Hid (Below w.heap.size w (w.alloc (.cells ((List.replicate N (0 : Int)).map (Value.int .u8)).toArray 5))) := (Below.refl _ _).alloc (Nat.le_refl _) _
 generalize ((List.replicate N (0 : Int)).map (Value.int .u8)) = Z at hm HB0 HZ
 clear hN
 go_enter Tryz.func264, Tryz.ntmps264
 go_wp2_with (go_at_call 221; refine (rK _ N _ (by omega) (aA HNN)).mono ?_; rintro e w ⟨rfl, rfl⟩)
 go_loopw [12] (fun i wr => ∃ t : Nat, t ≤ M.length ∧ i = .int .i64 t ∧ Hid (wr.heap[w.heap.size]? = some (.cells ((cC M N t).map (Value.int .u8)).toArray 5 (0, 0))) ∧ Hid (Below w.heap.size w wr)) (fun i _ => M.length - (intOf i).toNat)
 case atStart => exact ⟨0, by omega, rfl, HZ, HB0⟩
 case round =>
  obtain ⟨t, ht, rfl, HR, HB⟩ := hrel
  by_cases hlt : t < M.length
  ·obtain ⟨b, o, rfl, hbl, hcc⟩ := (aA HL).resolve_left (fun e => by rw [e] at hlt; simp at hlt)
   have ck := ((aA HB).cell (by exact hbl)).trans (hcc t hlt)
   have hx01 := aA HM (M.getD t 0) (by simp [List.getD, List.getElem?_eq_getElem hlt])
   obtain ⟨q, hq⟩ : ∃ q : Nat, t / 8 = q := ⟨_, rfl⟩
   obtain ⟨r, hr8⟩ : ∃ r : Nat, t % 8 = r := ⟨_, rfl⟩
   have hd : (t : Int) / 8 = (q : Int) := by omega
   have hm8 : (t : Int) % 8 = (r : Int) := by omega
   have hqN : (q : Int) < (N : Int) := by have := aA HNN; omega
   have hr7 : (r : Int) ≤ 8 := by omega
   have hql : q < (cC M N t).length := by rw [eZ]; omega
   have c2 : wr.cell? ⟨w.heap.size, q, none⟩ = some (.int .u8 ((cC M N t).getD q 0)) := by
    rw [cell_of_row _ _ _ _ _ _ (aA HR)]
    simp [List.getD, List.getElem?_eq_getElem hql]
   have hbb := aDr M N t ((cC M N t).getD q 0) (by simp [List.getD, List.getElem?_eq_getElem hql])
   have f2 : wr.frozen? ⟨w.heap.size, q, none⟩ = false := frozen_of_row _ _ _ _ _ (aA HR)
   have HP1 : Hid (M.getD t 0 = 1 → cC M N (t + 1) = (cC M N t).set q (bits BinOp.or IntKind.u8 ((cC M N t).getD q 0) (2 ^ r % 256))) := fun e => by
    show cC M N (t + 1) = _
    rw [cC, if_pos e, hq, hr8]
    rfl
   have HP2 : Hid (M.getD t 0 = 0 → cC M N (t + 1) = (cC M N t).set q (bits BinOp.or IntKind.u8 ((cC M N t).getD q 0) 0)) := fun e => by
    show cC M N (t + 1) = _
    rw [cC, if_neg (by rw [e]; decide), aDu _ hbb.1 hbb.2]
    apply List.ext_getElem?
    intro i
    by_cases hi : q = i
    ·subst hi
     rw [List.getElem?_set_self hql, List.getElem?_eq_getElem hql]
     simp [List.getD, List.getElem?_eq_getElem hql]
    ·rw [List.getElem?_set_ne hi]
   clear hq hr8 hbb hql hcc
   generalize M.getD t 0 = x at ck hx01 HP1 HP2
   generalize (cC M N t).getD q 0 = bb at c2 HP1 HP2
   rcases hx01 with rfl | rfl
   ·have HS := hide (rZ (q := q) (x := bits BinOp.or IntKind.u8 bb 0) (aA HR))
    rw [← aA HP2 rfl] at HS
    have HS2 := hide (gO (q := q) (v := .int .u8 (bits BinOp.or IntKind.u8 bb 0)) (aA HB) (Nat.le_refl _))
    clear HP1 HP2
    go_wp2
    go_region
    go_wp2
    go_roundw
    case rel => exact ⟨t + 1, by omega, by go_num, aA HS, (aA HS2).drew⟩
    case measure => simp [intOf]; omega
   ·have HS := hide (rZ (q := q) (x := bits BinOp.or IntKind.u8 bb (2 ^ r % 256)) (aA HR))
    rw [← aA HP1 rfl] at HS
    have HS2 := hide (gO (q := q) (v := .int .u8 (bits BinOp.or IntKind.u8 bb (2 ^ r % 256))) (aA HB) (Nat.le_refl _))
    clear HP1 HP2
    go_wp2
    go_region
    go_wp2
    go_roundw
    case rel => exact ⟨t + 1, by omega, by go_num, aA HS, (aA HS2).drew⟩
    case measure => simp [intOf]; omega
  ·obtain rfl : t = M.length := by omega
   go_wp2
   go_ret
   refine ⟨_, rfl, ?_, aA HB⟩
   unfold iD Owns
   rw [aA HNN, eZ]
   exact ⟨by simp [eZ], .inr ⟨w.heap.size, N, _, rfl, Nat.le_refl _, aA HR, Nat.le_refl _, by have := aA HNN; unfold maxLen; omega, by simp [eZ], by rw [Nat.mul_one]; exact List.take_of_length_le (by simp [eZ])⟩⟩
theorem aGj (x : Int) (h0 : 0 ≤ x) (h1 : x < 256) : bits BinOp.and IntKind.i64 x 1 = x % 2 := by
 obtain ⟨x, rfl⟩ := Int.eq_ofNat_of_zero_le h0
 have := aAc x 1 (by omega) (by omega)
 rw [Nat.and_one_is_mod] at this
 rw [show ((1 : Nat) : Int) = 1 from rfl] at this
 rw [this]
 omega
theorem pL (v : Value) (bs : List Int) (n : Nat) (w : World) (h : Lies w v bs) (hx : Bys bs) (hn : (n + 7) / 8 ≤ bs.length) (hm : n ≤ 2000) :
  Calls Tryz.prog 222 #[v, .int .i64 n] w fun e w' => ∃ g, e = .returned (.slice (some ⟨g, 0, none⟩) n n) ∧ w.heap.size ≤ g ∧ w'.heap[g]? = some (.cells ((eN bs n).map (Value.int .i64)).toArray 3 (0, 0)) ∧ Below w.heap.size w w' := by
 have hmk := oY n (by omega)
 obtain ⟨a, c, rfl⟩ : ∃ a c, v = .slice a bs.length c := by
  rcases h with ⟨a, c, rfl, rfl⟩ | ⟨b, o, c, rfl, _⟩
  ·exact ⟨_, _, rfl⟩
  ·exact ⟨_, _, rfl⟩
 have H := hide h
 have HX := hide hx
 clear h hx
 have HR0 : Hid ((w.alloc (.cells ((List.replicate n (0 : Int)).map (Value.int .i64)).toArray 3)).heap[w.heap.size]? = some (.cells (((List.range 0).map (fun i => bs.getD (i / 8) 0 / 2 ^ (i % 8) % 2) ++ List.replicate (n - 0) 0).map (Value.int .i64)).toArray 3 (0, 0))) := heap_alloc_new w _
 have HB0 : Hid (Below w.heap.size w (w.alloc (.cells ((List.replicate n (0 : Int)).map (Value.int .i64)).toArray 3))) := (Below.refl _ _).alloc (Nat.le_refl _) _
 generalize (List.replicate n (0 : Int)).map (Value.int .i64) = Z at hmk HR0 HB0
 go_enter Tryz.func222, Tryz.ntmps222
 go_wp2
 go_loopw [11] (fun i wr => ∃ k : Nat, k ≤ n ∧ i = .int .i64 k ∧ Hid (wr.heap[w.heap.size]? = some (.cells (((List.range k).map (fun i => bs.getD (i / 8) 0 / 2 ^ (i % 8) % 2) ++ List.replicate (n - k) 0).map (Value.int .i64)).toArray 3 (0, 0))) ∧ Hid (Below w.heap.size w wr)) (fun i _ => n - (intOf i).toNat)
 case atStart => exact ⟨0, by omega, rfl, HR0, HB0⟩
 case round =>
  obtain ⟨k, hk, rfl, HR, HB⟩ := hrel
  by_cases hlt : k < n
  ·obtain ⟨b, o, c2, e1, _, hbl, hcc⟩ := (aA H).shape (fun e => by rw [e] at hn; simp at hn; omega)
   cases e1
   obtain ⟨q, hq⟩ : ∃ q : Nat, k / 8 = q := ⟨_, rfl⟩
   obtain ⟨r, hr8⟩ : ∃ r : Nat, k % 8 = r := ⟨_, rfl⟩
   have hd : (k : Int) / 8 = (q : Int) := by omega
   have hm8 : (k : Int) % 8 = (r : Int) := by omega
   have hqN : (q : Int) < (bs.length : Int) := by omega
   have hr7 : (r : Int) ≤ 8 := by omega
   have ck := ((aA HB).cell (by exact hbl)).trans (hcc q (by omega))
   have r0 := (aA HX).at q
   have HE : Hid ((fun i => bs.getD (i / 8) 0 / 2 ^ (i % 8) % 2) k = bs.getD q 0 / 2 ^ r % 2) := by
    show _ = _
    simp only [hq, hr8]
   generalize hbq : bs.getD q 0 = x0 at ck r0 HE
   clear hbq
   have qz : ∃ z, wr.cell? ⟨w.heap.size, k, none⟩ = some (.int .i64 z) := ⟨_, dP (aA HR) k (by simp; omega)⟩
   obtain ⟨z, qz⟩ := qz
   have f := frozen_of_row _ _ k _ _ (aA HR)
   have hk4 : (k : Int) < (n : Int) := by omega
   have hsh : wrap64 (x0 / 2 ^ r) = x0 / 2 ^ r := by
    have h1 : 0 ≤ x0 / 2 ^ r := Int.ediv_nonneg r0.1 (Int.pow_nonneg (by omega))
    have h2 : x0 / 2 ^ r ≤ x0 := Int.ediv_le_self _ r0.1
    unfold wrap64
    omega
   have HA : Hid (bits BinOp.and IntKind.i64 (x0 / 2 ^ r) 1 = x0 / 2 ^ r % 2) := aGj _ (Int.ediv_nonneg r0.1 (Int.pow_nonneg (by omega))) (by have := Int.ediv_le_self (2 ^ r) r0.1; omega)
   have HSH := hide hsh
   have HS := hide (jN (q := k) (x := (fun i => bs.getD (i / 8) 0 / 2 ^ (i % 8) % 2) k) (aA HR))
   rw [kT (fun i => bs.getD (i / 8) 0 / 2 ^ (i % 8) % 2) n k hlt, aA HE] at HS
   have HS2 := hide (gO (q := k) (v := .int .i64 (x0 / 2 ^ r % 2)) (aA HB) (Nat.le_refl _))
   clear hcc hq hr8 hsh
   go_wp2
   rw [aA HSH, aA HA]
   go_roundw
   case rel => exact ⟨k + 1, by omega, by go_num, aA HS, aA HS2⟩
   case measure => simp [intOf]; omega
  ·obtain rfl : k = n := by omega
   go_wp2
   go_ret
   refine ⟨_, rfl, Nat.le_refl _, ?_, aA HB⟩
   have := aA HR
   rw [mM] at this
   exact this
theorem Lies.slice {w : World} {v : Value} {bs : List Int} (h : Lies w v bs) : ∃ a c, v = .slice a bs.length c := by
 rcases h with ⟨a, c, rfl, rfl⟩ | ⟨b, o, c, rfl, _⟩
 ·exact ⟨_, _, rfl⟩
 ·exact ⟨_, _, rfl⟩
theorem gR (v : Value) (bs : List Int) (n : Nat) (w : World) (h : Lies w v bs) (hn : n ≤ 4) (hl : bs.length < 2 * n) :
  Calls Tryz.prog 215 #[v, .int .i64 n] w fun e w' => e = .returned (.tuple #[.slice none 0 0, .slice none 0 0, .bool false]) ∧ w' = w := by
 obtain ⟨a, c, rfl⟩ := h.slice
 have hl' : (bs.length : Int) < 2 * (n : Int) := by omega
 clear h
 go_enter Tryz.func215, Tryz.ntmps215
 go_wp2_with (go_at_call 223; refine (lO _ _ (by omega)).mono ?_; rintro e w ⟨rfl, rfl⟩)
 refine bodyPost_ret (by simp [results, Tryz.results215]) rfl ⟨rfl, rfl⟩
theorem kJ {w : World} {b o c n : Nat} {bs : List Int} (h : Lies w (.slice (some ⟨b, o, none⟩) bs.length c) bs) (hn : n ≤ bs.length) (hlt : n < c) : Lies w (.slice (some ⟨b, o + n, none⟩) (bs.length - n) (c - n)) (bs.drop n) := by
 rcases h with ⟨a, c', e, rfl⟩ | ⟨b', o', c', e, h1, h2, h3⟩
 ·cases e
  exact .inl ⟨some ⟨b, o + n, none⟩, c - n, by simp, by simp⟩
 ·cases e
  refine .inr ⟨b, o + n, c - n, by simp, by simp; omega, ?_, fun i hi => ?_⟩
  ·rcases h2 with rfl | h2
   ·exact .inl (by simp)
   ·exact .inr h2
  ·have hi' : n + i < bs.length := by simp at hi; omega
   have := h3 (n + i) hi'
   rw [Nat.add_assoc, this]
   simp [List.getD]
structure UnpAt (w w' : World) (xs : List Int) (g : Nat) : Prop where
 lo : w.heap.size ≤ g
 row : w'.heap[g]? = some (.cells (xs.map (Value.int .i64)).toArray 3 (0, 0))
 bel : Below w.heap.size w w'
theorem unpW (v : Value) (bs : List Int) (n : Nat) (w w1 : World) (h : Lies w v bs) (hx : Bys bs) (hn : 2 * n ≤ bs.length) (hm : n ≤ 1000) (hb : Below w.heap.size w w1) :
  Calls Tryz.prog 224 #[v, .int .i64 n] w1 fun e w' => ∃ g, e = .returned (.slice (some ⟨g, 0, none⟩) n n) ∧ UnpAt w1 w' (bY bs n) g := by
 refine (nE v bs n w1 (h.below hb) hx hn hm).mono ?_
 rintro e w' ⟨g, rfl, h1, h2, h3⟩
 exact ⟨g, rfl, h1, h2, h3⟩
theorem unpB (v : Value) (bs : List Int) (n : Nat) (w w1 : World) (h : Lies w v bs) (hx : Bys bs) (hn : (n + 7) / 8 ≤ bs.length) (hm : n ≤ 2000) (hb : Below w.heap.size w w1) :
  Calls Tryz.prog 222 #[v, .int .i64 n] w1 fun e w' => ∃ g, e = .returned (.slice (some ⟨g, 0, none⟩) n n) ∧ UnpAt w1 w' (eN bs n) g := by
 refine (pL v bs n w1 (h.below hb) hx hn hm).mono ?_
 rintro e w' ⟨g, rfl, h1, h2, h3⟩
 exact ⟨g, rfl, h1, h2, h3⟩
structure SplitAt (w w' : World) (v : Value) (bs : List Int) (n : Nat) (k : Nat) (vr : Value) : Prop where
 lo : w.heap.size ≤ k
 row : w'.heap[k]? = some (.cells ((bY bs n).map (Value.int .i64)).toArray 3 (0, 0))
 rest : Lies w' vr (bs.drop (2 * n))
 own : vr.ownBlock = v.ownBlock
 bel : Below w.heap.size w w'
theorem fV (v : Value) (bs : List Int) (n : Nat) (w : World) (h : Lies w v bs) (hx : Bys bs) (h1 : 1 ≤ n) (hn : n ≤ 4) (hl : 2 * n ≤ bs.length) (_hm : bs.length ≤ 1000) :
  Calls Tryz.prog 215 #[v, .int .i64 n] w fun e w' => ∃ k a m c, e = .returned (.tuple #[.slice (some ⟨k, 0, none⟩) n n, .slice a m c, .bool true]) ∧ SplitAt w w' v bs n k (.slice a m c) := by
 obtain ⟨b, o, c, rfl, hlc, hbb, hcc⟩ := h.shape (fun e => by rw [e] at hl; simp at hl; omega)
 obtain ⟨N, hN⟩ : ∃ N, 2 * n = N := ⟨_, rfl⟩
 have HN := hide hN
 have H := hide h
 have HU : Hid (∀ w1, Below w.heap.size w w1 → Calls Tryz.prog 224 #[.slice (some ⟨b, o, none⟩) bs.length c, .int .i64 n] w1 fun e w' => ∃ g, e = .returned (.slice (some ⟨g, 0, none⟩) n n) ∧ UnpAt w1 w' (bY bs n) g) := fun w1 hb => unpW _ bs n w w1 h hx (by omega) (by omega) hb
 have hl' : (N : Int) ≤ (bs.length : Int) := by omega
 have hl2 : decide ((bs.length : Int) < (N : Int)) = false := by simp; omega
 have hlc' : (bs.length : Int) ≤ (c : Int) := by omega
 clear hN h hcc hx
 by_cases hcN : c = N
 ·have hLN : bs.length = N := by omega
  have HLN := hide hLN
  have HLc := hide (hLN.trans hcN.symm)
  clear hlc hlc' hLN
  subst hcN
  have hNN : (bs.length : Int) = (c : Int) := by have := aA HLN; omega
  have H2 : Hid (∀ w1 : World, Below w.heap.size w w1 → ∀ a, Lies w1 (.slice a (bs.length - c) (c - c)) (bs.drop (2 * n))) := fun w1 _ a => .inl ⟨a, _, by rw [aA HLN, Nat.sub_self], by rw [aA HN, ← aA HLN]; simp⟩
  go_enter Tryz.func215, Tryz.ntmps215
  go_wp2_with (go_at_call 223; refine (kY _ c _ (by omega) (aA HN)).mono ?_; rintro e w ⟨rfl, rfl⟩)
  go_region_held3 (fun w' => Below w.heap.size w w')
   ((repeat (first
     | exact Below.refl _ _
     | assumption
     | refine Below.drew ?_
     | refine aD ?_ (UnpAt.bel (by assumption)))))
   (first
     | (go_at_call 224; refine (aA HU _ (by first | assumption | exact Below.refl _ _ | exact (Below.refl _ _).drew)).mono ?_; rintro e w1 ⟨g, rfl, hU⟩)
     | fail)
  rename_i hHeld
  go_wp2
  refine bodyPost_ret (v := .tuple #[.slice (some ⟨g, 0, none⟩) n n, .slice (some ⟨b, o, none⟩) (bs.length - c) 0, .bool true]) (by simp [results, Tryz.results215]) rfl ⟨g, some ⟨b, o, none⟩, bs.length - c, 0, rfl, hU.lo, hU.row, ?_, rfl, hHeld⟩
  have := aA H2 _ hHeld (some ⟨b, o, none⟩)
  rw [Nat.sub_self] at this
  exact this
 ·have hlt : (N : Int) < (c : Int) := by have := aA HN; omega
  have H2 : Hid (∀ w1 : World, Below w.heap.size w w1 → Lies w1 (.slice (some ⟨b, o + N, none⟩) (bs.length - N) (c - N)) (bs.drop (2 * n))) := fun w1 hb => by
   rw [aA HN]
   exact kJ ((aA H).below hb) (by omega) (by omega)
  go_enter Tryz.func215, Tryz.ntmps215
  go_wp2_with (go_at_call 223; refine (kY _ N _ (by omega) (aA HN)).mono ?_; rintro e w ⟨rfl, rfl⟩)
  go_region_held3 (fun w' => Below w.heap.size w w')
   ((repeat (first
     | exact Below.refl _ _
     | assumption
     | refine Below.drew ?_
     | refine aD ?_ (UnpAt.bel (by assumption)))))
   (first
     | (go_at_call 224; refine (aA HU _ (by first | assumption | exact Below.refl _ _ | exact (Below.refl _ _).drew)).mono ?_; rintro e w1 ⟨g, rfl, hU⟩)
     | fail)
  rename_i hHeld
  go_wp2
  exact bodyPost_ret (by simp [results, Tryz.results215]) rfl ⟨g, _, _, _, rfl, hU.lo, hU.row, aA H2 _ hHeld, rfl, hHeld⟩
def fD (bs : List Int) (n : Nat) : Bool := decide (bs.length = 1 + n) && decide (bs.getD 0 0 = (n : Int))
theorem nX (v : Value) (bs : List Int) (n : Nat) (w : World) (h : Lies w v bs) (hx : Bys bs) (hm : bs.length ≤ 1000) (hn : n ≤ 10000) (hs : fD bs n = false) :
  Calls Tryz.prog 225 #[v, .int .i64 n] w fun e w' => e = .returned (.tuple #[.slice none 0 0, .bool false]) ∧ Below w.heap.size w w' := by
 obtain ⟨a, c, rfl⟩ := h.slice
 by_cases hl : bs.length = 1 + n
 ·obtain ⟨b, o, c2, e1, _, hbl, hcc⟩ := h.shape (fun e => by rw [e] at hl; simp at hl; omega)
  cases e1
  have c0 := hcc 0 (by omega)
  rw [Nat.add_zero] at c0
  have r0 := hx.at 0
  have hne : bs.getD 0 0 ≠ (n : Int) := by
   simp only [fD, hl, decide_true, Bool.true_and, decide_eq_false_iff_not] at hs
   exact hs
  have hl' : (bs.length : Int) = 1 + (n : Int) := by omega
  have hp : (0 : Int) < (bs.length : Int) := by omega
  generalize bs.getD 0 0 = y at c0 r0 hne
  have hne' : (y != (n : Int)) = true := by simpa using hne
  clear h hcc hs hx
  go_enter Tryz.func225, Tryz.ntmps225
  go_wp2
  refine bodyPost_ret (by simp [results, Tryz.results225]) rfl ⟨rfl, by first | exact Below.refl _ _ | exact (Below.refl _ _).drew⟩
 ·have hl' : ((bs.length : Int) != 1 + (n : Int)) = true := by simp; omega
  clear h hs hx
  go_enter Tryz.func225, Tryz.ntmps225
  go_wp2
  refine bodyPost_ret (by simp [results, Tryz.results225]) rfl ⟨rfl, by first | exact Below.refl _ _ | exact (Below.refl _ _).drew⟩
theorem mA (v : Value) (bs : List Int) (n : Nat) (w : World) (h : Lies w v bs) (hx : Bys bs) (hm : bs.length ≤ 1000) (hn : 1 ≤ n) (hs : fD bs n = true) :
  Calls Tryz.prog 225 #[v, .int .i64 n] w fun e w' => ∃ a m c, e = .returned (.tuple #[.slice a m c, .bool true]) ∧ Lies w' (.slice a m c) (bs.drop 1) ∧ (Value.slice a m c).ownBlock = v.ownBlock ∧ Below w.heap.size w w' := by
 have hl : bs.length = 1 + n := by simp [fD] at hs; exact hs.1
 have hy : bs.getD 0 0 = (n : Int) := by
  have := (Bool.and_eq_true_iff.1 hs).2
  simpa using this
 obtain ⟨b, o, c, rfl, hlc, hbl, hcc⟩ := h.shape (fun e => by rw [e] at hl; simp at hl; omega)
 have c0 := hcc 0 (by omega)
 rw [Nat.add_zero, hy] at c0
 have r0 : (0 : Int) ≤ (n : Int) ∧ (n : Int) < 256 := by have := hx.at 0; rw [hy] at this; exact this
 have H2 : Hid (Lies w (.slice (some ⟨b, o + 1, none⟩) n (c - 1)) (bs.drop 1)) := by
  have := kJ (n := 1) h (by omega) (by omega)
  rw [show bs.length - 1 = n by omega] at this
  exact this
 have hl' : (bs.length : Int) = 1 + (n : Int) := by omega
 have hp : (0 : Int) < (bs.length : Int) := by omega
 have hlc' : (bs.length : Int) ≤ (c : Int) := by omega
 have h1c : (1 : Int) < (c : Int) := by omega
 clear h hcc hs hx hy
 go_enter Tryz.func225, Tryz.ntmps225
 go_wp2
 exact bodyPost_ret (by simp [results, Tryz.results225]) rfl ⟨_, _, _, rfl, aA H2, rfl, Below.refl _ _⟩
theorem rM (v : Value) (bs : List Int) (a : Option Addr) (m c : Nat) (w : World) (h : Lies w v bs) (hb : bs ≠ []) (hm : m ≤ bs.length) (hl : bs.length ≤ 1000) :
  Calls Tryz.prog 234 #[v, .slice a m c] w fun e w' => ∃ v', e = .returned v' ∧ Lies w' v' (bs.take (bs.length - m)) ∧ v'.ownBlock = v.ownBlock ∧ (∃ a' m' c', v' = .slice a' m' c') ∧ Below w.heap.size w w' := by
 obtain ⟨b, o, d, rfl, hlc, hbl, hcc⟩ := h.shape hb
 have hm' : (m : Int) ≤ (bs.length : Int) := by omega
 have hlc' : (bs.length : Int) ≤ (d : Int) := by omega
 obtain ⟨k, hk⟩ : ∃ k, bs.length - m = k := ⟨_, rfl⟩
 have hki : (bs.length : Int) - (m : Int) = (k : Int) := by omega
 have H2 : Hid (Lies w (.slice (some ⟨b, o, none⟩) k d) (bs.take k)) := by
  refine .inr ⟨b, o, d, by rw [List.length_take, Nat.min_eq_left (by omega)], by rw [List.length_take]; omega, .inr hbl, fun i hi => ?_⟩
  have hi2 : i < k := by rw [List.length_take] at hi; omega
  rw [hcc i (by omega), aBu _ _ _ hi2]
 rw [hk]
 have hkd : (k : Int) ≤ (d : Int) := by omega
 clear h hcc hk
 go_enter Tryz.func234, Tryz.ntmps234
 go_wp2
 go_ret
 exact ⟨_, rfl, aA H2, rfl, ⟨_, _, _, rfl⟩, by first | exact Below.refl _ _ | exact (Below.refl _ _).drew⟩
end Go.Proofs.YtfekelmldebplaaGreatDoor
