import Derived.Deep.DeepAppendRoom
import Derived.Deep.AppendLies
import Derived.Test.YtfekelmldebplaaGreatDoorA
set_option maxRecDepth 100000
set_option maxHeartbeats 8000000
namespace Go.Proofs.YtfekelmldebplaaGreatDoor
open Go.RowKit
theorem jS : (Tryz.prog.info? 5).map (fun i => (i.zero, i.size, i.bytes)) = some (some (.int .u8 0), 1, 1) := by kernel_rfl
def wd (n : Int) : List Int := [n / 256, n % 256]
theorem Bys.nil : Bys [] := fun x hx => by cases hx
def Owns (w : World) (base : Nat) (v : Value) (xs : List Int) : Prop := w.ownsRow base 5 1 v xs.length (xs.map (Value.int .u8))
theorem Owns.lies {w : World} {base : Nat} {v : Value} {xs : List Int} (h : Owns w base v xs) : Lies w v xs := by
 have h' := h
 rcases h.2 with ⟨hv, h0⟩ | ⟨g, cap, cur, hv, hg, hh, hle, hm, hs, hx⟩
 ·exact .inl ⟨none, 0, hv, List.length_eq_zero_iff.1 h0⟩
 ·refine .inr ⟨g, 0, cap, hv, hle, .inr (Array.getElem?_eq_some_iff.1 hh).1, fun i hi => ?_⟩
  subst hv
  rw [Nat.zero_add, h'.cellAt i (by omega)]
  simp [List.getD, List.getElem?_eq_getElem hi]
theorem kI {w : World} {b o : Nat} {xs : List Int} (hc : ∀ i, i < xs.length → w.cell? ⟨b, o + i, none⟩ = some (.int .u8 (xs.getD i 0))) :
  ∀ j u, (xs.map (Value.int .u8))[j]? = some u → w.cell? ((⟨b, o, none⟩ : Addr).add j) = some u := fun j u hu => by
 have hj : j < xs.length := by
  rcases Nat.lt_or_ge j xs.length with h | h
  ·exact h
  ·simp [List.getElem?_eq_none h] at hu
 have e : (⟨b, o, none⟩ : Addr).add j = ⟨b, o + j, none⟩ := by unfold Addr.add; split <;> simp_all
 rw [e, hc j hj, ← hu]
 simp [List.getD, List.getElem?_eq_getElem hj]
theorem iU (xs : List Int) : ∀ u ∈ xs.map (Value.int .u8), u.oneCell' = true := fun u hu => by
 obtain ⟨_, _, rfl⟩ := List.mem_map.1 hu
 rfl
theorem pR (g n cap : Nat) (xs : List Int) (base : Nat) (x : Int) (w : World) (h0 : 0 ≤ x) (h1 : x ≤ 65535) (hn : n = xs.length) (hown : Owns w base (.slice (some ⟨g, 0, none⟩) n cap) xs) (hroom : n + 2 ≤ cap) :
  Calls Tryz.prog 138 #[.slice (some ⟨g, 0, none⟩) n cap, .int .i64 x] w fun e w' => e = .returned (.slice (some ⟨g, 0, none⟩) (n + 2) cap) ∧
   Owns w' base (.slice (some ⟨g, 0, none⟩) (n + 2) cap) (xs ++ wd x) ∧ w.grownBy w' (some g) := by
 obtain ⟨i0, hi, hz0, hz1, hz2⟩ := info_parts jS
 subst hn
 have hown' := hown
 unfold Owns at hown'
 have hg := (hown'.lt g rfl).2
 go_enter Tryz.func138, Tryz.ntmps138
 go_wp2_with (at_builtin; refine wpList_append_own_spare _ rfl _ _ 37 rfl base 5 i0 1 Tryz.underlying37 hi hz1 g _ cap _ rfl (hown'.alloc _) ⟨w.heap.size, 0, none⟩ 2 2 ((wd x).map (Value.int .u8)) rfl rfl ?c1 (iU _) hroom ?_)
 case c1 =>
  intro j u hj
  match j, hj with
  | 0, hj => simp [wd] at hj; subst hj; simp [Addr.add]
  | 1, hj => simp [wd] at hj; subst hj; simp [Addr.add]
 intro w1 h1 h2
 clear hown'
 go_wp2
 go_ret
 refine ⟨rfl, ?_, ?_⟩
 ·unfold Owns
  simpa [wd] using h1
 ·exact (World.grownBy_alloc _ _ _).trans h2
theorem hide {p : Prop} (h : p) : Hid p := h
theorem aA {p : Prop} (h : Hid p) : p := h
def aG9 (mark unit : Int) (xs : List Int) : List Int := wd mark ++ [0, 0] ++ wd (xs.length + 1) ++ [unit] ++ xs
theorem Lies.shape {w : World} {v : Value} {xs : List Int} (h : Lies w v xs) (hn : xs ≠ []) : ∃ b o c, v = .slice (some ⟨b, o, none⟩) xs.length c ∧ xs.length ≤ c ∧ b < w.heap.size ∧ ∀ i, i < xs.length → w.cell? ⟨b, o + i, none⟩ = some (.int .u8 (xs.getD i 0)) := by
 rcases h with ⟨_, _, _, h⟩ | ⟨b, o, c, hv, hl, hb, hc⟩
 ·exact absurd h hn
 ·exact ⟨b, o, c, hv, hl, hb.resolve_left hn, hc⟩
theorem aHs (n : Nat) (hn : n ≤ 1000000) (u : World) : (Instr.makeSlice 37 (.int .i64 0) (.int .i64 (n : Int))).run Tryz.prog u =
   .ok (.slice (some ⟨u.heap.size, 0, none⟩) 0 n) (u.alloc (.cells (madeCells #[.int .u8 0] n) 5)) := by
 obtain ⟨i0, hi, hz0, hz1, hz2⟩ := info_parts jS
 have h := run_make (P := Tryz.prog) u 37 5 i0 (.int .u8 0) Tryz.underlying37 hi hz0 .i64 .i64 0 (n : Int) (by omega) (by omega) (by rw [hz2]; omega) (by omega)
 simpa [hz1, Value.cells] using h
theorem Below.ofGrown {B g : Nat} {w0 w w' : World} (h : Below B w0 w) (hg : w.grownBy w' (some g)) (hB : B ≤ w.heap.size) (hr : B ≤ g) : Below B w0 w' := h.grown hg hB (fun k e => by cases e; exact hr)
end Go.Proofs.YtfekelmldebplaaGreatDoor
