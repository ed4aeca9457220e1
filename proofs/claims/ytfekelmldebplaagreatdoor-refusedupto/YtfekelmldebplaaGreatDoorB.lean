import Derived.Test.YtfekelmldebplaaGreatDoorA
import Derived.Deep.DeepAppendRoom
import Derived.Deep.AppendLies
namespace Go.Proofs.YtfekelmldebplaaGreatDoor
open Go.RowKit

theorem info5 : (Tryz.prog.info? 5).map (fun i => (i.zero, i.size, i.bytes)) = some (some (.int .u8 0), 1, 1) := by kernel_rfl
theorem ret_slice {a : Option Addr} {m n c : Nat} (h : m = n) : Ending.returned (.slice a m c) = .returned (.slice a n c) := by rw [h]

/-- The two bytes of a word. -/
def wd (n : Int) : List Int := [n / 256, n % 256]
theorem wd_len (n : Int) : (wd n).length = 2 := rfl
theorem Bys.wd {n : Int} (h0 : 0 ≤ n) (h1 : n ≤ 65535) : Bys (wd n) := fun x hx => by
  simp only [YtfekelmldebplaaGreatDoor.wd, List.mem_cons, List.not_mem_nil, or_false] at hx
  omega
theorem Bys.one {n : Int} (h0 : 0 ≤ n) (h1 : n < 256) : Bys [n] := fun x hx => by
  simp only [List.mem_cons, List.not_mem_nil, or_false] at hx
  omega
theorem Bys.nil : Bys [] := fun x hx => by cases hx

/-- A new block of bytes, under a slice. -/
theorem lies_new (w : World) (cs : Array Value) (xs : List Int) (h : cs.toList = xs.map (Value.int .u8)) : Lies (w.alloc (.cells cs 5)) (.slice (some ⟨w.heap.size, 0, none⟩) xs.length xs.length) xs := by
  refine .inr ⟨w.heap.size, 0, xs.length, rfl, Nat.le_refl _, .inr (by simp), fun i hi => ?_⟩
  rw [cell_of_row _ _ _ _ _ _ (heap_alloc_new w _), ← Array.getElem?_toList, h]
  simp [List.getD, List.getElem?_eq_getElem hi]

set_option maxHeartbeats 400000 in
theorem word_any (n : Int) (w : World) (h0 : 0 ≤ n) (h1 : n ≤ 65535) :
    Calls Tryz.prog 25 #[.int .i64 n] w fun e w' => e = .returned (.slice (some ⟨w.heap.size, 0, none⟩) 2 2) ∧ w' = w.alloc (.cells #[.int .u8 (n / 256), .int .u8 (n % 256)] 5) := by
  go_enter Tryz.func25, Tryz.ntmps25
  go_wp2
  go_ret
  exact ⟨rfl, rfl⟩

/-- What 'data' gives. -/
def sdata (m : Int) (xs : List Int) : List Int := if xs = [] then [m % 256] else xs.take 253
theorem sdata_len (m : Int) (xs : List Int) : 1 ≤ (sdata m xs).length ∧ (sdata m xs).length ≤ 253 := by
  unfold sdata
  by_cases h : xs = []
  · simp [h]
  · have : 0 < xs.length := List.length_pos_iff.2 h
    simp [h]; omega
theorem sdata_bys (m : Int) (xs : List Int) (h : Bys xs) : Bys (sdata m xs) := by
  unfold sdata
  split
  · exact Bys.one (by omega) (by omega)
  · exact h.take _

/-- Bytes that the call owns. -/
def Owns (w : World) (base : Nat) (v : Value) (xs : List Int) : Prop := w.ownsRow base 5 1 v xs.length (xs.map (Value.int .u8))
theorem Owns.lies {w : World} {base : Nat} {v : Value} {xs : List Int} (h : Owns w base v xs) : Lies w v xs := by
  have h' := h
  rcases h.2 with ⟨hv, h0⟩ | ⟨g, cap, cur, hv, hg, hh, hle, hm, hs, hx⟩
  · exact .inl ⟨none, 0, hv, List.length_eq_zero_iff.1 h0⟩
  · refine .inr ⟨g, 0, cap, hv, hle, .inr (Array.getElem?_eq_some_iff.1 hh).1, fun i hi => ?_⟩
    subst hv
    rw [Nat.zero_add, h'.cellAt i (by omega)]
    simp [List.getD, List.getElem?_eq_getElem hi]

theorem news_lies {w : World} {b o : Nat} {xs : List Int} (hc : ∀ i, i < xs.length → w.cell? ⟨b, o + i, none⟩ = some (.int .u8 (xs.getD i 0))) :
    ∀ j u, (xs.map (Value.int .u8))[j]? = some u → w.cell? ((⟨b, o, none⟩ : Addr).add j) = some u := fun j u hu => by
  have hj : j < xs.length := by
    rcases Nat.lt_or_ge j xs.length with h | h
    · exact h
    · simp [List.getElem?_eq_none h] at hu
  have e : (⟨b, o, none⟩ : Addr).add j = ⟨b, o + j, none⟩ := by unfold Addr.add; split <;> simp_all
  rw [e, hc j hj, ← hu]
  simp [List.getD, List.getElem?_eq_getElem hj]
theorem one_bytes (xs : List Int) : ∀ u ∈ xs.map (Value.int .u8), u.oneCell' = true := fun u hu => by
  obtain ⟨_, _, rfl⟩ := List.mem_map.1 hu
  rfl

set_option maxHeartbeats 400000 in
theorem appendWord_any (g n cap : Nat) (xs : List Int) (base : Nat) (x : Int) (w : World) (h0 : 0 ≤ x) (h1 : x ≤ 65535) (hn : n = xs.length) (hown : Owns w base (.slice (some ⟨g, 0, none⟩) n cap) xs) (hroom : n + 2 ≤ cap) :
    Calls Tryz.prog 138 #[.slice (some ⟨g, 0, none⟩) n cap, .int .i64 x] w fun e w' => e = .returned (.slice (some ⟨g, 0, none⟩) (n + 2) cap) ∧
      Owns w' base (.slice (some ⟨g, 0, none⟩) (n + 2) cap) (xs ++ wd x) ∧ w.grownBy w' (some g) := by
  obtain ⟨i0, hi, hz0, hz1, hz2⟩ := info_parts info5
  subst hn
  have hown' := hown
  unfold Owns at hown'
  have hg := (hown'.lt g rfl).2
  go_enter Tryz.func138, Tryz.ntmps138
  go_wp2_with (at_builtin; refine wpList_append_own_spare _ rfl _ _ 37 rfl base 5 i0 1 Tryz.underlying37 hi hz1 g _ cap _ rfl (hown'.alloc _) ⟨w.heap.size, 0, none⟩ 2 2 ((wd x).map (Value.int .u8)) rfl rfl ?c1 (one_bytes _) hroom ?_)
  case c1 =>
    intro j u hj
    match j, hj with
    | 0, hj => simp [wd] at hj; subst hj; simp [Addr.add]
    | 1, hj => simp [wd] at hj; subst hj; simp [Addr.add]
  intro w1 h1 h2
  clear hown'
  go_wp2
  go_ret
  refine ⟨rfl, ?_, ?_⟩
  · unfold Owns
    simpa [wd] using h1
  · exact (World.grownBy_alloc _ _ _).trans h2
end Go.Proofs.YtfekelmldebplaaGreatDoor
