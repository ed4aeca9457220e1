import Derived.Test.YtfekelmldebplaaGreatDoorJr
import Derived.Test.YtfekelmldebplaaGreatDoorWq
set_option maxRecDepth 100000
set_option maxHeartbeats 8000000
namespace Go.Proofs.YtfekelmldebplaaGreatDoor
open Go.ChangeShapes Go.WideShapes Go.ChangeAt Go.RowKit Go.Deep
theorem zY : Tryz.prog.cellsOf 95 = 14 := by kernel_rfl
theorem aHf : Tryz.prog.cellsOf 9 = 1 := by kernel_rfl
theorem aHd : Tryz.prog.cellsOf 24 = 1 := by kernel_rfl
theorem aHe : Tryz.prog.cellsOf 58 = 6 := by kernel_rfl
theorem aHb : Tryz.prog.cellsOf 31 = 4 := by kernel_rfl
theorem aFx : Tryz.prog.cellsOf 56 = 1 := by kernel_rfl
theorem aHc : Tryz.prog.cellsOf 55 = 1 := by kernel_rfl
theorem rJ : Tryz.prog.cellsOf 52 = 5 := by kernel_rfl
theorem aEm : Tryz.prog.cellsOf 4 = 1 := by kernel_rfl
section
variable {H : Type} {enc : TypeId × Value → H} {W : World}
theorem oM {α : Type} [Inhabited α] {t e : TypeId} {size fuel : Nat} {v : Value} {x : DataW H × List MemPlace} (ht : Tryz.prog.underlying t = some (.slice e)) (hs : Tryz.prog.cellsOf e = size) (hp : 0 < size) (h : DataW.trod enc Tryz.prog W 0 (fun _ => true) true fuel t [v] = some x)
  (p : α → List Value → DataW H → Prop) (hread : ∀ n cs d pl, DataW.trod enc Tryz.prog W 0 (fun _ => true) true n e cs = some (d, pl) → ∃ y, p y cs d) :
  ∃ (ys : List α) (a : Option Addr) (c : Nat), v = .slice a ys.length c ∧ (a = none → c = 0) ∧ ys.length ≤ Rows.uptoBulk x.1 ∧ (∀ y ∈ ys, ∃ cs d, p y cs d ∧ Rows.uptoBulk d ≤ Rows.uptoBulk x.1) ∧
   (ys = [] ∨ ∃ b o, a = some ⟨b, o, none⟩ ∧ b < W.heap.size ∧ ∀ (i : Nat) y, ys[i]? = some y → ∃ cs d, p y cs d ∧ ∀ (j : Nat) u, cs[j]? = some u → W.cell? ⟨b, o + i * size + j, none⟩ = some u) := by
 rcases open_slice ht h with ⟨hcs, rfl⟩ | ⟨a, len, cap, m, n, D, Pl, hcs, _, hl, hm, hmm, rfl, hel⟩
 ·obtain rfl : v = .slice none 0 0 := by simpa using hcs
  exact ⟨[], none, 0, rfl, fun _ => rfl, by simp, fun y m => by simp at m, .inl rfl⟩
 ·obtain rfl : v = .slice (some a) len cap := by simpa using hcs
  have hb := pK ((List.range len).map D) ((List.range (m - len)).map fun j => D (len + j))
  have hml : len ≤ m := by rw [hmm]; split <;> omega
  rw [hs] at hel
  have hex : ∀ i, ∃ y, i < len → ∃ cs, W.cells? 0 (a.add (i * size)) size = some cs ∧ p y cs (D i) := fun i => by
   by_cases hi : i < len
   ·obtain ⟨cs, h1, h2⟩ := hel i (by omega)
    obtain ⟨y, hy⟩ := hread _ _ _ _ h2
    exact ⟨y, fun _ => ⟨cs, h1, hy⟩⟩
   ·exact ⟨default, fun h => absurd h hi⟩
  obtain ⟨f, hf⟩ := Classical.axiomOfChoice hex
  have hlen : ((List.range len).map f).length = len := by simp
  refine ⟨(List.range len).map f, some a, cap, by rw [hlen], (fun e => by cases e), by rw [hlen]; simpa using hb.1, fun y m => ?_, ?_⟩
  ·obtain ⟨i, hi, rfl⟩ := List.mem_map.1 m
   have hi' := List.mem_range.1 hi
   obtain ⟨cs, _, hy⟩ := hf i hi'
   refine ⟨cs, D i, hy, Nat.le_trans (kE (List.mem_map.2 ⟨i, hi, rfl⟩)) hb.2⟩
  ·by_cases h0 : len = 0
   ·left
    subst h0
    rfl
   ·right
    obtain ⟨cs0, h1, _⟩ := hf 0 (by omega)
    have c0 := (World.cells?_some h1).2.2 0 hp
    have hl0 : cs0.length = size := (World.cells?_some h1).2.1
    rw [List.getElem?_eq_getElem (by omega), Nat.zero_mul] at c0
    simp [Addr.add] at c0
    obtain ⟨b', o', rfl⟩ := kL c0
    have hlt := World.block_lt_of_cell? W _ c0
    refine ⟨b', o', rfl, hlt, fun i y hi => ?_⟩
    have hil := (List.getElem?_eq_some_iff.1 hi).1
    rw [hlen] at hil
    obtain rfl : f i = y := by
     rw [List.getElem?_map, List.getElem?_range hil] at hi
     simpa using hi
    obtain ⟨cs, h2, hy⟩ := hf i hil
    refine ⟨cs, D i, hy, fun j u hu => ?_⟩
    have hcl : cs.length = size := (World.cells?_some h2).2.1
    have hj := (List.getElem?_eq_some_iff.1 hu).1
    have := (World.cells?_some h2).2.2 j (by omega)
    rw [jE, jE] at this
    rw [this, hu]
theorem aGz {fuel : Nat} {v : Value} {x : DataW H × List MemPlace} (h : DataW.trod enc Tryz.prog W 0 (fun _ => true) true fuel 24 [v] = some x) : ∃ la lc xs, v = .slice la (List.length xs) lc ∧ cB W (.slice la xs.length lc) xs ∧ xs.length ≤ Rows.uptoBulk x.1 := by
 obtain ⟨xs, a, c, rfl, _, hb, _, hl⟩ := oM (α := Int) Tryz.underlying24 kB (by decide) h (fun y cs _ => cs = [.int .i64 y]) (fun n cs d pl h => by
  obtain ⟨k, e, _⟩ := DataW.trod_int Tryz.underlying3 h
  exact ⟨k, e⟩)
 refine ⟨a, c, xs, rfl, ⟨a, c, rfl, ?_⟩, hb⟩
 rcases hl with rfl | ⟨b, o, rfl, hlt, hc⟩
 ·exact .inl rfl
 ·refine .inr ⟨b, o, rfl, hlt, fun i hi => ?_⟩
  obtain ⟨cs, _, rfl, hcell⟩ := hc i _ (List.getElem?_eq_getElem hi)
  have := hcell 0 _ rfl
  rw [Nat.mul_one, Nat.add_zero] at this
  rw [this, List.getD_eq_getElem?_getD, List.getElem?_eq_getElem hi]
  rfl
theorem aBb {n : Nat} {cs : List Value} {x : DataW H × List MemPlace} (h : DataW.trod enc Tryz.prog W 0 (fun _ => true) true n 52 cs = some x) : ∃ y : Rule, cs = y.cells.toList := by
 obtain ⟨ys, n, _, rfl, hl, hlen, hf⟩ := DataW.trod_struct Tryz.underlying52 h
 rw [rJ] at hl
 have z : ys.length = 5 := hlen
 match cs, hl with
 | [c0, c1, c2, c3, c4], _ =>
  have f0 : DataW.trod enc Tryz.prog W 0 (fun _ => true) true n 3 (([c0, c1, c2, c3, c4] : List Value).drop 0 |>.take (Tryz.prog.cellsOf 3)) = ys[0]? := hf 0 _ rfl
  have f1 : DataW.trod enc Tryz.prog W 0 (fun _ => true) true n 3 (([c0, c1, c2, c3, c4] : List Value).drop 1 |>.take (Tryz.prog.cellsOf 3)) = ys[1]? := hf 1 _ rfl
  have f2 : DataW.trod enc Tryz.prog W 0 (fun _ => true) true n 3 (([c0, c1, c2, c3, c4] : List Value).drop 2 |>.take (Tryz.prog.cellsOf 3)) = ys[2]? := hf 2 _ rfl
  have f3 : DataW.trod enc Tryz.prog W 0 (fun _ => true) true n 4 (([c0, c1, c2, c3, c4] : List Value).drop 3 |>.take (Tryz.prog.cellsOf 4)) = ys[3]? := hf 3 _ rfl
  have f4 : DataW.trod enc Tryz.prog W 0 (fun _ => true) true n 4 (([c0, c1, c2, c3, c4] : List Value).drop 4 |>.take (Tryz.prog.cellsOf 4)) = ys[4]? := hf 4 _ rfl
  simp only [kB, aEm, List.take_succ_cons, List.take_zero, List.drop] at f0 f1 f2 f3 f4
  rw [List.getElem?_eq_getElem (by omega)] at f0 f1 f2 f3 f4
  obtain ⟨a, e0, _⟩ := DataW.trod_int Tryz.underlying3 f0
  obtain ⟨b, e1, _⟩ := DataW.trod_int Tryz.underlying3 f1
  obtain ⟨c, e2, _⟩ := DataW.trod_int Tryz.underlying3 f2
  obtain ⟨r, e3, _⟩ := DataW.trod_bool Tryz.underlying4 f3
  obtain ⟨q, e4, _⟩ := DataW.trod_bool Tryz.underlying4 f4
  simp at e0 e1 e2 e3 e4
  subst e0 e1 e2 e3 e4
  exact ⟨⟨a, b, c, r, q⟩, rfl⟩
theorem aBc {fuel : Nat} {v : Value} {x : DataW H × List MemPlace} (h : DataW.trod enc Tryz.prog W 0 (fun _ => true) true fuel 55 [v] = some x) : ∃ rs : List Rule, cK W v rs ∧ rs.length ≤ Rows.uptoBulk x.1 := by
 haveI : Inhabited Rule := ⟨⟨0, 0, 0, false, false⟩⟩
 obtain ⟨rs, a, c, rfl, _, hb, _, hl⟩ := oM (α := Rule) Tryz.underlying55 rJ (by decide) h (fun y cs _ => cs = y.cells.toList) (fun n cs d pl h => aBb h)
 refine ⟨rs, ⟨a, c, rfl, ?_⟩, hb⟩
 rcases hl with rfl | ⟨b, o, rfl, hlt, hc⟩
 ·exact .inl rfl
 ·refine .inr ⟨b, o, rfl, hlt, fun i y hi j u hu => ?_⟩
  obtain ⟨cs, _, rfl, hcell⟩ := hc i y hi
  exact hcell j u (by rw [Array.getElem?_toList]; exact hu)
theorem xA {fuel : Nat} {v : Value} {x : DataW H × List MemPlace} (h : DataW.trod enc Tryz.prog W 0 (fun _ => true) true fuel 56 [v] = some x) : ∃ a c, ∃ LL : List (List Rule), v = .slice a LL.length c ∧ bZ W (.slice a LL.length c) LL ∧ (a = none → c = 0) ∧ LL.length ≤ Rows.uptoBulk x.1 ∧ ∀ rs ∈ LL, rs.length ≤ Rows.uptoBulk x.1 := by
 obtain ⟨LL, a, c, rfl, ha, hb, hm, hl⟩ := oM (α := List Rule) Tryz.underlying56 aHc (by decide) h (fun y cs d => ∃ u, cs = [u] ∧ cK W u y ∧ y.length ≤ Rows.uptoBulk d) (fun n cs d pl h => by
  obtain ⟨u, rfl⟩ : ∃ u, cs = [u] := by
   rcases open_slice Tryz.underlying55 h with ⟨hcs, _⟩ | ⟨_, _, _, _, _, _, _, hcs, _⟩
   ·exact ⟨_, hcs⟩
   ·exact ⟨_, hcs⟩
  obtain ⟨rs, h1, h2⟩ := aBc h
  exact ⟨rs, u, rfl, h1, h2⟩)
 refine ⟨a, c, LL, rfl, ⟨a, c, rfl, ?_⟩, ha, hb, fun rs m => ?_⟩
 ·rcases hl with rfl | ⟨b, o, rfl, hlt, hc⟩
  ·exact .inl rfl
  ·refine .inr ⟨b, o, rfl, hlt, fun i rs hi => ?_⟩
   obtain ⟨cs, d, ⟨u, rfl, hu, _⟩, hcell⟩ := hc i rs hi
   refine ⟨u, ?_, hu⟩
   have := hcell 0 u rfl
   rw [Nat.mul_one, Nat.add_zero] at this
   exact this
 ·obtain ⟨cs, d, ⟨u, _, _, h2⟩, h3⟩ := hm rs m
  omega
theorem aC7 {fuel : Nat} {c0 c1 c2 c3 c4 c5 : Value} {x : DataW H × List MemPlace} (h : DataW.trod enc Tryz.prog W 0 (fun _ => true) true fuel 58 [c0, c1, c2, c3, c4, c5] = some x) : ∃ z0 z1 z2 z3 lim a c, ∃ LL : List (List Rule), c0 = .int .i64 z0 ∧ c1 = .int .i64 z1 ∧ c2 = .int .i64 z2 ∧ c3 = .int .i64 z3 ∧ c4 = .int .i64 lim ∧ c5 = .slice a LL.length c ∧ bZ W (.slice a LL.length c) LL ∧ (a = none → c = 0) ∧ LL.length ≤ Rows.uptoBulk x.1 ∧ ∀ rs ∈ LL, rs.length ≤ Rows.uptoBulk x.1 := by
 obtain ⟨ys, n, _, rfl, hl, hlen, hf⟩ := DataW.trod_struct Tryz.underlying58 h
 have z : ys.length = 3 := hlen
 have f0 : DataW.trod enc Tryz.prog W 0 (fun _ => true) true n 31 (([c0, c1, c2, c3, c4, c5] : List Value).drop 0 |>.take (Tryz.prog.cellsOf 31)) = ys[0]? := hf 0 _ rfl
 have f1 : DataW.trod enc Tryz.prog W 0 (fun _ => true) true n 3 (([c0, c1, c2, c3, c4, c5] : List Value).drop 4 |>.take (Tryz.prog.cellsOf 3)) = ys[1]? := hf 1 _ rfl
 have f2 : DataW.trod enc Tryz.prog W 0 (fun _ => true) true n 56 (([c0, c1, c2, c3, c4, c5] : List Value).drop 5 |>.take (Tryz.prog.cellsOf 56)) = ys[2]? := hf 2 _ rfl
 simp only [kB, aHb, aFx, List.take_succ_cons, List.take_zero, List.drop] at f0 f1 f2
 rw [List.getElem?_eq_getElem (by omega)] at f0 f1 f2
 obtain ⟨zs, m, _, _, _, hz, hg⟩ := DataW.trod_array Tryz.underlying31 f0
 have g0 := hg 0 (by omega)
 have g1 := hg 1 (by omega)
 have g2 := hg 2 (by omega)
 have g3 := hg 3 (by omega)
 simp only [kB, Nat.mul_one, List.take_succ_cons, List.take_zero, List.drop] at g0 g1 g2 g3
 rw [List.getElem?_eq_getElem (by omega)] at g0 g1 g2 g3
 obtain ⟨z0, e0, _⟩ := DataW.trod_int Tryz.underlying3 g0
 obtain ⟨z1, e1, _⟩ := DataW.trod_int Tryz.underlying3 g1
 obtain ⟨z2, e2, _⟩ := DataW.trod_int Tryz.underlying3 g2
 obtain ⟨z3, e3, _⟩ := DataW.trod_int Tryz.underlying3 g3
 obtain ⟨lim, e4, _⟩ := DataW.trod_int Tryz.underlying3 f1
 obtain ⟨a, c, LL, e5, hL, ha, h1, h2⟩ := xA f2
 simp at e0 e1 e2 e3 e4
 have mm : (ys[2]'(by omega)).1 ∈ ys.map (·.1) := List.mem_map.2 ⟨_, List.getElem_mem _, rfl⟩
 have q : Rows.uptoBulk (ys[2]'(by omega)).1 ≤ Rows.uptoBulk (.agg (ys.map (·.1))) := by
  have := kE mm
  simp only [Rows.uptoBulk]
  omega
 exact ⟨z0, z1, z2, z3, lim, a, c, LL, e0, e1, e2, e3, e4, e5, hL, ha, Nat.le_trans h1 q, fun rs m => Nat.le_trans (h2 rs m) q⟩
end
section
variable {H : Type} {enc : TypeId × Value → H} {W : World}
theorem aC6 {fuel : Nat} {cs : List Value} {x : DataW H × List MemPlace} (h : DataW.trod enc Tryz.prog W 0 (fun _ => true) true fuel 95 cs = some x) :
  ∃ o : Int × OpV, cs = (o.2.cells o.1).toList ∧ (Rows.uptoBulk x.1 ≤ 1048576 → OpOk W o.2) := by
 obtain ⟨ys, n, _, rfl, hl, hlen, hf⟩ := DataW.trod_struct Tryz.underlying95 h
 rw [zY] at hl
 have z : ys.length = 9 := hlen
 match cs, hl with
 | [c0, c1, c2, c3, c4, c5, c6, c7, c8, c9, c10, c11, c12, c13], _ =>
  have f0 : DataW.trod enc Tryz.prog W 0 (fun _ => true) true n 3 (([c0, c1, c2, c3, c4, c5, c6, c7, c8, c9, c10, c11, c12, c13] : List Value).drop 0 |>.take (Tryz.prog.cellsOf 3)) = ys[0]? := hf 0 _ rfl
  have f1 : DataW.trod enc Tryz.prog W 0 (fun _ => true) true n 3 (([c0, c1, c2, c3, c4, c5, c6, c7, c8, c9, c10, c11, c12, c13] : List Value).drop 1 |>.take (Tryz.prog.cellsOf 3)) = ys[1]? := hf 1 _ rfl
  have f2 : DataW.trod enc Tryz.prog W 0 (fun _ => true) true n 3 (([c0, c1, c2, c3, c4, c5, c6, c7, c8, c9, c10, c11, c12, c13] : List Value).drop 2 |>.take (Tryz.prog.cellsOf 3)) = ys[2]? := hf 2 _ rfl
  have f3 : DataW.trod enc Tryz.prog W 0 (fun _ => true) true n 3 (([c0, c1, c2, c3, c4, c5, c6, c7, c8, c9, c10, c11, c12, c13] : List Value).drop 3 |>.take (Tryz.prog.cellsOf 3)) = ys[3]? := hf 3 _ rfl
  have f4 : DataW.trod enc Tryz.prog W 0 (fun _ => true) true n 3 (([c0, c1, c2, c3, c4, c5, c6, c7, c8, c9, c10, c11, c12, c13] : List Value).drop 4 |>.take (Tryz.prog.cellsOf 3)) = ys[4]? := hf 4 _ rfl
  have f5 : DataW.trod enc Tryz.prog W 0 (fun _ => true) true n 9 (([c0, c1, c2, c3, c4, c5, c6, c7, c8, c9, c10, c11, c12, c13] : List Value).drop 5 |>.take (Tryz.prog.cellsOf 9)) = ys[5]? := hf 5 _ rfl
  have f6 : DataW.trod enc Tryz.prog W 0 (fun _ => true) true n 24 (([c0, c1, c2, c3, c4, c5, c6, c7, c8, c9, c10, c11, c12, c13] : List Value).drop 6 |>.take (Tryz.prog.cellsOf 24)) = ys[6]? := hf 6 _ rfl
  have f7 : DataW.trod enc Tryz.prog W 0 (fun _ => true) true n 58 (([c0, c1, c2, c3, c4, c5, c6, c7, c8, c9, c10, c11, c12, c13] : List Value).drop 7 |>.take (Tryz.prog.cellsOf 58)) = ys[7]? := hf 7 _ rfl
  simp only [kB, aHf, aHd, aHe, List.take_succ_cons, List.take_zero, List.drop] at f0 f1 f2 f3 f4 f5 f6 f7
  rw [List.getElem?_eq_getElem (by omega)] at f0 f1 f2 f3 f4 f5 f6 f7
  obtain ⟨k, e0, _, w0⟩ := DataW.trod_int Tryz.underlying3 f0
  obtain ⟨a, e1, _, w1⟩ := DataW.trod_int Tryz.underlying3 f1
  obtain ⟨b, e2, _, w2⟩ := DataW.trod_int Tryz.underlying3 f2
  obtain ⟨c, e3, _, w3⟩ := DataW.trod_int Tryz.underlying3 f3
  obtain ⟨d, e4, _, w4⟩ := DataW.trod_int Tryz.underlying3 f4
  obtain ⟨s, e5, y5, w5⟩ := DataW.trod_string Tryz.underlying9 f5
  simp at e0 e1 e2 e3 e4 e5
  subst e0 e1 e2 e3 e4 e5
  have part : ∀ (i : Nat) (hi : i < ys.length), Rows.uptoBulk (ys[i]).1 ≤ Rows.uptoBulk (.agg (ys.map (·.1))) := fun i hi => by
   have := kE (List.mem_map.2 ⟨ys[i], List.getElem_mem hi, rfl⟩ : (ys[i]).1 ∈ ys.map (·.1))
   simp only [Rows.uptoBulk]
   omega
  refine ⟨(k, ⟨a, b, c, d, s, c6, c7, c8, c9, c10, c11, c12, c13⟩), rfl, fun hk => ?_⟩
  have hk : Rows.uptoBulk (.agg (ys.map (·.1))) ≤ 1048576 := hk
  obtain ⟨la, lc, xs, el, hl6, hx6⟩ := aGz f6
  obtain ⟨z0, z1, z2, z3, lim, ra, rc, LL, g0, g1, g2, g3, g4, g5, hL, ha, h1, h2⟩ := aC7 f7
  have p5 := part 5 (by omega)
  have p6 := part 6 (by omega)
  have p7 := part 7 (by omega)
  refine ⟨⟨la, lc, xs, el, hl6, by omega⟩, ⟨z0, z1, z2, z3, lim, ra, rc, LL, g0, g1, g2, g3, g4, g5, hL, ha, by omega, fun rs m => by have := h2 rs m; omega⟩, ?_, aCa w1, aCa w3⟩
  rw [y5] at p5
  simp only [Rows.uptoBulk, Array.length_toList] at p5 hk
  show s.data.size ≤ _
  omega
theorem lI {v : Value} {d : DataW H} {p : List MemPlace} (h : DataW.Trod enc Tryz.prog W 0 (fun _ => true) true 22 v d p) {os : Option Addr} {len cap : Nat} (hv : v = .slice os len cap) (hk : Rows.uptoBulk d ≤ 1048576) :
  ∃ ops : List (Int × OpV), len = ops.length ∧ nD W.heap.size W os ops ∧ ops.length ≤ 1048576 ∧ (∀ op ∈ ops, OpOk W op.2) := by
 subst hv
 obtain ⟨fuel, hf⟩ := h
 have none : len = 0 → ∃ ops : List (Int × OpV), len = ops.length ∧ nD W.heap.size W os ops ∧ ops.length ≤ 1048576 ∧ (∀ op ∈ ops, OpOk W op.2) := fun e => ⟨[], by simpa using e, fun i op ho => by simp at ho, by simp, by simp⟩
 rcases open_slice Tryz.underlying22 hf with ⟨hcs, _⟩ | ⟨a, len', cap', m, n, D, Pl, hcs, _, hl, hm, hmm, hx, hel⟩
 ·simp [Value.cells] at hcs
  exact none hcs.2.1
 ·simp [Value.cells] at hcs
  obtain ⟨rfl, rfl, rfl⟩ := hcs
  simp only [Prod.mk.injEq] at hx
  obtain ⟨rfl, _⟩ := hx
  have hs := pK ((List.range len).map D) ((List.range (m - len)).map fun j => D (len + j))
  have hlen : len ≤ 1048576 := by have := hs.1; simp at this; omega
  have hml : len ≤ m := by rw [hmm]; split <;> omega
  rw [zY] at hel
  by_cases h0 : len = 0
  ·exact none h0
  ·have inh : Inhabited (Int × OpV) := ⟨(0, ⟨0, 0, 0, 0, ByteArray.empty, .bool false, .bool false, .bool false, .bool false, .bool false, .bool false, .bool false, .bool false⟩)⟩
   obtain ⟨f, hfn⟩ := choose_lt (α := Int × OpV) (n := len) (p := fun i o => W.cells? 0 (a.add (i * 14)) 14 = some (o.2.cells o.1).toList ∧ OpOk W o.2) (fun i hi => by
    obtain ⟨cs', h1, h2⟩ := hel i (by omega)
    obtain ⟨o, e, q1⟩ := aC6 h2
    have hD : Rows.uptoBulk (D i) ≤ Rows.uptoBulkAll ((List.range len).map D) := kE (List.mem_map.2 ⟨i, List.mem_range.2 hi, rfl⟩)
    exact ⟨o, by rw [h1, e], q1 (by have := hs.2; show Rows.uptoBulk (D i) ≤ _; omega)⟩)
   have cell : ∀ i, i < len → ∀ j, j < 14 → W.cell? ((a.add (i * 14)).add j) = ((f i).2.cells (f i).1).toList[j]? := fun i hi j hj => (World.cells?_some (hfn i hi).1).2.2 j hj
   have c0 := cell 0 (by omega) 0 (by omega)
   simp [Addr.add, OpV.cells] at c0
   obtain ⟨sb, so, rfl⟩ := kL c0
   have hlt := World.block_lt_of_cell? W _ c0
   have mem : ∀ op ∈ (List.range len).map f, ∃ i, i < len ∧ op = f i := fun op ho => by
    obtain ⟨i, hi, rfl⟩ := List.mem_map.1 ho
    exact ⟨i, List.mem_range.1 hi, rfl⟩
   refine ⟨(List.range len).map f, by simp, fun i op ho => ?_, by simpa using hlen, fun op ho => ?_⟩
   ·rw [List.getElem?_map] at ho
    by_cases hi : i < len
    ·rw [List.getElem?_range hi] at ho
     obtain rfl : f i = op := by simpa using ho
     refine ⟨sb, so, rfl, hlt, fun j u hu => ?_⟩
     have hj : j < 14 := by
      have := (Array.getElem?_eq_some_iff.1 hu).1
      simpa [OpV.cells] using this
     have := cell i hi j hj
     rw [jE, jE] at this
     rw [this, Array.getElem?_toList, hu]
    ·rw [List.getElem?_eq_none (by simp; omega)] at ho
     cases ho
   ·obtain ⟨i, hi, rfl⟩ := mem op ho
    exact (hfn i hi).2
end
end Go.Proofs.YtfekelmldebplaaGreatDoor
