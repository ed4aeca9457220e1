import Derived.Lib.SliceRun
import Derived.Deep.RegionHeld3
import Derived.Deep.DrawnRows
import Derived.Test.YtfekelmldebplaaGreatDoorF
set_option maxRecDepth 100000
set_option maxHeartbeats 8000000
namespace Go.Proofs.YtfekelmldebplaaGreatDoor
open Go.RowKit
attribute [local go_sem ↓] Go.wp_at_zero Go.wp_at_succ
theorem aD {w X w1 : World} (h : Below w.heap.size w X) (k : Below X.heap.size X w1) : Below w.heap.size w w1 := h.trans (k.mono h.size)
structure Fr where
 mark : Int
 unit : Int
 data : List Int
def toFr (h : List Int) : Fr := ⟨256 * h.getD 0 0 + h.getD 1 0, h.getD 6 0, h.drop 7⟩
def aHo (s : List Fr × List Int × Bool) (x : Int) : List Fr × List Int × Bool :=
 if s.2.2 = true then s else if aHu s.2.1 x = true then (if aGt (s.2.1 ++ [x]) = true then (s.1 ++ [toFr (s.2.1 ++ [x])], [], false) else (s.1, s.2.1 ++ [x], false)) else (s.1, [], true)
def aGp (s : List Fr × List Int × Bool) (xs : List Int) : List Fr × List Int × Bool := xs.foldl aHo s
def Held (h : List Int) : Prop := Bys h ∧ (5 ≤ h.length → h.getD 4 0 = 0) ∧ (6 ≤ h.length → 2 ≤ h.getD 5 0 ∧ h.getD 5 0 ≤ 254 ∧ (h.length : Int) < 6 + h.getD 5 0)
theorem aJ {w w' : World} {base : Nat} {e : TypeId} {size : Nat} {v : Value} {n : Nat} {xs : List Value} (h : w.ownsRow base e size v n xs) (hk : ∀ k, base ≤ k → k < w.heap.size → v.ownBlock = some k → w'.heap[k]? = w.heap[k]?) : w'.ownsRow base e size v n xs := by
 have hlt := h.lt
 obtain ⟨h1, h2⟩ := h
 refine ⟨h1, h2.imp id ?_⟩
 rintro ⟨g, cap, cur, hv, hg, hh, r⟩
 have hl := hlt g (by rw [hv]; rfl)
 exact ⟨g, cap, cur, hv, hg, by rw [hk g hl.1 hl.2 (by rw [hv]; rfl)]; exact hh, r⟩
def aF1 (f : Fr) : List Int := aG9 f.mark f.unit f.data
theorem aBu (F : List Int) (k i : Nat) (h : i < k) : (F.take k).getD i 0 = F.getD i 0 := by
 simp [List.getD, h]
def lX (fs : List Fr) : List Int := (fs.map aF1).flatten
def aEk (fs : List Fr) (d : Nat) : Nat := (lX (fs.take d)).length
def Due (fs : List Fr) (p d : Nat) : Prop := d ≤ fs.length ∧ aEk fs d ≤ p ∧ (d = fs.length ∨ p < aEk fs (d + 1))
attribute [local go_sem ↓] Go.wp_at_zero Go.wp_at_succ
def aGq (fs : List Fr) (k : Nat) : List Int := (List.range k).map fun j => ((aEk fs (j + 1) : Nat) : Int)
structure L1 (w : World) (fs : List Fr) (k : Nat) (a en : Value) (wr : World) : Prop where
 own : Owns wr (w.heap.size + 1) a (lX (fs.take k))
 ends : wr.ownsRow (w.heap.size + 1) 3 1 en k ((aGq fs k).map (Value.int .i64))
 spl : wr.heap[w.heap.size]? = some (.cells (spl [] false) 181 (0, 0))
 below : Below w.heap.size w wr
theorem kS : (Tryz.prog.info? 3).map (fun i => (i.zero, i.size, i.bytes)) = some (some (.int .i64 0), 1, 8) := by kernel_rfl
theorem Owns.weak {w : World} {base base' : Nat} {v : Value} {xs : List Int} (h : Owns w base v xs) (hb : base' ≤ base) : Owns w base' v xs := by
 obtain ⟨h1, h2⟩ := h
 refine ⟨h1, h2.imp id ?_⟩
 rintro ⟨g, cap, cur, hv, hg, r⟩
 exact ⟨g, cap, cur, hv, by omega, r⟩
theorem Owns.kept {w w' : World} {base : Nat} {v : Value} {xs : List Int} (h : Owns w base v xs) (hb : Below w.heap.size w w') : Owns w' base v xs := aJ h fun k _ h2 _ => hb.block k h2
structure L2 (w : World) (fs : List Fr) (a en : Value) (p d : Nat) (wr : World) : Prop where
 own : Owns wr (w.heap.size + 1) a (lX fs)
 ends : wr.ownsRow (w.heap.size + 1) 3 1 en fs.length ((aGq fs fs.length).map (Value.int .i64))
 due : Due fs p d
 le : p ≤ (lX fs).length
 spl : ∃ q, aGp ([], [], false) ((lX fs).take p) = (fs.take d, q, false) ∧ Held q ∧ (p = (lX fs).length → q = []) ∧ wr.heap[w.heap.size]? = some (.cells (spl q false) 181 (0, 0))
 below : Below w.heap.size w wr
theorem bU {w : World} {base : Nat} {e : TypeId} {size : Nat} {v : Value} {n : Nat} {xs : List Value} (h : w.ownsRow base e size v n xs) : ∃ oa cap, v = .slice oa n cap ∧ (oa = none → n = 0) ∧ ∀ x, oa = some x → ∃ g, x = ⟨g, 0, none⟩ ∧ n ≤ cap := by
 rcases h.2 with ⟨rfl, rfl⟩ | ⟨g, cap, cur, rfl, _, _, h1, _⟩
 ·exact ⟨none, 0, rfl, fun _ => rfl, fun _ e => by cases e⟩
 ·exact ⟨some ⟨g, 0, none⟩, cap, rfl, (fun e => by cases e), fun x e => ⟨g, by cases e; rfl, h1⟩⟩
def zU (mark unit : Int) (n : Nat) : Bool := inB 0 mark 65535 && inB 0 unit 255 && inB 2 ((n : Int) + 1) 254
theorem encode_err (mark unit : Int) (a : Option Addr) (n c : Nat) (w : World) (hn : n ≤ 140737488355328) (h : zU mark unit n = false) :
  Calls Tryz.prog 79 #[.int .i64 mark, .int .i64 unit, .slice a n c] w fun e w' => e = .returned (.tuple #[.slice none 0 0, .int .i64 1]) ∧ w' = w := by
 unfold zU at h
 by_cases b1 : inB 0 mark 65535 = true
 ·by_cases b2 : inB 0 unit 255 = true
  ·have b3 : inB 2 ((n : Int) + 1) 254 = false := by simpa [b1, b2] using h
   clear h
   go_enter Tryz.func79, Tryz.ntmps79
   go_wp2_with (go_at_call 137; refine (kP _ _ _ _).mono ?_; rintro e w ⟨rfl, rfl⟩)
   go_ret2
   exact ⟨rfl, rfl⟩
  ·have b2' : inB 0 unit 255 = false := by simpa using b2
   clear h b2
   go_enter Tryz.func79, Tryz.ntmps79
   go_wp2_with (go_at_call 137; refine (kP _ _ _ _).mono ?_; rintro e w ⟨rfl, rfl⟩)
   go_ret2
   exact ⟨rfl, rfl⟩
 ·have b1' : inB 0 mark 65535 = false := by simpa using b1
  clear h b1
  go_enter Tryz.func79, Tryz.ntmps79
  go_wp2_with (go_at_call 137; refine (kP _ _ _ _).mono ?_; rintro e w ⟨rfl, rfl⟩)
  go_ret2
  exact ⟨rfl, rfl⟩
theorem aAt (n : Int) (w : World) (h0 : 0 ≤ n) (h1 : n ≤ 65535) :
  Calls Tryz.prog 80 #[.int .i64 n] w fun e w' => e = .returned (.slice (some ⟨w.heap.size, 0, none⟩) 2 2) ∧ w' = w.alloc (.cells #[.int .u8 (n / 256), .int .u8 (n % 256)] 5) := by
 go_enter Tryz.func80, Tryz.ntmps80
 go_wp2
 go_ret
 exact ⟨rfl, rfl⟩
theorem aBp (c n : Int) (w : World) (h0 : 0 < n) (hn : n ≤ 4611686018427387904) (c0 : -9223372036854775808 ≤ c) (c1 : c ≤ 9223372036854775807) :
  Calls Tryz.prog 59 #[.int .i64 c, .int .i64 n] w fun e w' => e = .returned (.int .i64 (kM c n)) ∧ w' = w := by
 by_cases h1 : c < 0
 ·go_enter Tryz.func59, Tryz.ntmps59
  go_wp2
  go_ret
  exact ⟨fL (by unfold kM; rw [if_pos h1]; rw [← Int.neg_tmod]; exact Int.tmod_eq_emod_of_nonneg (a := -(c + 1)) (by omega)), rfl⟩
 ·go_enter Tryz.func59, Tryz.ntmps59
  go_wp2
  go_ret
  exact ⟨fL (by unfold kM; rw [if_neg (by omega)]), rfl⟩
theorem yZ (b o n c i : Nat) (x y : Int) (w : World) (hi : i + 1 < n) (hn : n ≤ 140737488355328) (hx : w.cell? ⟨b, o + i, none⟩ = some (.int .u8 x)) (hy : w.cell? ⟨b, o + (i + 1), none⟩ = some (.int .u8 y)) (bx : 0 ≤ x ∧ x < 256) (by_ : 0 ≤ y ∧ y < 256) :
  Calls Tryz.prog 176 #[.slice (some ⟨b, o, none⟩) n c, .int .i64 i] w fun e w' => e = .returned (.int .i64 (256 * x + y)) ∧ ∃ nq, w' = w.drewN nq := by
 have h1 : (i : Int) < (n : Int) := by omega
 have h2 : (i : Int) + 1 < (n : Int) := by omega
 go_enter Tryz.func176, Tryz.ntmps176
 go_wp2_with fail
 go_quiet (fail)
 go_wp2
 go_ret
 exact ⟨rfl, _, rfl⟩
theorem aHh (w : World) (x y : Value) : ∀ (j : Nat) (u : Value), [x, y][j]? = some u → (w.alloc (.cells #[x, y] 5)).cell? ((⟨w.heap.size, 0, none⟩ : Addr).add j) = some u := fun j u hj => by
 have e : (⟨w.heap.size, 0, none⟩ : Addr).add j = ⟨w.heap.size, 0 + j, none⟩ := by unfold Addr.add; split <;> simp_all
 rw [e, Nat.zero_add, cell_of_row _ _ _ _ _ _ (heap_alloc_new w _)]
 simpa using hj
theorem aEn (w : World) (x : Value) : ∀ (j : Nat) (u : Value), [x][j]? = some u → (w.alloc (.cells #[x] 5)).cell? ((⟨w.heap.size, 0, none⟩ : Addr).add j) = some u := fun j u hj => by
 have e : (⟨w.heap.size, 0, none⟩ : Addr).add j = ⟨w.heap.size, 0 + j, none⟩ := by unfold Addr.add; split <;> simp_all
 rw [e, Nat.zero_add, cell_of_row _ _ _ _ _ _ (heap_alloc_new w _)]
 simpa using hj
def fJ (w : World) (v : Value) (m : Nat) : Prop :=
 ∃ a n c, v = .slice a n c ∧ n ≤ 1000000000000 ∧ (0 < n → ∃ g o, a = some ⟨g, o, none⟩ ∧ g < w.heap.size ∧ ∀ i, i < n → w.cell? ⟨g, o + i, none⟩ = some (.int .u8 ((m : Int) % 251)))
def aAf (w : World) (v : Value) (m : Nat) : Prop :=
 ∃ a n c, v = .slice a n c ∧ n ≤ 1000000000000 ∧ (0 < n → ∃ g o, a = some ⟨g, o, none⟩ ∧ g < w.heap.size ∧ ∀ i, i < n → w.cell? ⟨g, o + i * 3, none⟩ = some (.int .i64 (-1000 - (m : Int))) ∧ w.cell? ⟨g, o + i * 3 + 1, none⟩ = some (.int .i64 0) ∧ w.cell? ⟨g, o + i * 3 + 2, none⟩ = some (.slice none 0 0))
theorem fJ.kept {w w' : World} {v : Value} {m : Nat} (h : fJ w v m) (hs : w.heap.size ≤ w'.heap.size) (hk : ∀ k, k < w.heap.size → v.ownBlock = some k → w'.heap[k]? = w.heap[k]?) : fJ w' v m := by
 obtain ⟨a, n, c, rfl, hn, h1⟩ := h
 refine ⟨a, n, c, rfl, hn, fun hp => ?_⟩
 obtain ⟨g, o, rfl, hg, hc⟩ := h1 hp
 exact ⟨g, o, rfl, by omega, fun i hi => by rw [← hc i hi]; exact World.cell?_of_block (hk g hg rfl)⟩
theorem gM (v : Value) (m : Nat) (w : World) (h : fJ w v m) (hm : m ≤ 1000000000000) :
  Calls Tryz.prog 99 #[v, .int .i64 m] w fun e w' => e = .returned (.bool true) ∧ w' = w := by
 obtain ⟨a, n, c, rfl, hn, h1⟩ := h
 have H1 := hide h1
 clear h1
 go_enter Tryz.func99, Tryz.ntmps99
 go_wp2
 go_loop [5] (fun i => ∃ k : Nat, k ≤ n ∧ i = .int .i64 k) (fun i => n - (intOf i).toNat)
 case atStart => exact ⟨0, Nat.zero_le _, rfl⟩
 case round =>
  obtain ⟨k, hk, rfl⟩ := hrel
  by_cases hlt : k < n
  ·obtain ⟨g, o, rfl, _, hc⟩ := aA H1 (by omega)
   have c1 := hc k hlt
   clear hc H1
   have hb : (0 : Int) ≤ (m : Int) % 251 ∧ (m : Int) % 251 < 251 := by omega
   go_wp2
   all_goals first
    | (go_round
       case rel => exact ⟨k + 1, by omega, by go_num⟩
       case measure => simp [intOf]; omega)
    | (exfalso; simp_all)
  ·go_wp2
   go_ret
   exact ⟨rfl, rfl⟩
theorem wU (v0 v1 v2 v3 : Value) (m : Nat) (w : World) (h0 : fJ w v0 m) (h1 : fJ w v1 m) (h2 : fJ w v2 m) (h3 : fJ w v3 m) (hm : m ≤ 1000000000000) :
  Calls Tryz.prog 60 #[.agg #[v0, v1, v2, v3, .int .i64 m]] w fun e w' => e = .returned (.bool true) ∧ Below w.heap.size w w' := by
 have K : ∀ v, fJ w v m → fJ (w.alloc (.cells #[v0, v1, v2, v3, .int .i64 m] 125)) v m := fun v h => h.kept (by simp) fun k hk _ => Below.heap_alloc _ _ _ hk
 have H0 := hide (K v0 h0)
 have H1 := hide (K v1 h1)
 have H2 := hide (K v2 h2)
 have H3 := hide (K v3 h3)
 clear K h0 h1 h2 h3
 go_enter Tryz.func60, Tryz.ntmps60
 go_wp2_with fail
 refine (gM v0 m _ (aA H0) hm).mono ?_
 rintro e w1 ⟨rfl, rfl⟩
 go_wp2_with fail
 refine (gM v1 m _ (aA H1) hm).mono ?_
 rintro e w1 ⟨rfl, rfl⟩
 go_wp2_with fail
 refine (gM v2 m _ (aA H2) hm).mono ?_
 rintro e w1 ⟨rfl, rfl⟩
 go_wp2_with fail
 refine (gM v3 m _ (aA H3) hm).mono ?_
 rintro e w1 ⟨rfl, rfl⟩
 go_wp2
 go_ret
 exact ⟨rfl, (Below.refl _ _).alloc (Nat.le_refl _) _⟩
end Go.Proofs.YtfekelmldebplaaGreatDoor
