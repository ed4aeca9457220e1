import Derived.Test.YtfekelmldebplaaGreatDoorSg
import Derived.ArgAppend
namespace Go.Proofs.YtfekelmldebplaaGreatDoor
open Go.RowKit

theorem own_block_of {w : World} {base : Nat} {e : TypeId} {size : Nat} {v : Value} {n : Nat} {xs : List Value} (h : w.ownsRow base e size v n xs) (hn : 0 < n) : ∃ k, base ≤ k ∧ v.ownBlock = some k := by
  obtain ⟨g, cap, rfl, h1, _⟩ := h.form hn
  exact ⟨g, h1, rfl⟩
theorem own_weak {w : World} {base base' : Nat} {e : TypeId} {size : Nat} {v : Value} {n : Nat} {xs : List Value} (h : w.ownsRow base e size v n xs) (hb : base' ≤ base) : w.ownsRow base' e size v n xs := by
  obtain ⟨h1, h2⟩ := h
  refine ⟨h1, h2.imp id ?_⟩
  rintro ⟨g, cap, cur, hv, hg, r⟩
  exact ⟨g, cap, cur, hv, by omega, r⟩

/-- Behind an append to v: in place (v' has v's head and capacity; that block alone has turned), or in a new block (nothing old has turned). -/
def Kept (w w' : World) (base : Nat) (v v' : Value) (n m : Nat) : Prop :=
  (∃ g cap, v = .slice (some ⟨g, 0, none⟩) n cap ∧ v' = .slice (some ⟨g, 0, none⟩) (n + m) cap ∧ base ≤ g ∧ g < w.heap.size ∧ w.grownBy w' (some g)) ∨ ((∃ k, w.heap.size ≤ k ∧ v'.ownBlock = some k) ∧ w.grownBy w' none)

/-- A shorter slice over the same row. -/
theorem own_shorter {w : World} {base g N cap : Nat} {e : TypeId} {size : Nat} {XS : List Value} (h : w.ownsRow base e size (.slice (some ⟨g, 0, none⟩) N cap) N XS) (n : Nat) (hn : n ≤ N) : w.ownsRow base e size (.slice (some ⟨g, 0, none⟩) n cap) n (XS.take (n * size)) := by
  have hl := h.1
  have hmul : n * size ≤ N * size := Nat.mul_le_mul_right _ hn
  rcases h.2 with ⟨e', _⟩ | ⟨g2, cap2, cur2, e', hg2, hh2, hle, hmax2, hcs2, hct2⟩
  · cases e'
  · have e2 : g = g2 ∧ cap = cap2 := by
      simp only [Value.slice.injEq, Option.some.injEq, Addr.mk.injEq] at e'
      exact ⟨e'.1.1, e'.2.2⟩
    obtain ⟨rfl, rfl⟩ := e2
    refine ⟨by rw [List.length_take]; omega, .inr ⟨g, cap, cur2, rfl, hg2, hh2, by omega, hmax2, hcs2, ?_⟩⟩
    rw [← hct2, List.take_take, Nat.min_eq_left hmul]

/-- append TO A LIST THAT IS KEPT: what was there is as it was, and the new list lies behind it or in a new block. -/
theorem append_keep {ops : Array Oper} {rest : List Oper} {o : Oper} {a : Act} {Q : Exit → Act → World → Prop} (w : World) (hgd : o.guard = none) (s x : Operand) (t : TypeId)
    (ho : o.op = .call { callee := .builtin .append, args := #[s, x], argTypes := #[t, t] })
    (base : Nat) (e : TypeId) (i : TypeInfo) (z : Value) (size bytes : Nat) (ht : Tryz.prog.underlying t = some (.slice e)) (hi : Tryz.prog.info? e = some i) (hz : i.zero = some z)
    (hsize : i.size = size) (hby : i.bytes = bytes) (hzs : z.cells.size = size) (hsz : 0 < size)
    (v : Value) (n : Nat) (xs : List Value) (hs : a.eval s = v) (hown : w.ownsRow base e size v n xs)
    (ad : Addr) (m c : Nat) (news : List Value) (hx : a.eval x = .slice (some ad) m c) (hl : news.length = m * size) (hnews : ∀ j u, news[j]? = some u → w.cell? (ad.add j) = some u) (h1 : ∀ u ∈ news, u.oneCell' = true)
    (hm : 0 < m) (h63 : n + m ≤ maxLen) (hbytes : (n + m) * bytes ≤ 140737488355328) (hbase : base ≤ w.heap.size)
    (h : ∀ v' w', w'.ownsRow base e size v' (n + m) (xs ++ news) → Kept w w' base v v' n m → wpList Tryz.prog ops Q rest (a.put o.dst v') w') : wpList Tryz.prog ops Q (o :: rest) a w := by
  have hown' := hown
  rcases hown.2 with ⟨rfl, rfl⟩ | ⟨g, cap, cur, rfl, hg, hh, hle, hmax, hcs, hct⟩
  · have hxs : xs = [] := List.length_eq_zero_iff.1 (by simpa using hown.1)
    subst hxs
    refine wpList_append_grows w hgd s x t ho e i z size bytes ht hi hz hsize hby hzs hsz none 0 0 [] hs (fun _ => ⟨rfl, rfl⟩) (by simp) (fun b e => by cases e) ad m c news hx hl hnews h1 (by omega) h63 hbytes ?_
    intro v' w' r g'
    exact h v' w' (own_weak r hbase) (.inr ⟨own_block_of r (by omega), g'⟩)
  · by_cases hroom : n + m ≤ cap
    · refine wpList_append_own_spare w hgd s x t ho base e i size ht hi hsize g n cap xs hs hown' ad m c news hx hl hnews h1 hroom ?_
      intro w' r g'
      exact h _ w' r (.inl ⟨g, cap, rfl, rfl, hg, (Array.getElem?_eq_some_iff.1 hh).1, g'⟩)
    · refine wpList_append_grows w hgd s x t ho e i z size bytes ht hi hz hsize hby hzs hsz (some ⟨g, 0, none⟩) n cap xs hs (fun e => by cases e) hown.1 (fun b e => ?_) ad m c news hx hl hnews h1 (by omega) h63 hbytes ?_
      · cases e
        exact hown'.cells rfl
      intro v' w' r g'
      exact h v' w' (own_weak r hbase) (.inr ⟨own_block_of r (by omega), g'⟩)

/-- What was appended to before, at the same list v, is kept: v1 (n1 elements of the same stuff), v' (m more). -/
theorem Kept.old {w w' : World} {base : Nat} {e : TypeId} {size : Nat} {v v' v1 : Value} {n m n1 : Nat} {XS : List Value} (h : Kept w w' base v v' n m) (r : w'.ownsRow base e size v' (n + m) XS) (h1 : w.ownsRow base e size v1 n1 (XS.take (n1 * size))) (hn1 : n1 ≤ n + m)
    (hsame : ∀ g cap, v = .slice (some ⟨g, 0, none⟩) n cap → v1.ownBlock = some g → v1 = .slice (some ⟨g, 0, none⟩) n1 cap) : w'.ownsRow base e size v1 n1 (XS.take (n1 * size)) := by
  rcases h with ⟨g, cap, rfl, rfl, _, _, hg⟩ | ⟨_, hg⟩
  · by_cases e1 : v1.ownBlock = some g
    · rw [hsame g cap rfl e1]
      exact own_shorter r n1 hn1
    · exact ownsRow_keep h1 fun k _ p q => hg.block k p (fun e => e1 (by rw [q, e]))
  · exact ownsRow_keep h1 fun k _ p _ => hg.block k p (by simp)

theorem grown_trans' {w w1 w2 : World} {r : Option Nat} (h : w.grownBy w1 r) (k : w1.grownBy w2 r) : w.grownBy w2 r := h.trans k

/-- All the same, under a slice that is owned. -/
theorem Owns.mark {w : World} {B : Nat} {v : Value} {n m : Nat} (h : Owns w B v (List.replicate n ((m : Int) % 251))) (hn : n ≤ 1000000000000) : MarkB w v m := by
  rcases h.lies with ⟨a, c, rfl, e⟩ | ⟨b, o, c, rfl, hl, hb, hc⟩
  · exact ⟨a, 0, c, rfl, by omega, by omega⟩
  · simp only [List.length_replicate] at hl hc ⊢
    refine ⟨_, n, c, rfl, hn, fun hp => ⟨b, o, rfl, hb.resolve_left (fun e => by simp at e; omega), fun i hi => ?_⟩⟩
    rw [hc i hi]
    simp [List.getD, hi]
end Go.Proofs.YtfekelmldebplaaGreatDoor
