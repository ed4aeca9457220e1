import Derived.Test.YtfekelmldebplaaGreatDoorK
namespace Go.Proofs.YtfekelmldebplaaGreatDoor
open Go.RowKit
attribute [local go_sem ↓] Go.wp_at_zero Go.wp_at_succ

/-- What is sent, as it came. -/
structure SD where
  mark : Int
  unit : Int
  v : Value
  data : List Int
def SD.fr (s : SD) : Fr := ⟨pickI s.mark 65536, pickI s.unit 256, sdata s.mark s.data⟩
structure SD.Ok (w : World) (s : SD) : Prop where
  m0 : -9223372036854775808 ≤ s.mark
  m1 : s.mark ≤ 9223372036854775807
  u0 : -9223372036854775808 ≤ s.unit
  u1 : s.unit ≤ 9223372036854775807
  lies : Lies w s.v s.data
  bys : Bys s.data
  len : s.data.length ≤ 140737488355328
theorem SD.Ok.valid {w : World} {s : SD} (h : s.Ok w) : Valid s.fr := by
  have a := pickI_bd s.mark 65536 (by omega)
  have c := pickI_bd s.unit 256 (by omega)
  have d := sdata_len s.mark s.data
  exact ⟨a.1, by show pickI s.mark 65536 ≤ 65535; omega, c.1, by show pickI s.unit 256 ≤ 255; omega, sdata_bys _ _ h.bys, d.1, d.2⟩

/-- The list of what is sent, in memory. -/
structure SentAt (w : World) (sb so : Nat) (ss : List SD) : Prop where
  lt : ss ≠ [] → sb < w.heap.size
  c0 : ∀ i s, ss[i]? = some s → w.cell? ⟨sb, so + i * 3, none⟩ = some (.int .i64 s.mark)
  c1 : ∀ i s, ss[i]? = some s → w.cell? ⟨sb, so + i * 3 + 1, none⟩ = some (.int .i64 s.unit)
  c2 : ∀ i s, ss[i]? = some s → w.cell? ⟨sb, so + i * 3 + 2, none⟩ = some s.v
  ok : ∀ s ∈ ss, s.Ok w

/-- The ends of the first k frames. -/
def endsL (fs : List Fr) (k : Nat) : List Int := (List.range k).map fun j => ((endAt fs (j + 1) : Nat) : Int)
theorem endsL_len (fs : List Fr) (k : Nat) : (endsL fs k).length = k := by simp [endsL]
theorem endsL_succ (fs : List Fr) (k : Nat) : endsL fs (k + 1) = endsL fs k ++ [((endAt fs (k + 1) : Nat) : Int)] := by simp [endsL, List.range_succ]
theorem endsL_at (fs : List Fr) (k j : Nat) (h : j < k) : (endsL fs k).getD j 0 = ((endAt fs (j + 1) : Nat) : Int) := by simp [endsL, List.getD, h]

/-- Loop 1, ahead of the round k. -/
structure L1 (w : World) (fs : List Fr) (k : Nat) (a en : Value) (wr : World) : Prop where
  own : Owns wr (w.heap.size + 1) a (stream (fs.take k))
  ends : wr.ownsRow (w.heap.size + 1) 3 1 en k ((endsL fs k).map (Value.int .i64))
  spl : wr.heap[w.heap.size]? = some (.cells (spl [] false) 181 (0, 0))
  below : Below w.heap.size w wr

theorem SentAt.below {w w' : World} {sb so : Nat} {ss : List SD} (h : SentAt w sb so ss) (hb : Below w.heap.size w w') : SentAt w' sb so ss := by
  have key : ∀ (i : Nat) (s : SD), ss[i]? = some s → sb < w.heap.size := fun i s hs => h.lt (fun e => by simp [e] at hs)
  refine ⟨fun e => by have := h.lt e; have := hb.size; omega, fun i s hs => ?_, fun i s hs => ?_, fun i s hs => ?_, fun s hs => ?_⟩
  · rw [hb.cell (by exact key i s hs)]; exact h.c0 i s hs
  · rw [hb.cell (by exact key i s hs)]; exact h.c1 i s hs
  · rw [hb.cell (by exact key i s hs)]; exact h.c2 i s hs
  · have o := h.ok s hs
    exact ⟨o.m0, o.m1, o.u0, o.u1, o.lies.below hb, o.bys, o.len⟩

theorem info3s : (Tryz.prog.info? 3).map (fun i => (i.zero, i.size, i.bytes)) = some (some (.int .i64 0), 1, 8) := by kernel_rfl

theorem apart_types {w : World} {base base' : Nat} {e e' : TypeId} {size size' : Nat} {v v' : Value} {n n' : Nat} {xs xs' : List Value} (h : w.ownsRow base e size v n xs) (h' : w.ownsRow base' e' size' v' n' xs') (hne : e ≠ e') : v.ownBlock = none ∨ v.ownBlock ≠ v'.ownBlock := by
  rcases h.2 with ⟨rfl, _⟩ | ⟨g, cap, cur, rfl, _, hg, _⟩
  · exact .inl rfl
  · right
    intro e1
    rcases h'.2 with ⟨rfl, _⟩ | ⟨g', cap', cur', rfl, _, hg', _⟩
    · cases e1
    · have : g = g' := by simpa [Value.ownBlock] using e1
      subst this
      rw [hg] at hg'
      simp at hg'
      exact hne hg'.2
theorem Owns.weak {w : World} {base base' : Nat} {v : Value} {xs : List Int} (h : Owns w base v xs) (hb : base' ≤ base) : Owns w base' v xs := by
  obtain ⟨h1, h2⟩ := h
  refine ⟨h1, h2.imp id ?_⟩
  rintro ⟨g, cap, cur, hv, hg, r⟩
  exact ⟨g, cap, cur, hv, by omega, r⟩
theorem Owns.kept {w w' : World} {base : Nat} {v : Value} {xs : List Int} (h : Owns w base v xs) (hb : Below w.heap.size w w') : Owns w' base v xs := ownsRow_keep h fun k _ h2 _ => hb.block k h2

theorem L1.next {w wr w6 w7 w9 : World} {fs : List Fr} {k : Nat} {a en a' en' : Value} {C : Obj} (h : L1 w fs k a en wr) (hk : k < fs.length) (hb : Below wr.heap.size wr w6)
    (h7 : w7.ownsRow (w.heap.size + 1) 5 1 a' (endAt fs (k + 1)) ((stream (fs.take k)).map (Value.int .u8) ++ (bytesOf fs[k]).map (Value.int .u8))) (g7 : w6.grownBy w7 a.ownBlock)
    (h9 : w9.ownsRow (w.heap.size + 1) 3 1 en' (k + 1) ((endsL fs k).map (Value.int .i64) ++ [.int .i64 ((endAt fs (k + 1) : Nat) : Int)])) (g9 : (w7.alloc C).grownBy w9 en.ownBlock) : L1 w fs (k + 1) a' en' w9 := by
  have e1 : w6.ownsRow (w.heap.size + 1) 3 1 en k _ := ownsRow_keep h.ends fun j _ p _ => hb.block j p
  have o1 : w6.ownsRow (w.heap.size + 1) 5 1 a _ _ := ownsRow_keep h.own fun j _ p _ => hb.block j p
  have e2 := e1.kept g7 (apart_types e1 o1 (by decide))
  have e3 := e2.alloc C
  have o3 := h7.alloc C
  have o4 := o3.kept g9 (apart_types o3 e3 (by decide))
  have hz := h.below.size
  have hz6 := hb.size
  have hz7 := g7.size
  have hz9 := g9.size
  simp at hz9
  have ha : ∀ j, a.ownBlock = some j → w.heap.size + 1 ≤ j := fun j e => (o1.lt j e).1
  have he : ∀ j, en.ownBlock = some j → w.heap.size + 1 ≤ j := fun j e => (e1.lt j e).1
  have hlt : w.heap.size < wr.heap.size := (Array.getElem?_eq_some_iff.1 h.spl).1
  have blk : ∀ j, j ≤ w.heap.size → w9.heap[j]? = wr.heap[j]? := fun j hj => by
    rw [g9.block j (by simp; omega) (fun e => by have := he j e.symm; omega), Below.heap_alloc _ _ _ (by omega), g7.block j (by omega) (fun e => by have := ha j e.symm; omega), hb.block j (by omega)]
  refine ⟨?_, ?_, ?_, ?_⟩
  · have es : stream (fs.take (k + 1)) = stream (fs.take k) ++ bytesOf fs[k] := by rw [List.take_succ_eq_append_getElem hk, stream_append, stream_one]
    unfold Owns
    rw [es, List.map_append]
    have el : (stream (fs.take k) ++ bytesOf fs[k]).length = endAt fs (k + 1) := by rw [← es]; rfl
    rw [el]
    exact o4
  · rw [endsL_succ, List.map_append]
    exact h9
  · rw [blk _ (Nat.le_refl _)]; exact h.spl
  · refine ⟨?_, ?_, ?_, by omega, fun j hj => by rw [blk j (by omega)]; exact h.below.block j hj⟩
    · exact g9.os.trans (g7.os.trans (hb.os.trans h.below.os))
    · exact g9.tape.trans (g7.tape.trans (hb.tape.trans h.below.tape))
    · exact g9.output.trans (g7.output.trans (hb.output.trans h.below.output))

/-- The numbers of 'cuts', in memory. -/
structure IntsAt (w : World) (cb co : Nat) (cs : List Int) : Prop where
  lt : cs ≠ [] → cb < w.heap.size
  c : ∀ i, i < cs.length → w.cell? ⟨cb, co + i, none⟩ = some (.int .i64 (cs.getD i 0))
  lo : ∀ i, -9223372036854775808 ≤ cs.getD i 0
  hi : ∀ i, cs.getD i 0 ≤ 9223372036854775807

/-- Loop 2, ahead of a round: the place p of the stream, d frames were given. -/
structure L2 (w : World) (fs : List Fr) (a en : Value) (p d : Nat) (wr : World) : Prop where
  own : Owns wr (w.heap.size + 1) a (stream fs)
  ends : wr.ownsRow (w.heap.size + 1) 3 1 en fs.length ((endsL fs fs.length).map (Value.int .i64))
  due : Due fs p d
  le : p ≤ (stream fs).length
  spl : ∃ q, feedF ([], [], false) ((stream fs).take p) = (fs.take d, q, false) ∧ Held q ∧ (p = (stream fs).length → q = []) ∧ wr.heap[w.heap.size]? = some (.cells (spl q false) 181 (0, 0))
  below : Below w.heap.size w wr

theorem L1.l2 {w wr : World} {fs : List Fr} {a en : Value} (h : L1 w fs fs.length a en wr) : L2 w fs a en 0 0 wr := by
  have ho := h.own
  rw [List.take_length] at ho
  have hd : Due fs 0 0 := by
    refine ⟨Nat.zero_le _, by simp [endAt, stream], ?_⟩
    by_cases e : fs.length = 0
    · exact .inl e.symm
    · right
      have hl : 0 < fs.length := by omega
      rw [endAt_succ fs 0 hl, bytesOf_len]
      omega
  exact ⟨ho, h.ends, hd, Nat.zero_le _, ⟨[], by simp [feedF], Held.nil, fun _ => rfl, h.spl⟩, h.below⟩

theorem ownsRow_opt {w : World} {base : Nat} {e : TypeId} {size : Nat} {v : Value} {n : Nat} {xs : List Value} (h : w.ownsRow base e size v n xs) : ∃ oa cap, v = .slice oa n cap ∧ (oa = none → n = 0) ∧ ∀ x, oa = some x → ∃ g, x = ⟨g, 0, none⟩ ∧ n ≤ cap := by
  rcases h.2 with ⟨rfl, rfl⟩ | ⟨g, cap, cur, rfl, _, _, h1, _⟩
  · exact ⟨none, 0, rfl, fun _ => rfl, fun _ e => by cases e⟩
  · exact ⟨some ⟨g, 0, none⟩, cap, rfl, (fun e => by cases e), fun x e => ⟨g, by cases e; rfl, h1⟩⟩

end Go.Proofs.YtfekelmldebplaaGreatDoor
