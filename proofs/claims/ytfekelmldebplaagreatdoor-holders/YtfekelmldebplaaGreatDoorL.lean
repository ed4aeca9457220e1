import Derived.Test.YtfekelmldebplaaGreatDoorJ
namespace Go.Proofs.YtfekelmldebplaaGreatDoor
open Go.RowKit

/-! ### Plain: what went in as frames comes out, however the stream is cut -/
structure Valid (f : Fr) : Prop where
  m0 : 0 ≤ f.mark
  m1 : f.mark ≤ 65535
  u0 : 0 ≤ f.unit
  u1 : f.unit ≤ 255
  by_ : Bys f.data
  l0 : 1 ≤ f.data.length
  l1 : f.data.length ≤ 253
def bytesOf (f : Fr) : List Int := frameL f.mark f.unit f.data
theorem bytesOf_len (f : Fr) : (bytesOf f).length = 7 + f.data.length := frameL_len _ _ _
theorem bytesOf_bys {f : Fr} (h : Valid f) : Bys (bytesOf f) := frameL_bys h.m0 h.m1 h.u0 h.u1 h.by_ h.l1
theorem bytesOf_eq {f : Fr} (h : Valid f) : bytesOf f = f.mark / 256 :: f.mark % 256 :: 0 :: 0 :: 0 :: ((f.data.length : Int) + 1) :: f.unit :: f.data := by
  have h1 := h.l1
  have e1 : ((f.data.length : Int) + 1) / 256 = 0 := by omega
  have e2 : ((f.data.length : Int) + 1) % 256 = (f.data.length : Int) + 1 := by omega
  simp [bytesOf, frameL, wd, e1, e2]

theorem getD_take (F : List Int) (k i : Nat) (h : i < k) : (F.take k).getD i 0 = F.getD i 0 := by
  simp [List.getD, h]

theorem step_in {f : Fr} (hv : Valid f) (gs : List Fr) (k : Nat) (hk : k < (bytesOf f).length) :
    stepF (gs, (bytesOf f).take k, false) ((bytesOf f).getD k 0) = if k + 1 = (bytesOf f).length then (gs ++ [f], [], false) else (gs, (bytesOf f).take (k + 1), false) := by
  have hl := bytesOf_len f
  have h0 := hv.l0
  have h1 := hv.l1
  have hF := bytesOf_eq hv
  have g2 : (bytesOf f).getD 2 0 = 0 := by rw [hF]; rfl
  have g3 : (bytesOf f).getD 3 0 = 0 := by rw [hF]; rfl
  have g4 : (bytesOf f).getD 4 0 = 0 := by rw [hF]; rfl
  have g5 : (bytesOf f).getD 5 0 = (f.data.length : Int) + 1 := by rw [hF]; rfl
  have hlen : ((bytesOf f).take k).length = k := by simp; omega
  have hsucc : (bytesOf f).take k ++ [(bytesOf f).getD k 0] = (bytesOf f).take (k + 1) := by
    rw [List.take_succ_eq_append_getElem hk]
    simp [List.getD, List.getElem?_eq_getElem hk]
  have hfit : fitsL ((bytesOf f).take k) ((bytesOf f).getD k 0) = true := by
    unfold fitsL
    rw [hlen]
    by_cases k2 : k = 2
    · subst k2; rw [g2]; simp
    by_cases k3 : k = 3
    · subst k3; rw [g3]; simp
    by_cases k4 : k = 4
    · subst k4; rw [g4]; simp
    by_cases k5 : k = 5
    · subst k5
      rw [getD_take _ _ _ (by omega), g4, g5]
      simp only [show ¬ (5 = 2 ∨ 5 = 3) by omega, show ¬ (5 = 4) by omega, if_false, if_true]
      exact inB_true (by omega) (by omega)
    · simp [k2, k3, k4, k5]
  have hw : wholeL ((bytesOf f).take (k + 1)) = decide (k + 1 = (bytesOf f).length) := by
    have hlen' : ((bytesOf f).take (k + 1)).length = k + 1 := by simp; omega
    unfold wholeL
    rw [hlen', Bool.eq_iff_iff]
    by_cases h7 : 7 ≤ k + 1
    · rw [getD_take _ _ _ (by omega), getD_take _ _ _ (by omega), g4, g5]
      simp [h7]
      omega
    · simp [h7]
      omega
  unfold stepF
  simp only [Bool.false_eq_true, if_false, hfit, if_true, hsucc, hw, decide_eq_true_eq]
  by_cases e : k + 1 = (bytesOf f).length
  · simp only [e, if_true]
    have : toFr ((bytesOf f).take (bytesOf f).length) = f := by
      rw [List.take_length, hF]
      obtain ⟨m, u, d⟩ := f
      simp only [toFr, Fr.mk.injEq]
      refine ⟨?_, rfl, rfl⟩
      show 256 * (m / 256) + m % 256 = m
      omega
    rw [this]
  · simp only [e, if_false]

theorem feed_in {f : Fr} (hv : Valid f) (gs : List Fr) : ∀ k, k < (bytesOf f).length → feedF (gs, [], false) ((bytesOf f).take k) = (gs, (bytesOf f).take k, false)
  | 0, _ => by simp [feedF]
  | k + 1, hk => by
    rw [feedF_take_succ _ _ _ (by omega), feed_in hv gs k (by omega), step_in hv gs k (by omega), if_neg (by omega)]

theorem feed_whole {f : Fr} (hv : Valid f) (gs : List Fr) : feedF (gs, [], false) (bytesOf f) = (gs ++ [f], [], false) := by
  have hl := bytesOf_len f
  have := feedF_take_succ (gs, [], false) (bytesOf f) (6 + f.data.length) (by omega)
  rw [List.take_of_length_le (by omega)] at this
  rw [this, feed_in hv gs _ (by omega), step_in hv gs _ (by omega), if_pos (by omega)]

def stream (fs : List Fr) : List Int := (fs.map bytesOf).flatten
theorem stream_append (a c : List Fr) : stream (a ++ c) = stream a ++ stream c := by simp [stream]
theorem stream_one (f : Fr) : stream [f] = bytesOf f := by simp [stream]
theorem stream_bys {fs : List Fr} (h : ∀ f ∈ fs, Valid f) : Bys (stream fs) := by
  intro x hx
  simp only [stream, List.mem_flatten, List.mem_map] at hx
  obtain ⟨l, ⟨f, hf, rfl⟩, hx⟩ := hx
  exact bytesOf_bys (h f hf) x hx
theorem stream_len_le {fs : List Fr} (h : ∀ f ∈ fs, Valid f) : (stream fs).length ≤ 260 * fs.length := by
  induction fs with
  | nil => simp [stream]
  | cons f fs ih =>
    have e : stream (f :: fs) = bytesOf f ++ stream fs := by simp [stream]
    have := ih (fun g hg => h g (by simp [hg]))
    have h1 := (h f (by simp)).l1
    rw [e, List.length_append, bytesOf_len, List.length_cons]
    omega

theorem feed_stream {fs : List Fr} (h : ∀ f ∈ fs, Valid f) (gs : List Fr) : feedF (gs, [], false) (stream fs) = (gs ++ fs, [], false) := by
  induction fs generalizing gs with
  | nil => simp [stream, feedF]
  | cons f fs ih =>
    have e : stream (f :: fs) = bytesOf f ++ stream fs := by simp [stream]
    have e2 : feedF (gs, [], false) (bytesOf f ++ stream fs) = feedF (feedF (gs, [], false) (bytesOf f)) (stream fs) := by simp [feedF, List.foldl_append]
    rw [e, e2, feed_whole (h f (by simp)), ih (fun g hg => h g (by simp [hg]))]
    simp

/-- Where the frame d ends. -/
def endAt (fs : List Fr) (d : Nat) : Nat := (stream (fs.take d)).length

/-- At place p of the stream d frames are whole. -/
def Due (fs : List Fr) (p d : Nat) : Prop := d ≤ fs.length ∧ endAt fs d ≤ p ∧ (d = fs.length ∨ p < endAt fs (d + 1))

theorem endAt_succ (fs : List Fr) (d : Nat) (h : d < fs.length) : endAt fs (d + 1) = endAt fs d + (bytesOf fs[d]).length := by
  unfold endAt
  rw [List.take_succ_eq_append_getElem h, stream_append, stream_one, List.length_append]
theorem endAt_mono (fs : List Fr) (a c : Nat) (h : a ≤ c) : endAt fs a ≤ endAt fs c := by
  unfold endAt
  have : fs.take c = fs.take a ++ (fs.take c).drop a := by
    rw [show fs.take a = (fs.take c).take a by rw [List.take_take, Nat.min_eq_left h], List.take_append_drop]
  rw [this, stream_append, List.length_append]
  omega
theorem endAt_all (fs : List Fr) : endAt fs fs.length = (stream fs).length := by simp [endAt]

theorem feed_upto {fs : List Fr} (h : ∀ f ∈ fs, Valid f) {p d : Nat} (hd : Due fs p d) (_hp : p ≤ (stream fs).length) :
    ∃ q, feedF ([], [], false) ((stream fs).take p) = (fs.take d, q, false) ∧ Held q ∧ (p = (stream fs).length → q = []) := by
  obtain ⟨h1, h2, h3⟩ := hd
  have hs : stream fs = stream (fs.take d) ++ stream (fs.drop d) := by rw [← stream_append, List.take_append_drop]
  have hvt : ∀ f ∈ fs.take d, Valid f := fun f hf => h f (List.mem_of_mem_take hf)
  have e1 : (stream fs).take p = stream (fs.take d) ++ (stream (fs.drop d)).take (p - endAt fs d) := by
    rw [hs, List.take_append, List.take_of_length_le (by exact h2)]
    rfl
  have e2 : feedF ([], [], false) ((stream fs).take p) = feedF (fs.take d, [], false) ((stream (fs.drop d)).take (p - endAt fs d)) := by
    rw [e1]
    have : feedF ([], [], false) (stream (fs.take d) ++ (stream (fs.drop d)).take (p - endAt fs d)) = feedF (feedF ([], [], false) (stream (fs.take d))) ((stream (fs.drop d)).take (p - endAt fs d)) := by simp [feedF, List.foldl_append]
    rw [this, feed_stream hvt]
    simp
  by_cases hdl : d = fs.length
  · refine ⟨[], ?_, Held.nil, fun _ => rfl⟩
    rw [e2, hdl]
    simp [stream, feedF]
  · have hlt : d < fs.length := by omega
    have h3' : p < endAt fs (d + 1) := h3.resolve_left hdl
    rw [endAt_succ fs d hlt] at h3'
    have hv := h fs[d] (List.getElem_mem hlt)
    have e3 : stream (fs.drop d) = bytesOf fs[d] ++ stream (fs.drop (d + 1)) := by
      rw [List.drop_eq_getElem_cons hlt, show fs[d] :: fs.drop (d + 1) = [fs[d]] ++ fs.drop (d + 1) from rfl, stream_append, stream_one]
    have e4 : (stream (fs.drop d)).take (p - endAt fs d) = (bytesOf fs[d]).take (p - endAt fs d) := by
      rw [e3, List.take_append_of_le_length (by omega)]
    refine ⟨(bytesOf fs[d]).take (p - endAt fs d), ?_, ?_, ?_⟩
    · rw [e2, e4, feed_in hv _ _ (by omega)]
    · have hl := bytesOf_len fs[d]
      have hF := bytesOf_eq hv
      have l0 := hv.l0
      have l1 := hv.l1
      have hkl : p - endAt fs d < (bytesOf fs[d]).length := by omega
      generalize p - endAt fs d = k at *
      have hlen : ((bytesOf fs[d]).take k).length = k := by rw [List.length_take]; omega
      refine ⟨(bytesOf_bys hv).take _, fun h5 => ?_, fun h6 => ?_⟩
      · rw [getD_take _ _ _ (by omega), hF]; rfl
      · rw [getD_take _ _ _ (by omega)]
        have g5 : (bytesOf fs[d]).getD 5 0 = (fs[d].data.length : Int) + 1 := by rw [hF]; rfl
        rw [g5]
        rw [hlen]
        exact ⟨by omega, by omega, by omega⟩
    · intro e
      exfalso
      have := endAt_mono fs (d + 1) fs.length (by omega)
      rw [endAt_all, endAt_succ fs d hlt] at this
      omega

theorem stepF_shift (gs : List Fr) (s : List Fr × List Int × Bool) (x : Int) : stepF (gs ++ s.1, s.2) x = (gs ++ (stepF s x).1, (stepF s x).2) := by
  unfold stepF
  split
  · rfl
  · split
    · split <;> simp
    · rfl
theorem feedF_shift (gs : List Fr) (s : List Fr × List Int × Bool) (xs : List Int) : feedF (gs ++ s.1, s.2) xs = (gs ++ (feedF s xs).1, (feedF s xs).2) := by
  induction xs generalizing s with
  | nil => rfl
  | cons x xs ih =>
    unfold feedF at ih ⊢
    rw [List.foldl_cons, List.foldl_cons, stepF_shift]
    exact ih (stepF s x)

/-- FEED FROM PLACE p TO PLACE p + n: what comes, and what is held then. -/
theorem feed_next {fs : List Fr} (h : ∀ f ∈ fs, Valid f) {p n d d' : Nat} (hd : Due fs p d) (hd' : Due fs (p + n) d') (hp : p + n ≤ (stream fs).length) :
    ∃ q q', feedF ([], [], false) ((stream fs).take p) = (fs.take d, q, false) ∧ Held q ∧ feedF ([], q, false) (((stream fs).drop p).take n) = ((fs.take d').drop d, q', false) ∧
      feedF ([], [], false) ((stream fs).take (p + n)) = (fs.take d', q', false) ∧ Held q' := by
  obtain ⟨q, e1, hq, _⟩ := feed_upto h hd (by omega)
  obtain ⟨q', e2, hq', _⟩ := feed_upto h hd' hp
  refine ⟨q, q', e1, hq, ?_, e2, hq'⟩
  have e3 : (stream fs).take (p + n) = (stream fs).take p ++ ((stream fs).drop p).take n := by rw [List.take_add]
  have e4 : feedF ([], [], false) ((stream fs).take (p + n)) = feedF (fs.take d, q, false) (((stream fs).drop p).take n) := by
    rw [e3]
    have : feedF ([], [], false) ((stream fs).take p ++ ((stream fs).drop p).take n) = feedF (feedF ([], [], false) ((stream fs).take p)) (((stream fs).drop p).take n) := by simp [feedF, List.foldl_append]
    rw [this, e1]
  have e5 := feedF_shift (fs.take d) ([], q, false) (((stream fs).drop p).take n)
  simp only [List.append_nil] at e5
  rw [e2, e5] at e4
  generalize feedF ([], q, false) (((stream fs).drop p).take n) = r at *
  obtain ⟨r1, r2, r3⟩ := r
  simp only [Prod.mk.injEq] at e4 ⊢
  refine ⟨?_, e4.2.1.symm, e4.2.2.symm⟩
  have hlen : (fs.take d).length = d := by rw [List.length_take]; have := hd.1; omega
  rw [e4.1, List.drop_left' hlen]
end Go.Proofs.YtfekelmldebplaaGreatDoor

namespace Go.Proofs.YtfekelmldebplaaGreatDoor
open Go.RowKit
attribute [local go_sem ↓] Go.wp_at_zero Go.wp_at_succ

/-- What is sent, as it came. -/
structure SD where
  mark : Int
  unit : Int
  v : Value
  data : List Int
def SD.fr (s : SD) : Fr := ⟨pickI s.mark 65536, pickI s.unit 256, sdata s.mark s.data⟩
structure SD.Ok (w : World) (s : SD) : Prop where
  m0 : -9223372036854775808 ≤ s.mark
  m1 : s.mark ≤ 9223372036854775807
  u0 : -9223372036854775808 ≤ s.unit
  u1 : s.unit ≤ 9223372036854775807
  lies : Lies w s.v s.data
  bys : Bys s.data
  len : s.data.length ≤ 140737488355328
theorem SD.Ok.valid {w : World} {s : SD} (h : s.Ok w) : Valid s.fr := by
  have a := pickI_bd s.mark 65536 (by omega)
  have c := pickI_bd s.unit 256 (by omega)
  have d := sdata_len s.mark s.data
  exact ⟨a.1, by show pickI s.mark 65536 ≤ 65535; omega, c.1, by show pickI s.unit 256 ≤ 255; omega, sdata_bys _ _ h.bys, d.1, d.2⟩

/-- The list of what is sent, in memory. -/
structure SentAt (w : World) (sb so : Nat) (ss : List SD) : Prop where
  lt : ss ≠ [] → sb < w.heap.size
  c0 : ∀ i s, ss[i]? = some s → w.cell? ⟨sb, so + i * 3, none⟩ = some (.int .i64 s.mark)
  c1 : ∀ i s, ss[i]? = some s → w.cell? ⟨sb, so + i * 3 + 1, none⟩ = some (.int .i64 s.unit)
  c2 : ∀ i s, ss[i]? = some s → w.cell? ⟨sb, so + i * 3 + 2, none⟩ = some s.v
  ok : ∀ s ∈ ss, s.Ok w

/-- The ends of the first k frames. -/
def endsL (fs : List Fr) (k : Nat) : List Int := (List.range k).map fun j => ((endAt fs (j + 1) : Nat) : Int)
theorem endsL_len (fs : List Fr) (k : Nat) : (endsL fs k).length = k := by simp [endsL]
theorem endsL_succ (fs : List Fr) (k : Nat) : endsL fs (k + 1) = endsL fs k ++ [((endAt fs (k + 1) : Nat) : Int)] := by simp [endsL, List.range_succ]
theorem endsL_at (fs : List Fr) (k j : Nat) (h : j < k) : (endsL fs k).getD j 0 = ((endAt fs (j + 1) : Nat) : Int) := by simp [endsL, List.getD, h]

/-- Loop 1, ahead of the round k. -/
structure L1 (w : World) (fs : List Fr) (k : Nat) (a en : Value) (wr : World) : Prop where
  own : Owns wr (w.heap.size + 1) a (stream (fs.take k))
  ends : wr.ownsRow (w.heap.size + 1) 3 1 en k ((endsL fs k).map (Value.int .i64))
  spl : wr.heap[w.heap.size]? = some (.cells (spl [] false) 181 (0, 0))
  below : Below w.heap.size w wr

theorem SentAt.below {w w' : World} {sb so : Nat} {ss : List SD} (h : SentAt w sb so ss) (hb : Below w.heap.size w w') : SentAt w' sb so ss := by
  have key : ∀ (i : Nat) (s : SD), ss[i]? = some s → sb < w.heap.size := fun i s hs => h.lt (fun e => by simp [e] at hs)
  refine ⟨fun e => by have := h.lt e; have := hb.size; omega, fun i s hs => ?_, fun i s hs => ?_, fun i s hs => ?_, fun s hs => ?_⟩
  · rw [hb.cell (by exact key i s hs)]; exact h.c0 i s hs
  · rw [hb.cell (by exact key i s hs)]; exact h.c1 i s hs
  · rw [hb.cell (by exact key i s hs)]; exact h.c2 i s hs
  · have o := h.ok s hs
    exact ⟨o.m0, o.m1, o.u0, o.u1, o.lies.below hb, o.bys, o.len⟩

theorem info3s : (Tryz.prog.info? 3).map (fun i => (i.zero, i.size, i.bytes)) = some (some (.int .i64 0), 1, 8) := by kernel_rfl

theorem apart_types {w : World} {base base' : Nat} {e e' : TypeId} {size size' : Nat} {v v' : Value} {n n' : Nat} {xs xs' : List Value} (h : w.ownsRow base e size v n xs) (h' : w.ownsRow base' e' size' v' n' xs') (hne : e ≠ e') : v.ownBlock = none ∨ v.ownBlock ≠ v'.ownBlock := by
  rcases h.2 with ⟨rfl, _⟩ | ⟨g, cap, cur, rfl, _, hg, _⟩
  · exact .inl rfl
  · right
    intro e1
    rcases h'.2 with ⟨rfl, _⟩ | ⟨g', cap', cur', rfl, _, hg', _⟩
    · cases e1
    · have : g = g' := by simpa [Value.ownBlock] using e1
      subst this
      rw [hg] at hg'
      simp at hg'
      exact hne hg'.2
theorem Owns.weak {w : World} {base base' : Nat} {v : Value} {xs : List Int} (h : Owns w base v xs) (hb : base' ≤ base) : Owns w base' v xs := by
  obtain ⟨h1, h2⟩ := h
  refine ⟨h1, h2.imp id ?_⟩
  rintro ⟨g, cap, cur, hv, hg, r⟩
  exact ⟨g, cap, cur, hv, by omega, r⟩
theorem Owns.kept {w w' : World} {base : Nat} {v : Value} {xs : List Int} (h : Owns w base v xs) (hb : Below w.heap.size w w') : Owns w' base v xs := ownsRow_keep h fun k _ h2 _ => hb.block k h2

theorem L1.next {w wr w6 w7 w9 : World} {fs : List Fr} {k : Nat} {a en a' en' : Value} {C : Obj} (h : L1 w fs k a en wr) (hk : k < fs.length) (hb : Below wr.heap.size wr w6)
    (h7 : w7.ownsRow (w.heap.size + 1) 5 1 a' (endAt fs (k + 1)) ((stream (fs.take k)).map (Value.int .u8) ++ (bytesOf fs[k]).map (Value.int .u8))) (g7 : w6.grownBy w7 a.ownBlock)
    (h9 : w9.ownsRow (w.heap.size + 1) 3 1 en' (k + 1) ((endsL fs k).map (Value.int .i64) ++ [.int .i64 ((endAt fs (k + 1) : Nat) : Int)])) (g9 : (w7.alloc C).grownBy w9 en.ownBlock) : L1 w fs (k + 1) a' en' w9 := by
  have e1 : w6.ownsRow (w.heap.size + 1) 3 1 en k _ := ownsRow_keep h.ends fun j _ p _ => hb.block j p
  have o1 : w6.ownsRow (w.heap.size + 1) 5 1 a _ _ := ownsRow_keep h.own fun j _ p _ => hb.block j p
  have e2 := e1.kept g7 (apart_types e1 o1 (by decide))
  have e3 := e2.alloc C
  have o3 := h7.alloc C
  have o4 := o3.kept g9 (apart_types o3 e3 (by decide))
  have hz := h.below.size
  have hz6 := hb.size
  have hz7 := g7.size
  have hz9 := g9.size
  simp at hz9
  have ha : ∀ j, a.ownBlock = some j → w.heap.size + 1 ≤ j := fun j e => (o1.lt j e).1
  have he : ∀ j, en.ownBlock = some j → w.heap.size + 1 ≤ j := fun j e => (e1.lt j e).1
  have hlt : w.heap.size < wr.heap.size := (Array.getElem?_eq_some_iff.1 h.spl).1
  have blk : ∀ j, j ≤ w.heap.size → w9.heap[j]? = wr.heap[j]? := fun j hj => by
    rw [g9.block j (by simp; omega) (fun e => by have := he j e.symm; omega), Below.heap_alloc _ _ _ (by omega), g7.block j (by omega) (fun e => by have := ha j e.symm; omega), hb.block j (by omega)]
  refine ⟨?_, ?_, ?_, ?_⟩
  · have es : stream (fs.take (k + 1)) = stream (fs.take k) ++ bytesOf fs[k] := by rw [List.take_succ_eq_append_getElem hk, stream_append, stream_one]
    unfold Owns
    rw [es, List.map_append]
    have el : (stream (fs.take k) ++ bytesOf fs[k]).length = endAt fs (k + 1) := by rw [← es]; rfl
    rw [el]
    exact o4
  · rw [endsL_succ, List.map_append]
    exact h9
  · rw [blk _ (Nat.le_refl _)]; exact h.spl
  · refine ⟨?_, ?_, ?_, by omega, fun j hj => by rw [blk j (by omega)]; exact h.below.block j hj⟩
    · exact g9.os.trans (g7.os.trans (hb.os.trans h.below.os))
    · exact g9.tape.trans (g7.tape.trans (hb.tape.trans h.below.tape))
    · exact g9.output.trans (g7.output.trans (hb.output.trans h.below.output))

/-- The numbers of 'cuts', in memory. -/
structure IntsAt (w : World) (cb co : Nat) (cs : List Int) : Prop where
  lt : cs ≠ [] → cb < w.heap.size
  c : ∀ i, i < cs.length → w.cell? ⟨cb, co + i, none⟩ = some (.int .i64 (cs.getD i 0))
  lo : ∀ i, -9223372036854775808 ≤ cs.getD i 0
  hi : ∀ i, cs.getD i 0 ≤ 9223372036854775807

/-- Loop 2, ahead of a round: the place p of the stream, d frames were given. -/
structure L2 (w : World) (fs : List Fr) (a en : Value) (p d : Nat) (wr : World) : Prop where
  own : Owns wr (w.heap.size + 1) a (stream fs)
  ends : wr.ownsRow (w.heap.size + 1) 3 1 en fs.length ((endsL fs fs.length).map (Value.int .i64))
  due : Due fs p d
  le : p ≤ (stream fs).length
  spl : ∃ q, feedF ([], [], false) ((stream fs).take p) = (fs.take d, q, false) ∧ Held q ∧ (p = (stream fs).length → q = []) ∧ wr.heap[w.heap.size]? = some (.cells (spl q false) 181 (0, 0))
  below : Below w.heap.size w wr

theorem L1.l2 {w wr : World} {fs : List Fr} {a en : Value} (h : L1 w fs fs.length a en wr) : L2 w fs a en 0 0 wr := by
  have ho := h.own
  rw [List.take_length] at ho
  have hd : Due fs 0 0 := by
    refine ⟨Nat.zero_le _, by simp [endAt, stream], ?_⟩
    by_cases e : fs.length = 0
    · exact .inl e.symm
    · right
      have hl : 0 < fs.length := by omega
      rw [endAt_succ fs 0 hl, bytesOf_len]
      omega
  exact ⟨ho, h.ends, hd, Nat.zero_le _, ⟨[], by simp [feedF], Held.nil, fun _ => rfl, h.spl⟩, h.below⟩

theorem ownsRow_opt {w : World} {base : Nat} {e : TypeId} {size : Nat} {v : Value} {n : Nat} {xs : List Value} (h : w.ownsRow base e size v n xs) : ∃ oa cap, v = .slice oa n cap ∧ (oa = none → n = 0) ∧ ∀ x, oa = some x → ∃ g, x = ⟨g, 0, none⟩ ∧ n ≤ cap := by
  rcases h.2 with ⟨rfl, rfl⟩ | ⟨g, cap, cur, rfl, _, _, h1, _⟩
  · exact ⟨none, 0, rfl, fun _ => rfl, fun _ e => by cases e⟩
  · exact ⟨some ⟨g, 0, none⟩, cap, rfl, (fun e => by cases e), fun x e => ⟨g, by cases e; rfl, h1⟩⟩

end Go.Proofs.YtfekelmldebplaaGreatDoor
