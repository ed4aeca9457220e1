import Derived.Stop.Asserts
import Derived.LaidEql
import Derived.RowKitTokens
import Derived.Deep.LoopGhost
import Derived.Test.YtfekelmldebplaaGreatDoorUc
import Derived.Test.YtfekelmldebplaaGreatDoorLd
set_option maxRecDepth 100000
set_option maxHeartbeats 8000000
namespace Go.Proofs.YtfekelmldebplaaGreatDoor
open Go.RowKit Go.Extern.Stop Go.Stop Go.Extern
abbrev hdl (t : Nat) : Value := .pointer (some ⟨4, t, none⟩)
theorem aHp (t : Addr) (w : World) : (ReflectliteValue.unpack (.iface 156 (.pointer (some t)))).run Tryz.prog w = .ok (.agg #[hdl 156, .pointer (some ⟨w.heap.size, 0, none⟩), .int .u64 150]) (w.alloc (.cells #[.pointer (some t)] 156)) := by kernel_rfl
theorem aE4 (a : Addr) (w : World) : (ReflectliteValue.methodAny (ReflectliteValue.valueError "reflectlite.Value.Type" 0) (fun t _ _ _ => ReflectliteType.toType t) #[.agg #[hdl 156, .pointer (some a), .int .u64 150]]).run Tryz.prog w = .ok (.iface 282 (.agg #[hdl 156])) w := by kernel_rfl
theorem aCu (h : Value) (w : World) : (Go.method 484 282 (.agg #[h]) "Kind").run Tryz.prog w = .ok (252, h) w := by kernel_rfl
theorem aCv (w : World) : ((ReflectliteType.abiMethod fun t => (fun a : Nat => Value.int IntKind.u8 (a : Int)) <$> Rtype.kind t) #[hdl 156]).run Tryz.prog w = .ok (.int .u8 22) w := by kernel_rfl
theorem aCw (w : World) : ((ReflectliteType.abiMethod fun t => (fun a : Nat => Value.int IntKind.u8 (a : Int)) <$> Rtype.kind t) #[hdl 154]).run Tryz.prog w = .ok (.int .u8 22) w := by kernel_rfl
theorem aCy (h : Value) (w : World) : (Go.method 484 282 (.agg #[h]) "Elem").run Tryz.prog w = .ok (272, .agg #[h]) w := by kernel_rfl
theorem aCx (h : Value) (w : World) : (Go.method 484 282 (.agg #[h]) "Implements").run Tryz.prog w = .ok (273, .agg #[h]) w := by kernel_rfl
theorem uS (h : Value) (w : World) : (Go.method 484 282 (.agg #[h]) "AssignableTo").run Tryz.prog w = .ok (270, .agg #[h]) w := by kernel_rfl
theorem aFa (w : World) : (ReflectliteType.method ReflectliteType.elem #[.agg #[hdl 156]]).run Tryz.prog w = .ok (.iface 282 (.agg #[hdl 154])) w := by kernel_rfl
theorem aE9 (w : World) : (ReflectliteType.relation "Implements" ReflectliteType.implements_ #[.agg #[hdl 154], .iface 282 (.agg #[hdl 151])]).run Tryz.prog w = .ok (.bool true) w := by kernel_rfl
theorem aGy (v : Value) (w : World) : (ReflectliteType.typeOf #[.iface 154 v]).run Tryz.prog w = .ok (.iface 282 (.agg #[hdl 154])) w := by kernel_rfl
theorem aGx (v : Value) (w : World) : (ReflectliteType.typeOf #[.iface 278 v]).run Tryz.prog w = .ok (.iface 282 (.agg #[hdl 278])) w := by kernel_rfl
theorem aC0 (w : World) : (ReflectliteType.relation "AssignableTo" ReflectliteType.assignableTo #[.agg #[hdl 154], .iface 282 (.agg #[hdl 154])]).run Tryz.prog w = .ok (.bool true) w := by kernel_rfl
theorem aCz (w : World) : (ReflectliteType.relation "AssignableTo" ReflectliteType.assignableTo #[.agg #[hdl 278], .iface 282 (.agg #[hdl 154])]).run Tryz.prog w = .ok (.bool false) w := by kernel_rfl
theorem aGw (e : Addr) (w : World) : (ReflectliteValue.unpack (.iface 154 (.pointer (some e)))).run Tryz.prog w = .ok (.agg #[hdl 154, .pointer (some ⟨w.heap.size, 0, none⟩), .int .u64 150]) (w.alloc (.cells #[.pointer (some e)] 154)) := by kernel_rfl
theorem tH (v : Value) (xT : TypeId) (w : World) : (Instr.typeAssert (.iface 278 v) xT 287 true).run Tryz.prog w = .ok (.tuple #[.nilIface, .bool false]) w := run_typeAssert_lacksB Tryz.underlying287 (by kernel_rfl) (by kernel_rfl) v xT w
theorem lK (v : Value) (xT : TypeId) (w : World) : (Instr.typeAssert (.iface 278 v) xT 290 true).run Tryz.prog w = .ok (.tuple #[.iface 278 v, .bool true]) w := run_typeAssert_hasB Tryz.underlying290 (by kernel_rfl) v xT w
theorem nG (v : Value) (w : World) : (Go.method 484 278 v "Unwrap").run Tryz.prog w = .ok (268, v) w := by kernel_rfl
theorem qJ (z : Sem Value) (f : TypeId → Addr → Nat → Nat → Sem Value) (v : Value) : ReflectliteValue.method z f #[v] = (do match ← ReflectliteValue.parts v with | none => z | some (t, a, fl) => f t a fl (fl % 32)) := rfl
theorem qI (a : Addr) (w : World) : (ReflectliteValue.parts (.agg #[hdl 156, .pointer (some a), .int .u64 150])).run Tryz.prog w = .ok (some (156, a, 150)) w := by kernel_rfl
theorem aCk (a p : Addr) (W : World) (ha : W.cell? a = some (.pointer (some p))) :
  (ReflectliteValue.method (ReflectliteValue.valueError "reflectlite.Value.IsNil" 0) ReflectliteValue.isNil #[.agg #[hdl 156, .pointer (some a), .int .u64 150]]).run Tryz.prog W = .ok (.bool false) W := by
 rw [qJ]
 simp only [Sem.run_bind, qI, Result.andThen]
 simp [ReflectliteValue.isNil, loadVar, isAgg, underlying, Tryz.underlying156, ha, Result.andThen]
theorem aA3 (w : World) : (Rtype.elem? 156).run Tryz.prog w = .ok (some 154) w := by kernel_rfl
theorem aHq (p : Addr) (w : World) : (ReflectliteValue.mk 154 p ReflectliteValue.flagAddr).run Tryz.prog w = .ok (.agg #[hdl 154, .pointer (some p), .int .u64 406]) w := by kernel_rfl
theorem aE5 (a p : Addr) (W : World) (ha : W.cell? a = some (.pointer (some p))) :
  (ReflectliteValue.method (ReflectliteValue.valueError "reflectlite.Value.Elem" 0) ReflectliteValue.elem #[.agg #[hdl 156, .pointer (some a), .int .u64 150]]).run Tryz.prog W = .ok (.agg #[hdl 154, .pointer (some p), .int .u64 406]) W := by
 rw [qJ]
 simp only [Sem.run_bind, qI, Result.andThen]
 simp [ReflectliteValue.elem, loadVar, isAgg, underlying, Tryz.underlying156, ha, Result.andThen, aA3, aHq]
theorem wV (a : Addr) (w : World) : (ReflectliteValue.parts (.agg #[hdl 154, .pointer (some a), .int .u64 406])).run Tryz.prog w = .ok (some (154, a, 406)) w := by kernel_rfl
theorem aAu (a : Addr) (w : World) : (ReflectliteValue.parts (.agg #[hdl 154, .pointer (some a), .int .u64 150])).run Tryz.prog w = .ok (some (154, a, 150)) w := by kernel_rfl
theorem aA4 (w : World) : (Rtype.directlyAssignable 154 154).run Tryz.prog w = .ok true w := by kernel_rfl
theorem aGv (ta b e : Addr) (old : Value) (W : World) (hb : W.cell? b = some (.pointer (some e))) (ht : W.cell? ta = some old) (hf : W.frozen? ta = false) :
  (ReflectliteValue.set #[.agg #[hdl 154, .pointer (some ta), .int .u64 406], .agg #[hdl 154, .pointer (some b), .int .u64 150]]).run Tryz.prog W = .ok (.tuple #[]) (W.setCell ta (.pointer (some e))) := by
 change Sem.run Tryz.prog (ReflectliteValue.parts (.agg #[hdl 154, .pointer (some ta), .int .u64 406]) >>= fun p => ReflectliteValue.parts (.agg #[hdl 154, .pointer (some b), .int .u64 150]) >>= fun q => _) W = _
 simp only [Sem.run_bind, wV, aAu, Result.andThen]
 simp [ReflectliteValue.flagAddr, loadVar, isAgg, underlying, Tryz.underlying154, hb, Result.andThen, aA4, storeVar, Value.cells, storeCells, Addr.add]
 rw [run_store Tryz.prog W ta _ _ (by rfl)]
 simp [ht, hf]
theorem iV (w : World) (o : Obj) : Below w.heap.size w (w.alloc o) := (Below.refl _ _).alloc (Nat.le_refl _) _
theorem wQ (l : Nat) (s : ByteArray) (u : Value) (w : World) (h : w.heap[l]? = some (.cells #[.string s, u] 280 (0, 0))) :
  Calls Tryz.prog 268 #[.pointer (some ⟨l, 0, none⟩)] w fun e w' => e = .returned u ∧ w' = w := by
 have q := cell_of_row _ _ 1 _ _ _ h
 simp at q
 clear h
 go_enter Tryz.func268, Tryz.ntmps268
 go_wp2
 go_ret
 exact ⟨rfl, rfl⟩
theorem aGh (n : Nat) (err : Value) (f x : Int) (tb : Nat) (a : Addr) (old : Value) (w : World) (he : dN w f x n err) (ha : w.cell? a = some (.pointer (some ⟨tb, 0, none⟩))) (ht : w.heap[tb]? = some (.cells #[old] 154 (0, 0))) :
  Calls Tryz.prog 111 #[err, .iface 156 (.pointer (some ⟨tb, 0, none⟩)), .agg #[hdl 156, .pointer (some a), .int .u64 150], .iface 282 (.agg #[hdl 154])] w fun e w' => e = .returned (.bool true) ∧ ∃ r, w'.heap[tb]? = some (.cells #[.pointer (some ⟨r, 0, none⟩)] 154 (0, 0)) ∧ w'.heap[r]? = some (.cells #[.int .u8 f, .int .u8 x] 216 (0, 0)) ∧ Chg w w' (fun k => k = tb) := by
 have x1 := @run_callFunc_extern Tryz.prog 160 _ ReflectliteType.typeOf Tryz.func160 (by kernel_rfl) (by kernel_rfl) (by kernel_rfl) (by kernel_rfl)
 have x2 := @run_callFunc_extern Tryz.prog 270 _ (ReflectliteType.relation "AssignableTo" ReflectliteType.assignableTo) Tryz.func270 (by kernel_rfl) (by kernel_rfl) (by kernel_rfl) (by kernel_rfl)
 have x3 := @run_callFunc_extern Tryz.prog 161 _ (ReflectliteValue.method (ReflectliteValue.valueError "reflectlite.Value.Elem" 0) ReflectliteValue.elem) Tryz.func161 (by kernel_rfl) (by kernel_rfl) (by kernel_rfl) (by kernel_rfl)
 have x4 := @run_callFunc_extern Tryz.prog 108 _ (fun args => ReflectliteValue.unpack (args.getD 0 (.tuple #[]))) Tryz.func108 (by kernel_rfl) (by kernel_rfl) (by kernel_rfl) (by kernel_rfl)
 have x5 := @run_callFunc_extern Tryz.prog 162 _ ReflectliteValue.set Tryz.func162 (by kernel_rfl) (by kernel_rfl) (by kernel_rfl) (by kernel_rfl)
 obtain ⟨T, p, rfl⟩ := he.iface
 have HE := hide he
 have HT := hide ht
 have HA := hide ha
 have hal : a.block < w.heap.size := World.block_lt_of_cell? w a ha
 have htl := (Array.getElem?_eq_some_iff.1 ht).1
 clear he ht ha
 go_enter Tryz.func111, Tryz.ntmps111
 go_wp2_with fail
 have hb0 := iV w (.cells #[hdl 156, .pointer (some a), .int .u64 150] 206)
 have HB0 := hide hb0
 have HR0 := hide (heap_alloc_new w (.cells #[hdl 156, .pointer (some a), .int .u64 150] 206))
 have HE0 := hide ((aA HE).below hb0)
 have HT0 := hide ((hb0.block tb htl).trans (aA HT))
 have HA0 := hide ((hb0.cell hal).trans (aA HA))
 clear hb0 HE
 generalize w.alloc (.cells #[hdl 156, .pointer (some a), .int .u64 150] 206) = w0 at HB0 HR0 HE0 HT0 HA0 ⊢
 have hv0 := cell_of_row _ _ 0 _ _ _ (aA HR0)
 have hv1 := cell_of_row _ _ 1 _ _ _ (aA HR0)
 have hv2 := cell_of_row _ _ 2 _ _ _ (aA HR0)
 simp at hv0 hv1 hv2
 go_loopg [0] n (fun k v wr => wr = w0 ∧ Hid (dN w0 f x k v))
 case atStart => exact ⟨rfl, aA HE0⟩
 case round =>
  obtain ⟨hwr, HEk⟩ := hrel
  subst hwr
  cases gk with
  | zero =>
   obtain ⟨r, rfl, hr⟩ := aA HEk
   have t1 := aGy
   have t2 := uS
   have t3 := aC0
   have t4 := aE5 a ⟨tb, 0, none⟩ wr (aA HA0)
   have t5 := aGw
   have hbn := iV wr (.cells #[.pointer (some ⟨r, 0, none⟩)] 154)
   have hT1 := (hbn.block tb (Array.getElem?_eq_some_iff.1 (aA HT0)).1).trans (aA HT0)
   have hc1 := cell_of_row _ _ 0 _ _ _ hT1
   have hf1 := frozen_of_row _ _ 0 _ _ hT1
   simp at hc1
   have hn1 : (wr.alloc (.cells #[.pointer (some ⟨r, 0, none⟩)] 154)).cell? ⟨wr.heap.size, 0, none⟩ = some (.pointer (some ⟨r, 0, none⟩)) := cell_of_row _ _ 0 _ _ _ (heap_alloc_new wr (.cells #[.pointer (some ⟨r, 0, none⟩)] 154))
   have t6 := aGv ⟨tb, 0, none⟩ ⟨wr.heap.size, 0, none⟩ ⟨r, 0, none⟩ old _ hn1 hc1 hf1
   have hcs : Chg (wr.alloc (.cells #[.pointer (some ⟨r, 0, none⟩)] 154)) ((wr.alloc (.cells #[.pointer (some ⟨r, 0, none⟩)] 154)).setCell ⟨tb, 0, none⟩ (.pointer (some ⟨r, 0, none⟩))) (fun k => k = tb) := Chg.set _ tb 0 _
   have hset : ((wr.alloc (.cells #[.pointer (some ⟨r, 0, none⟩)] 154)).setCell ⟨tb, 0, none⟩ (.pointer (some ⟨r, 0, none⟩))).heap[tb]? = some (.cells (#[old].setIfInBounds 0 (.pointer (some ⟨r, 0, none⟩))) 154 (0, 0)) := heap_setCell_same _ tb 0 _ _ _ hT1
   have hrn : r ≠ tb := bG hr (aA HT0) (by decide)
   have hr1 := (hbn.block r (Array.getElem?_eq_some_iff.1 hr).1).trans hr
   have HRr := hide ((hcs.block r (Array.getElem?_eq_some_iff.1 hr1).1 hrn).trans hr1)
   have HSet := hide hset
   have HC := hide ((Chg.of_below (aD (aA HB0) hbn) (fun k => k = tb)).trans hcs (fun _ e _ => e))
   clear hr HEk HE0 hbn hT1 hc1 hf1 hn1 hcs hset hr1
   go_wp2
   go_ret
   exact ⟨rfl, r, by simpa using aA HSet, aA HRr, aA HC⟩
  | succ k =>
   obtain ⟨l, s, u, rfl, hl, hu⟩ := aA HEk
   obtain ⟨T', p', rfl⟩ := hu.iface
   have t1 := aGx
   have t2 := uS
   have t3 := aCz
   have t4 := tH
   have t5 := lK
   have t6 := nG
   have HU := hide (wQ l s _ wr hl)
   have HEu := hide hu
   clear hl hu HEk HE0
   go_wp2_with fail
   refine (aA HU).mono ?_
   rintro e wr ⟨rfl, rfl⟩
   clear HU
   go_wp2
   go_roundg k
   case measure => omega
   case rel => exact ⟨rfl, aA HEu⟩
def dF (w : World) : Prop := w.cell? ⟨0, 0, none⟩ = some (.iface 282 (.agg #[hdl 151]))
theorem dF.below {w w' : World} (h : dF w) (hb : Below w.heap.size w w') : dF w' := (hb.cell (World.block_lt_of_cell? w _ h)).trans h
theorem aAh (n : Nat) (err : Value) (f x : Int) (tb : Nat) (old : Value) (w : World) (he : dN w f x n err) (ht : w.heap[tb]? = some (.cells #[old] 154 (0, 0))) (hg : dF w) :
  Calls Tryz.prog 68 #[err, .iface 156 (.pointer (some ⟨tb, 0, none⟩))] w fun e w' => e = .returned (.bool true) ∧ ∃ r, w'.heap[tb]? = some (.cells #[.pointer (some ⟨r, 0, none⟩)] 154 (0, 0)) ∧ w'.heap[r]? = some (.cells #[.int .u8 f, .int .u8 x] 216 (0, 0)) ∧ Chg w w' (fun k => k = tb) := by
 have x1 := @run_callFunc_extern Tryz.prog 108 _ (fun args => ReflectliteValue.unpack (args.getD 0 (.tuple #[]))) Tryz.func108 (by kernel_rfl) (by kernel_rfl) (by kernel_rfl) (by kernel_rfl)
 have x2 := @run_callFunc_extern Tryz.prog 109 _ (ReflectliteValue.methodAny (ReflectliteValue.valueError "reflectlite.Value.Type" 0) (fun t _ _ _ => ReflectliteType.toType t)) Tryz.func109 (by kernel_rfl) (by kernel_rfl) (by kernel_rfl) (by kernel_rfl)
 have x3 := @run_callFunc_extern Tryz.prog 110 _ (ReflectliteValue.method (ReflectliteValue.valueError "reflectlite.Value.IsNil" 0) ReflectliteValue.isNil) Tryz.func110 (by kernel_rfl) (by kernel_rfl) (by kernel_rfl) (by kernel_rfl)
 have x4 := @run_callFunc_extern Tryz.prog 252 _ (ReflectliteType.abiMethod fun t => do pure (.int .u8 (← Rtype.kind t))) Tryz.func252 (by kernel_rfl) (by kernel_rfl) (by kernel_rfl) (by kernel_rfl)
 have x5 := @run_callFunc_extern Tryz.prog 272 _ (ReflectliteType.method ReflectliteType.elem) Tryz.func272 (by kernel_rfl) (by kernel_rfl) (by kernel_rfl) (by kernel_rfl)
 have x6 := @run_callFunc_extern Tryz.prog 273 _ (ReflectliteType.relation "Implements" ReflectliteType.implements_) Tryz.func273 (by kernel_rfl) (by kernel_rfl) (by kernel_rfl) (by kernel_rfl)
 have hb1 := iV w (.cells #[.pointer (some ⟨tb, 0, none⟩)] 156)
 have hb2 := aD hb1 (iV _ (.cells #[hdl 156, .pointer (some ⟨w.heap.size, 0, none⟩), .int .u64 150] 206))
 have hrow := heap_alloc_new (w.alloc (.cells #[.pointer (some ⟨tb, 0, none⟩)] 156)) (.cells #[hdl 156, .pointer (some ⟨w.heap.size, 0, none⟩), .int .u64 150] 206)
 have hcell : ((w.alloc (.cells #[.pointer (some ⟨tb, 0, none⟩)] 156)).alloc (.cells #[hdl 156, .pointer (some ⟨w.heap.size, 0, none⟩), .int .u64 150] 206)).cell? ⟨w.heap.size, 0, none⟩ = some (.pointer (some ⟨tb, 0, none⟩)) :=
  ((iV (w.alloc (.cells #[.pointer (some ⟨tb, 0, none⟩)] 156)) _).cell (by simp)).trans (cell_of_row _ _ 0 _ _ _ (heap_alloc_new w (.cells #[.pointer (some ⟨tb, 0, none⟩)] 156)))
 have s1 := aHp
 have s2 := aE4
 have s3 := aCu
 have s4 := aCv
 have s5 := aCw
 have s6 := aCy
 have s7 := aFa
 have s8 := aCx
 have s9 := aE9
 have s10 := aCk ⟨w.heap.size, 0, none⟩ ⟨tb, 0, none⟩ _ hcell
 have hg2 := (hg.below hb2)
 unfold dF at hg2
 have HAs := hide (aGh n err f x tb ⟨w.heap.size, 0, none⟩ old _ (he.below hb2) hcell ((hb2.block tb (Array.getElem?_eq_some_iff.1 ht).1).trans ht))
 have HB2 := hide hb2
 obtain ⟨T, p, rfl⟩ := he.iface
 clear he ht hg hb1 hb2 hcell hrow
 go_enter Tryz.func68, Tryz.ntmps68
 go_wp2_with fail
 refine (aA HAs).mono ?_
 rintro e w3 ⟨rfl, r, h1, h2, h3⟩
 have H1 := hide h1
 have H2 := hide h2
 have H3 := hide ((Chg.of_below (aA HB2) (fun k => k = tb)).trans h3 (fun _ e _ => e))
 clear h1 h2 h3 HAs
 go_wp2
 go_ret
 exact ⟨rfl, r, aA H1, aA H2, aA H3⟩
end Go.Proofs.YtfekelmldebplaaGreatDoor
