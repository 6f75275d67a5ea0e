/- errors.As where the target is the program's own error type and the error is of that type, or nil: Go's own text is walked, on the memory itself. -/
import Derived.Test.YtkajklfohjcofaaGreatDoorFacts
import Derived.Test.YtkajklfohjcofaaGreatDoorAbsW3
import Derived.Test.YtkajklfohjcofaaGreatDoorRows
import Derived.WalkKit
import Derived.LaidEql
import Derived.RowKitTokens
set_option linter.unusedVariables false
set_option linter.unusedSimpArgs false
namespace Go.Proofs.YtkajklfohjcofaaGreatDoor
open Go.Abs Go.RowKit Go.Extern

def hT (t : Nat) : Value := .pointer (some ⟨1, t, none⟩)
def tT (t : Nat) : Value := .iface 170 (.agg #[hT t])
def vT' (t : Nat) (a : Addr) (fl : Int) : Value := .agg #[hT t, .pointer (some a), .int .u64 fl]

theorem as_valueOfP (t : Addr) (w : World) : (ReflectliteValue.unpack (.iface 75 (.pointer (some t)))).run Tryz.prog w = .ok (vT' 75 ⟨w.heap.size, 0, none⟩ 150) (w.alloc (.cells #[.pointer (some t)] 75)) := by kernel_rfl
theorem as_type (a : Addr) (w : World) : (ReflectliteValue.methodAny (ReflectliteValue.valueError "reflectlite.Value.Type" 0) (fun t _ _ _ => ReflectliteType.toType t) #[vT' 75 a 150]).run Tryz.prog w = .ok (tT 75) w := by kernel_rfl
theorem as_mKind (h : Value) (w : World) : (Go.method 358 170 (.agg #[h]) "Kind").run Tryz.prog w = .ok (163, h) w := by kernel_rfl
theorem as_kindP (w : World) : ((ReflectliteType.abiMethod fun t => (fun a : Nat => Value.int IntKind.u8 (a : Int)) <$> Rtype.kind t) #[hT 75]).run Tryz.prog w = .ok (.int .u8 22) w := by kernel_rfl
theorem as_kindT (w : World) : ((ReflectliteType.abiMethod fun t => (fun a : Nat => Value.int IntKind.u8 (a : Int)) <$> Rtype.kind t) #[hT 70]).run Tryz.prog w = .ok (.int .u8 25) w := by kernel_rfl
theorem as_rlm (z : Sem Value) (f : TypeId → Addr → Nat → Nat → Sem Value) (v : Value) :
    ReflectliteValue.method z f #[v] = (do match ← ReflectliteValue.parts v with | none => z | some (t, a, fl) => f t a fl (fl % 32)) := rfl
theorem as_partsP (a : Addr) (w : World) : (ReflectliteValue.parts (vT' 75 a 150)).run Tryz.prog w = .ok (some (75, a, 150)) w := by kernel_rfl
theorem as_isNil (a p : Addr) (W : World) (ha : W.cell? a = some (.pointer (some p))) :
    (ReflectliteValue.method (ReflectliteValue.valueError "reflectlite.Value.IsNil" 0) ReflectliteValue.isNil #[vT' 75 a 150]).run Tryz.prog W = .ok (.bool false) W := by
  rw [as_rlm]
  simp only [Sem.run_bind, as_partsP, Result.andThen]
  simp [ReflectliteValue.isNil, loadVar, isAgg, underlying, Tryz.underlying75, ha, Result.andThen]
theorem as_mElem (h : Value) (w : World) : (Go.method 358 170 (.agg #[h]) "Elem").run Tryz.prog w = .ok (193, .agg #[h]) w := by kernel_rfl
theorem as_mImpl (h : Value) (w : World) : (Go.method 358 170 (.agg #[h]) "Implements").run Tryz.prog w = .ok (194, .agg #[h]) w := by kernel_rfl
theorem as_mAsg (h : Value) (w : World) : (Go.method 358 170 (.agg #[h]) "AssignableTo").run Tryz.prog w = .ok (191, .agg #[h]) w := by kernel_rfl
theorem as_elem (w : World) : (ReflectliteType.method ReflectliteType.elem #[.agg #[hT 75]]).run Tryz.prog w = .ok (tT 70) w := by kernel_rfl
theorem as_impl (w : World) : (ReflectliteType.relation "Implements" ReflectliteType.implements_ #[.agg #[hT 70], tT 73]).run Tryz.prog w = .ok (.bool true) w := by kernel_rfl
theorem as_typeOf (v : Value) (w : World) : (ReflectliteType.typeOf #[.iface 70 v]).run Tryz.prog w = .ok (tT 70) w := by kernel_rfl
theorem as_asg (w : World) : (ReflectliteType.relation "AssignableTo" ReflectliteType.assignableTo #[.agg #[hT 70], tT 70]).run Tryz.prog w = .ok (.bool true) w := by kernel_rfl
theorem as_valueOfT (x0 x1 x2 x3 : Value) (w : World) : (ReflectliteValue.unpack (.iface 70 (.agg #[x0, x1, x2, x3]))).run Tryz.prog w = .ok (vT' 70 ⟨w.heap.size, 0, none⟩ 153) (w.alloc (.cells #[x0, x1, x2, x3] 70)) := by kernel_rfl
theorem as_elemOf (w : World) : (Rtype.elem? 75).run Tryz.prog w = .ok (some 70) w := by kernel_rfl
theorem as_mk (p : Addr) (w : World) : (ReflectliteValue.mk 70 p ReflectliteValue.flagAddr).run Tryz.prog w = .ok (vT' 70 p 409) w := by kernel_rfl
theorem as_elemV (a p : Addr) (W : World) (ha : W.cell? a = some (.pointer (some p))) :
    (ReflectliteValue.method (ReflectliteValue.valueError "reflectlite.Value.Elem" 0) ReflectliteValue.elem #[vT' 75 a 150]).run Tryz.prog W = .ok (vT' 70 p 409) W := by
  rw [as_rlm]
  simp only [Sem.run_bind, as_partsP, Result.andThen]
  simp [ReflectliteValue.elem, loadVar, isAgg, underlying, Tryz.underlying75, ha, Result.andThen, as_elemOf, as_mk]
theorem as_rls (v x : Value) : ReflectliteValue.set #[v, x] = (do
    let (some (dst, a, fl), some (src, b, _)) := (← ReflectliteValue.parts v, ← ReflectliteValue.parts x)
      | unsupported (.noEntry "extern/(internal/reflectlite.Value).Set.zeroValue")
    if fl / ReflectliteValue.flagAddr % 2 == 0 then unsupported (.noEntry "extern/(internal/reflectlite.Value).Set.unaddressable")
    let val ← loadVar src b
    if ← Rtype.directlyAssignable dst src then storeVar dst a val
    else if ← Rtype.implements dst src then
      if (← Rtype.kind src) == 20 then
        match val with
        | .nilIface => unsupported (.noEntry "extern/reflectlite: a nil value of one interface type handed on as a value of another")
        | _ => storeVar dst a val
      else storeVar dst a (.iface src val)
    else panicString ("reflectlite.Set: value of type " ++ (← Rtype.spelt src) ++ " is not assignable to type " ++ (← Rtype.spelt dst))
    pure (.tuple #[])) := rfl
theorem as_partsA (a : Addr) (w : World) : (ReflectliteValue.parts (vT' 70 a 409)).run Tryz.prog w = .ok (some (70, a, 409)) w := by kernel_rfl
theorem as_partsT (a : Addr) (w : World) : (ReflectliteValue.parts (vT' 70 a 153)).run Tryz.prog w = .ok (some (70, a, 153)) w := by kernel_rfl
theorem as_direct (w : World) : (Rtype.directlyAssignable 70 70).run Tryz.prog w = .ok true w := by kernel_rfl
theorem as_size (w : World) : (sizeOf 70).run Tryz.prog w = .ok 4 w := by kernel_rfl
theorem as_set (ta : Addr) (b : Nat) (x0 x1 x2 x3 : Value) (W W' : World) (hb : W.heap[b]? = some (.cells #[x0, x1, x2, x3] 70 (0, 0))) (hs : (storeVar 70 ta (.agg #[x0, x1, x2, x3])).run Tryz.prog W = .ok () W') :
    (ReflectliteValue.set #[vT' 70 ta 409, vT' 70 ⟨b, 0, none⟩ 153]).run Tryz.prog W = .ok (.tuple #[]) W' := by
  have hl : (loadVar 70 ⟨b, 0, none⟩).run Tryz.prog W = .ok (.agg #[x0, x1, x2, x3]) W := by
    simp [loadVar, isAgg, underlying, Tryz.underlying70, Result.andThen, as_size, loadCells, loadCellsFrom, World.cell?, hb, Addr.add]
  rw [as_rls]
  simp only [Sem.run_bind, as_partsA, as_partsT, Result.andThen]
  simp [ReflectliteValue.flagAddr, hl, Result.andThen, as_direct, hs]
theorem as_alive {w : World} {a : Addr} {v : Value} (h : w.cell? a = some v) : a.block < w.heap.size := by
  rcases Nat.lt_or_ge a.block w.heap.size with h1 | h1
  · exact h1
  · simp [World.cell?, Array.getElem?_eq_none h1] at h

set_option maxRecDepth 100000 in
set_option maxHeartbeats 4000000 in
theorem as_go (t a : Addr) (x0 x1 x2 x3 : Value) (w W' : World) (ha : w.cell? a = some (.pointer (some t)))
    (hs : (storeVar 70 t (.agg #[x0, x1, x2, x3])).run Tryz.prog ((w.alloc (.cells #[hT 75, .pointer (some a), .int .u64 150] 124)).alloc (.cells #[x0, x1, x2, x3] 70)) = .ok () W') :
    Calls Tryz.prog 83 #[.iface 70 (.agg #[x0, x1, x2, x3]), .iface 75 (.pointer (some t)), vT' 75 a 150, tT 70] w fun e w' => e = .returned (.bool true) ∧ w' = W' := by
  have h6 := @run_callFunc_extern Tryz.prog 80 _ (fun args => ReflectliteValue.unpack (args.getD 0 (.tuple #[]))) Tryz.func80 (by kernel_rfl) (by kernel_rfl) (by kernel_rfl) (by kernel_rfl)
  have h10 := @run_callFunc_extern Tryz.prog 113 _ ReflectliteType.typeOf Tryz.func113 (by kernel_rfl) (by kernel_rfl) (by kernel_rfl) (by kernel_rfl)
  have h35 := @run_callFunc_extern Tryz.prog 191 _ (ReflectliteType.relation "AssignableTo" ReflectliteType.assignableTo) Tryz.func191 (by kernel_rfl) (by kernel_rfl) (by kernel_rfl) (by kernel_rfl)
  have h11 := @run_callFunc_extern Tryz.prog 114 _ (ReflectliteValue.method (ReflectliteValue.valueError "reflectlite.Value.Elem" 0) ReflectliteValue.elem) Tryz.func114 (by kernel_rfl) (by kernel_rfl) (by kernel_rfl) (by kernel_rfl)
  have h12 := @run_callFunc_extern Tryz.prog 115 _ ReflectliteValue.set Tryz.func115 (by kernel_rfl) (by kernel_rfl) (by kernel_rfl) (by kernel_rfl)
  have tO := as_typeOf
  have mA := as_mAsg
  have aT := as_asg
  have vO := as_valueOfT
  have hal := as_alive ha
  have el := as_elemV a t (w.alloc (.cells #[hT 75, .pointer (some a), .int .u64 150] 124)) (by rw [World.cell?_alloc_lt _ _ a hal]; exact ha)
  have st := as_set t (w.heap.size + 1) x0 x1 x2 x3 _ W' (by rw [show ∀ o o' : Obj, ((w.alloc o).alloc o').heap = (w.heap.push o).push o' from fun _ _ => rfl, show w.heap.size + 1 = (w.heap.push _).size from (Array.size_push _).symm]; exact Array.getElem?_push_size) hs
  simp only [vT', tT, hT] at *
  go_enter Tryz.func83, Tryz.ntmps83
  go_wp2
  refine wp_loop_rounds 1 ?_
  rw [rounds_succ]
  go_wp2
  go_ret
  exact ⟨rfl, rfl⟩
set_option maxRecDepth 100000 in
set_option maxHeartbeats 4000000 in
theorem as_hit (t : Addr) (x0 x1 x2 x3 : Value) (w W' : World) (hg : w.cell? ⟨0, 0, none⟩ = some (tT 73))
    (hs : (storeVar 70 t (.agg #[x0, x1, x2, x3])).run Tryz.prog ((((w.alloc (.cells #[.pointer (some t)] 75)).alloc (.cells #[hT 75, .pointer (some ⟨w.heap.size, 0, none⟩), .int .u64 150] 124)).alloc (.cells #[hT 75, .pointer (some ⟨w.heap.size, 0, none⟩), .int .u64 150] 124)).alloc (.cells #[x0, x1, x2, x3] 70)) = .ok () W') :
    Calls Tryz.prog 47 #[.iface 70 (.agg #[x0, x1, x2, x3]), .iface 75 (.pointer (some t))] w fun e w' => e = .returned (.bool true) ∧ w' = W' := by
  have h6 := @run_callFunc_extern Tryz.prog 80 _ (fun args => ReflectliteValue.unpack (args.getD 0 (.tuple #[]))) Tryz.func80 (by kernel_rfl) (by kernel_rfl) (by kernel_rfl) (by kernel_rfl)
  have h7 := @run_callFunc_extern Tryz.prog 81 _ (ReflectliteValue.methodAny (ReflectliteValue.valueError "reflectlite.Value.Type" 0) (fun t _ _ _ => ReflectliteType.toType t)) Tryz.func81 (by kernel_rfl) (by kernel_rfl) (by kernel_rfl) (by kernel_rfl)
  have h8 := @run_callFunc_extern Tryz.prog 82 _ (ReflectliteValue.method (ReflectliteValue.valueError "reflectlite.Value.IsNil" 0) ReflectliteValue.isNil) Tryz.func82 (by kernel_rfl) (by kernel_rfl) (by kernel_rfl) (by kernel_rfl)
  have h27 := @run_callFunc_extern Tryz.prog 163 _ (ReflectliteType.abiMethod fun t => do pure (.int .u8 (← Rtype.kind t))) Tryz.func163 (by kernel_rfl) (by kernel_rfl) (by kernel_rfl) (by kernel_rfl)
  have h37 := @run_callFunc_extern Tryz.prog 193 _ (ReflectliteType.method ReflectliteType.elem) Tryz.func193 (by kernel_rfl) (by kernel_rfl) (by kernel_rfl) (by kernel_rfl)
  have h38 := @run_callFunc_extern Tryz.prog 194 _ (ReflectliteType.relation "Implements" ReflectliteType.implements_) Tryz.func194 (by kernel_rfl) (by kernel_rfl) (by kernel_rfl) (by kernel_rfl)
  have f6 := as_valueOfP
  have f7 := as_type
  have mK := as_mKind
  have mE := as_mElem
  have mI := as_mImpl
  have k27 := as_kindP
  have k25 := as_kindT
  have e27 := as_elem
  have i25 := as_impl
  have hlt : 0 < w.heap.size := as_alive hg
  have hp : ∀ o, ((w.alloc (.cells #[.pointer (some t)] 75)).alloc o).cell? ⟨w.heap.size, 0, none⟩ = some (.pointer (some t)) := fun o => by
    rw [World.cell?_alloc_lt _ _ ⟨w.heap.size, 0, none⟩ (by simp)]; simp
  have n8 := as_isNil ⟨w.heap.size, 0, none⟩ t ((w.alloc (.cells #[.pointer (some t)] 75)).alloc (.cells #[hT 75, .pointer (some ⟨w.heap.size, 0, none⟩), .int .u64 150] 124)) (hp _)
  have hg2 : ((w.alloc (.cells #[.pointer (some t)] 75)).alloc (.cells #[hT 75, .pointer (some ⟨w.heap.size, 0, none⟩), .int .u64 150] 124)).cell? ⟨0, 0, none⟩ = some (tT 73) := by
    rw [World.cell?_alloc_lt _ _ ⟨0, 0, none⟩ (by simp), World.cell?_alloc_lt _ _ ⟨0, 0, none⟩ hlt]; exact hg
  have go := as_go t ⟨w.heap.size, 0, none⟩ x0 x1 x2 x3 _ W' (hp _) hs
  clear hs
  simp only [vT', tT, hT] at *
  go_enter Tryz.func47, Tryz.ntmps47
  go_wp2_with (go_at_call 83; refine go.mono ?_; rintro e w' ⟨rfl, rfl⟩)
  go_ret
  exact ⟨rfl, rfl⟩

theorem hrel_skip {G : Ghost} {A : List Box} {w w' : World} {base : Nat} (h : HRel G A w base) (hk : Kept (fun _ => False) w w') : HRel G A w' base ∧ Ext G w G w' := by
  have e : Ext G w G w' := ⟨Nat.le_refl _, fun _ _ x => x, fun x o hx => cell?_congr (hk.block x (h.imm x o hx) (fun f => f)) o, fun _ _ => ⟨rfl, rfl, rfl, rfl, rfl⟩, fun x o hx f => hk.fz (h.imm x o hx) (fun f => f) f⟩
  exact ⟨⟨h.n, fun i hi => (h.box i hi).mono e (by rw [h.n]; exact hi) (fun hl => hk.block _ (h.bnd i hi hl).2 (fun f => f)) (fun _ _ x => x), h.sep, fun i hi hl => ⟨(h.bnd i hi hl).1, Nat.lt_of_lt_of_le (h.bnd i hi hl).2 hk.size⟩, fun b o x => Nat.lt_of_lt_of_le (h.imm b o x) hk.size, Nat.le_trans h.low hk.size, h.gv.block fun b hb => hk.block b (by have := h.low; omega) (fun f => f)⟩, e⟩
theorem hrel_skip1 {G : Ghost} {A : List Box} {w : World} {base : Nat} (h : HRel G A w base) (o : Obj) : HRel G A (w.alloc o) base ∧ Ext G w G (w.alloc o) ∧ Below base w (w.alloc o) :=
  have k := hrel_skip h (kept_alloc (w := w) (o := o))
  ⟨k.1, k.2, kept_alloc.below (fun _ f => f.elim) h.low⟩

set_option maxRecDepth 100000 in
theorem As_hit (A : List Box) (i : Nat) (y0 y1 y2 y3 : AV) (us : List AV) (hi : i < A.length) (hb : A.getD i .dead = .cells us) (hu : us.length = 4) :
    ACalls Tryz.prog 47 [.iface 70 (.agg [y0, y1, y2, y3]), .ifp 75 i 0] A (fun r A' => r = .bool true ∧ A' = A.set i (.cells [y0, y1, y2, y3])) := by
  intro G w base xs h hx
  obtain ⟨x, y, hxy, h1, h2⟩ := RL.two hx
  obtain ⟨xs⟩ := xs
  simp only at hxy
  subst hxy
  cases h1 with
  | iface _ _ x hv h1 =>
  cases h2 with
  | ifp _ _ _ hin =>
  have h1' := h1
  cases h1 with
  | agg _ x hs hc h1 =>
  obtain ⟨x⟩ := x
  match x, hs with
  | [x0, x1, x2, x3], _ =>
  have hg := (h.gv _ rfl).2
  obtain ⟨k1, e1, b1⟩ := hrel_skip1 h (.cells #[.pointer (some ⟨G.blk i, 0, none⟩)] 75)
  obtain ⟨k2, e2, b2⟩ := hrel_skip1 k1 (.cells #[hT 75, .pointer (some ⟨w.heap.size, 0, none⟩), .int .u64 150] 124)
  obtain ⟨k3, e3, b3⟩ := hrel_skip1 k2 (.cells #[hT 75, .pointer (some ⟨w.heap.size, 0, none⟩), .int .u64 150] 124)
  obtain ⟨k4, e4, b4⟩ := hrel_skip1 k3 (.cells #[x0, x1, x2, x3] 70)
  have e := (((e1.trans e2).trans e3).trans e4)
  obtain ⟨w', G', q1, q2, q3, q4⟩ := store_ok (A := A) (A' := A.set i (.cells [y0, y1, y2, y3])) (p := .ptr i 0) (c := 0 + 4 ≤ us.length) ti70 (vs := [y0, y1, y2, y3]) (v := .agg [y0, y1, y2, y3]) (y := .agg #[x0, x1, x2, x3]) rfl rfl (by simp only [storeA, hb]; simp [hu, List.drop_eq_nil_of_le (Nat.le_of_eq hu)]) (by omega) k4 (.ptr i 0 hin) (h1'.mono e)
  refine (as_hit ⟨G.blk i, 0, none⟩ x0 x1 x2 x3 w w' hg q1).mono ?_
  rintro ev w'' ⟨rfl, rfl⟩
  exact ⟨_, _, _, G', rfl, ⟨rfl, rfl⟩, .bool true, q2, e.trans q3, (((b1.trans b2).trans b3).trans b4).trans q4⟩
theorem As_nil (A : List Box) (v : AV) : ACalls Tryz.prog 47 [.nili, v] A (fun r A' => r = .bool false ∧ A' = A) := by
  intro G w base xs h hx
  obtain ⟨x, y, hxy, h1, h2⟩ := RL.two hx
  obtain ⟨xs⟩ := xs
  simp only at hxy
  subst hxy
  cases h1
  have : Calls Tryz.prog 47 #[.nilIface, y] w fun e w' => e = .returned (.bool false) ∧ w' = w := by
    go_enter Tryz.func47, Tryz.ntmps47
    go_wp2
    go_ret
    exact ⟨rfl, rfl⟩
  refine this.mono ?_
  rintro ev w'' ⟨rfl, rfl⟩
  exact ⟨_, _, A, G, rfl, ⟨rfl, rfl⟩, .bool false, h, Ext.refl _ _, Below.refl _ _⟩
end Go.Proofs.YtkajklfohjcofaaGreatDoor
