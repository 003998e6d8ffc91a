import Derived.Test.YtpdcgjkfilohcabGreatDoorHapFJ
import Derived.LaidEql
import Derived.Stop.Asserts
import Derived.RowKitTokens
import Derived.Laws.OwnMore
namespace Go.Proofs.YtpdcgjkfilohcabGreatDoor
open Go.RowKit Go.Extern.Stop Go.Stop Go.Extern
attribute [local go_sem ↓] Go.wp_at_zero Go.wp_at_succ

theorem as_nil (t : Value) (w : World) :
    Calls Tryz.prog 95 #[.nilIface, t] w fun e w' => e = .returned (.bool false) ∧ w' = w := by
  go_enter Tryz.func95, Tryz.ntmps95
  go_wp2
  go_ret
  exact ⟨rfl, rfl⟩
theorem rl_valueOfP (t : Addr) (w : World) : (ReflectliteValue.unpack (.iface 160 (.pointer (some t)))).run Tryz.prog w
    = .ok (.agg #[.pointer (some ⟨9, 160, none⟩), .pointer (some ⟨w.heap.size, 0, none⟩), .int .u64 150]) (w.alloc (.cells #[.pointer (some t)] 160)) := by kernel_rfl
theorem rl_typeP (a : Addr) (w : World) : (ReflectliteValue.methodAny (ReflectliteValue.valueError "reflectlite.Value.Type" 0) (fun t _ _ _ => ReflectliteType.toType t) #[.agg #[.pointer (some ⟨9, 160, none⟩), .pointer (some a), .int .u64 150]]).run Tryz.prog w
    = .ok (.iface 242 (.agg #[.pointer (some ⟨9, 160, none⟩)])) w := by kernel_rfl
theorem rl_kindP (w : World) : ((ReflectliteType.abiMethod fun t => (fun a : Nat => Value.int IntKind.u8 (a : Int)) <$> Rtype.kind t) #[.pointer (some ⟨9, 160, none⟩)]).run Tryz.prog w = .ok (.int .u8 22) w := by kernel_rfl
theorem rl_kindE (w : World) : ((ReflectliteType.abiMethod fun t => (fun a : Nat => Value.int IntKind.u8 (a : Int)) <$> Rtype.kind t) #[.pointer (some ⟨9, 153, none⟩)]).run Tryz.prog w = .ok (.int .u8 25) w := by kernel_rfl
theorem rlm (z : Sem Value) (f : TypeId → Addr → Nat → Nat → Sem Value) (v : Value) :
    ReflectliteValue.method z f #[v] = (do match ← ReflectliteValue.parts v with | none => z | some (t, a, fl) => f t a fl (fl % 32)) := rfl
theorem rl_partsP (a : Addr) (w : World) : (ReflectliteValue.parts (.agg #[.pointer (some ⟨9, 160, none⟩), .pointer (some a), .int .u64 150])).run Tryz.prog w = .ok (some (160, a, 150)) w := by kernel_rfl
theorem rl_isNilP (a p : Addr) (W : World) (ha : W.cell? a = some (.pointer (some p))) :
    (ReflectliteValue.method (ReflectliteValue.valueError "reflectlite.Value.IsNil" 0) ReflectliteValue.isNil #[.agg #[.pointer (some ⟨9, 160, none⟩), .pointer (some a), .int .u64 150]]).run Tryz.prog W = .ok (.bool false) W := by
  rw [rlm]
  simp only [Sem.run_bind, rl_partsP, Result.andThen]
  simp [ReflectliteValue.isNil, loadVar, isAgg, underlying, Tryz.underlying160, ha, Result.andThen]
theorem rl_elem (w : World) : (ReflectliteType.method ReflectliteType.elem #[.agg #[.pointer (some ⟨9, 160, none⟩)]]).run Tryz.prog w = .ok (.iface 242 (.agg #[.pointer (some ⟨9, 153, none⟩)])) w := by kernel_rfl
theorem rl_implements (w : World) : (ReflectliteType.relation "Implements" ReflectliteType.implements_ #[.agg #[.pointer (some ⟨9, 153, none⟩)], .iface 242 (.agg #[.pointer (some ⟨9, 86, none⟩)])]).run Tryz.prog w = .ok (.bool true) w := by kernel_rfl
theorem rl_methodKind (h : Value) (w : World) : (Go.method 524 242 (.agg #[h]) "Kind").run Tryz.prog w = .ok (312, h) w := by kernel_rfl
theorem rl_methodElem (h : Value) (w : World) : (Go.method 524 242 (.agg #[h]) "Elem").run Tryz.prog w = .ok (337, .agg #[h]) w := by kernel_rfl
theorem rl_methodImplements (h : Value) (w : World) : (Go.method 524 242 (.agg #[h]) "Implements").run Tryz.prog w = .ok (338, .agg #[h]) w := by kernel_rfl
theorem rl_methodAssignableTo (h : Value) (w : World) : (Go.method 524 242 (.agg #[h]) "AssignableTo").run Tryz.prog w = .ok (335, .agg #[h]) w := by kernel_rfl
theorem rl_typeOfE (v : Value) (w : World) : (ReflectliteType.typeOf #[.iface 153 v]).run Tryz.prog w = .ok (.iface 242 (.agg #[.pointer (some ⟨9, 153, none⟩)])) w := by kernel_rfl
theorem rl_assignable (w : World) : (ReflectliteType.relation "AssignableTo" ReflectliteType.assignableTo #[.agg #[.pointer (some ⟨9, 153, none⟩)], .iface 242 (.agg #[.pointer (some ⟨9, 153, none⟩)])]).run Tryz.prog w = .ok (.bool true) w := by kernel_rfl
theorem rl_valueOfE (c : Int) (w : World) : (ReflectliteValue.unpack (.iface 153 (.agg #[.int .i64 c]))).run Tryz.prog w
    = .ok (.agg #[.pointer (some ⟨9, 153, none⟩), .pointer (some ⟨w.heap.size, 0, none⟩), .int .u64 153]) (w.alloc (.cells #[.int .i64 c] 153)) := by kernel_rfl
theorem rl_elemOf (w : World) : (Rtype.elem? 160).run Tryz.prog w = .ok (some 153) w := by kernel_rfl
theorem rl_mk (p : Addr) (w : World) : (ReflectliteValue.mk 153 p ReflectliteValue.flagAddr).run Tryz.prog w = .ok (.agg #[.pointer (some ⟨9, 153, none⟩), .pointer (some p), .int .u64 409]) w := by kernel_rfl
theorem rl_elemV (a p : Addr) (W : World) (ha : W.cell? a = some (.pointer (some p))) :
    (ReflectliteValue.method (ReflectliteValue.valueError "reflectlite.Value.Elem" 0) ReflectliteValue.elem #[.agg #[.pointer (some ⟨9, 160, none⟩), .pointer (some a), .int .u64 150]]).run Tryz.prog W
      = .ok (.agg #[.pointer (some ⟨9, 153, none⟩), .pointer (some p), .int .u64 409]) W := by
  rw [rlm]
  simp only [Sem.run_bind, rl_partsP, Result.andThen]
  simp [ReflectliteValue.elem, loadVar, isAgg, underlying, Tryz.underlying160, ha, Result.andThen, rl_elemOf, rl_mk]
theorem rls (v x : Value) : ReflectliteValue.set #[v, x] = (do
    let (some (dst, a, fl), some (src, b, _)) := (← ReflectliteValue.parts v, ← ReflectliteValue.parts x)
      | unsupported (.noEntry "extern/(internal/reflectlite.Value).Set.zeroValue")
    if fl / ReflectliteValue.flagAddr % 2 == 0 then unsupported (.noEntry "extern/(internal/reflectlite.Value).Set.unaddressable")
    let val ← loadVar src b
    if ← Rtype.directlyAssignable dst src then storeVar dst a val
    else if ← Rtype.implements dst src then
      if (← Rtype.kind src) == 20 then
        match val with
        | .nilIface => unsupported (.noEntry "extern/reflectlite: a nil value of one interface type handed on as a value of another")
        | _ => storeVar dst a val
      else storeVar dst a (.iface src val)
    else panicString ("reflectlite.Set: value of type " ++ (← Rtype.spelt src) ++ " is not assignable to type " ++ (← Rtype.spelt dst))
    pure (.tuple #[])) := rfl
theorem rl_partsA (a : Addr) (w : World) : (ReflectliteValue.parts (.agg #[.pointer (some ⟨9, 153, none⟩), .pointer (some a), .int .u64 409])).run Tryz.prog w = .ok (some (153, a, 409)) w := by kernel_rfl
theorem rl_partsB (a : Addr) (w : World) : (ReflectliteValue.parts (.agg #[.pointer (some ⟨9, 153, none⟩), .pointer (some a), .int .u64 153])).run Tryz.prog w = .ok (some (153, a, 153)) w := by kernel_rfl
theorem rl_direct (w : World) : (Rtype.directlyAssignable 153 153).run Tryz.prog w = .ok true w := by kernel_rfl
theorem rl_set (ta b : Nat) (c : Int) (old : Value) (W : World) (hb : W.cell? ⟨b, 0, none⟩ = some (.int .i64 c)) (ht : W.cell? ⟨ta, 0, none⟩ = some old) (hf : W.frozen? ⟨ta, 0, none⟩ = false) :
    (ReflectliteValue.set #[.agg #[.pointer (some ⟨9, 153, none⟩), .pointer (some ⟨ta, 0, none⟩), .int .u64 409], .agg #[.pointer (some ⟨9, 153, none⟩), .pointer (some ⟨b, 0, none⟩), .int .u64 153]]).run Tryz.prog W
      = .ok (.tuple #[]) (W.setCell ⟨ta, 0, none⟩ (.int .i64 c)) := by
  have hu : Tryz.prog.underlying 153 = Tryz.prog.underlying 153 := rfl
  have hsz : (sizeOf 153).run Tryz.prog W = .ok 1 W := by kernel_rfl
  have hag : (isAgg 153).run Tryz.prog W = .ok true W := by kernel_rfl
  rw [rls]
  simp only [Sem.run_bind, rl_partsA, rl_partsB, Result.andThen]
  simp [ReflectliteValue.flagAddr, loadVar, hag, hsz, loadCells, loadCellsFrom, hb, Result.andThen, rl_direct, storeVar, Value.cells, storeCells, Addr.add]
  rw [run_store Tryz.prog W _ _ _ (by rfl)]
  simp [ht, hf]
end Go.Proofs.YtpdcgjkfilohcabGreatDoor

namespace Go.Proofs.YtpdcgjkfilohcabGreatDoor
open Go.RowKit Go.Extern.Stop Go.Stop Go.Extern
attribute [local go_sem ↓] Go.wp_at_zero Go.wp_at_succ

theorem but_own {r c : Nat} {w : World} (v : Value) : But r w (w.setCell ⟨r, c, none⟩ v) :=
  ⟨rfl, rfl, rfl, by rw [World.size_setCell]; exact Nat.le_refl _, fun k _ hne => Below.heap_setCell w ⟨r, c, none⟩ v k (fun e => hne (by rw [e]))⟩

set_option maxRecDepth 100000 in
set_option maxHeartbeats 2000000 in
theorem as_in (c : Int) (ta b : Nat) (old : Value) (w : World) (hb : w.cell? ⟨b, 0, none⟩ = some (.pointer (some ⟨ta, 0, none⟩))) (ht0 : w.cell? ⟨ta, 0, none⟩ = some old) (hf0 : w.frozen? ⟨ta, 0, none⟩ = false) (htl : ta < w.heap.size) (hbl : b < w.heap.size) :
    Calls Tryz.prog 134 #[.iface 153 (.agg #[.int .i64 c]), .iface 160 (.pointer (some ⟨ta, 0, none⟩)), .agg #[.pointer (some ⟨9, 160, none⟩), .pointer (some ⟨b, 0, none⟩), .int .u64 150], .iface 242 (.agg #[.pointer (some ⟨9, 153, none⟩)])] w fun ev w' => ev = .returned (.bool true) ∧ w' = ((w.setCell ⟨ta, 0, none⟩ (.int .i64 c)).alloc (.cells #[.pointer (some ⟨9, 160, none⟩), .pointer (some ⟨b, 0, none⟩), .int .u64 150] 193)).alloc (.cells #[.int .i64 c] 153) := by
  have h6 := @run_callFunc_extern Tryz.prog 131 _ (fun args => ReflectliteValue.unpack (args.getD 0 (.tuple #[]))) Tryz.func131 (by kernel_rfl) (by kernel_rfl) (by kernel_rfl) (by kernel_rfl)
  have h7 := @run_callFunc_extern Tryz.prog 132 _ (ReflectliteValue.methodAny (ReflectliteValue.valueError "reflectlite.Value.Type" 0) (fun t _ _ _ => ReflectliteType.toType t)) Tryz.func132 (by kernel_rfl) (by kernel_rfl) (by kernel_rfl) (by kernel_rfl)
  have h8 := @run_callFunc_extern Tryz.prog 133 _ (ReflectliteValue.method (ReflectliteValue.valueError "reflectlite.Value.IsNil" 0) ReflectliteValue.isNil) Tryz.func133 (by kernel_rfl) (by kernel_rfl) (by kernel_rfl) (by kernel_rfl)
  have h27 := @run_callFunc_extern Tryz.prog 312 _ (ReflectliteType.abiMethod fun t => do pure (.int .u8 (← Rtype.kind t))) Tryz.func312 (by kernel_rfl) (by kernel_rfl) (by kernel_rfl) (by kernel_rfl)
  have h37 := @run_callFunc_extern Tryz.prog 337 _ (ReflectliteType.method ReflectliteType.elem) Tryz.func337 (by kernel_rfl) (by kernel_rfl) (by kernel_rfl) (by kernel_rfl)
  have h38 := @run_callFunc_extern Tryz.prog 338 _ (ReflectliteType.relation "Implements" ReflectliteType.implements_) Tryz.func338 (by kernel_rfl) (by kernel_rfl) (by kernel_rfl) (by kernel_rfl)
  have h10 := @run_callFunc_extern Tryz.prog 164 _ (ReflectliteType.typeOf) Tryz.func164 (by kernel_rfl) (by kernel_rfl) (by kernel_rfl) (by kernel_rfl)
  have h35 := @run_callFunc_extern Tryz.prog 335 _ (ReflectliteType.relation "AssignableTo" ReflectliteType.assignableTo) Tryz.func335 (by kernel_rfl) (by kernel_rfl) (by kernel_rfl) (by kernel_rfl)
  have h11 := @run_callFunc_extern Tryz.prog 165 _ (ReflectliteValue.method (ReflectliteValue.valueError "reflectlite.Value.Elem" 0) ReflectliteValue.elem) Tryz.func165 (by kernel_rfl) (by kernel_rfl) (by kernel_rfl) (by kernel_rfl)
  have h12 := @run_callFunc_extern Tryz.prog 166 _ (ReflectliteValue.set) Tryz.func166 (by kernel_rfl) (by kernel_rfl) (by kernel_rfl) (by kernel_rfl)
  have tO := rl_typeOfE
  have mA := rl_methodAssignableTo
  have a25 := rl_assignable
  have v25 := rl_valueOfE
  have el := rl_elemV ⟨b, 0, none⟩ ⟨ta, 0, none⟩ (w.alloc (.cells #[.pointer (some ⟨9, 160, none⟩), .pointer (some ⟨b, 0, none⟩), .int .u64 150] 193)) (by rw [World.cell?_alloc_lt _ _ ⟨b, 0, none⟩ hbl]; exact hb)
  have st := rl_set ta (w.heap.size + 1) c old ((w.alloc (.cells #[.pointer (some ⟨9, 160, none⟩), .pointer (some ⟨b, 0, none⟩), .int .u64 150] 193)).alloc (.cells #[.int .i64 c] 153)) (by simp)
    (by rw [World.cell?_alloc_lt _ _ ⟨ta, 0, none⟩ (by simp; omega), World.cell?_alloc_lt _ _ ⟨ta, 0, none⟩ htl]; exact ht0)
    (by rw [World.frozen?_alloc_old _ _ ⟨ta, 0, none⟩ (by simp; omega), World.frozen?_alloc_old _ _ ⟨ta, 0, none⟩ (by simp; omega)]; exact hf0)
  go_enter Tryz.func134, Tryz.ntmps134
  go_wp2
  refine wp_loop_rounds 1 ?_
  rw [rounds_succ]
  go_wp2
  go_ret
  exact ⟨rfl, rfl⟩

set_option maxRecDepth 100000 in
set_option maxHeartbeats 2000000 in
theorem as_hit (c : Int) (ta : Nat) (old : Value) (w : World) (hg : w.cell? ⟨0, 0, none⟩ = some (.iface 242 (.agg #[.pointer (some ⟨9, 86, none⟩)]))) (ht0 : w.cell? ⟨ta, 0, none⟩ = some old) (hf0 : w.frozen? ⟨ta, 0, none⟩ = false) (htl : ta < w.heap.size) :
    Calls Tryz.prog 95 #[.iface 153 (.agg #[.int .i64 c]), .iface 160 (.pointer (some ⟨ta, 0, none⟩))] w fun ev w' => ev = .returned (.bool true) ∧ w'.cell? ⟨ta, 0, none⟩ = some (.int .i64 c) ∧ But ta w w' := by
  have h6 := @run_callFunc_extern Tryz.prog 131 _ (fun args => ReflectliteValue.unpack (args.getD 0 (.tuple #[]))) Tryz.func131 (by kernel_rfl) (by kernel_rfl) (by kernel_rfl) (by kernel_rfl)
  have h7 := @run_callFunc_extern Tryz.prog 132 _ (ReflectliteValue.methodAny (ReflectliteValue.valueError "reflectlite.Value.Type" 0) (fun t _ _ _ => ReflectliteType.toType t)) Tryz.func132 (by kernel_rfl) (by kernel_rfl) (by kernel_rfl) (by kernel_rfl)
  have h8 := @run_callFunc_extern Tryz.prog 133 _ (ReflectliteValue.method (ReflectliteValue.valueError "reflectlite.Value.IsNil" 0) ReflectliteValue.isNil) Tryz.func133 (by kernel_rfl) (by kernel_rfl) (by kernel_rfl) (by kernel_rfl)
  have h27 := @run_callFunc_extern Tryz.prog 312 _ (ReflectliteType.abiMethod fun t => do pure (.int .u8 (← Rtype.kind t))) Tryz.func312 (by kernel_rfl) (by kernel_rfl) (by kernel_rfl) (by kernel_rfl)
  have h37 := @run_callFunc_extern Tryz.prog 337 _ (ReflectliteType.method ReflectliteType.elem) Tryz.func337 (by kernel_rfl) (by kernel_rfl) (by kernel_rfl) (by kernel_rfl)
  have h38 := @run_callFunc_extern Tryz.prog 338 _ (ReflectliteType.relation "Implements" ReflectliteType.implements_) Tryz.func338 (by kernel_rfl) (by kernel_rfl) (by kernel_rfl) (by kernel_rfl)
  have h10 := @run_callFunc_extern Tryz.prog 164 _ (ReflectliteType.typeOf) Tryz.func164 (by kernel_rfl) (by kernel_rfl) (by kernel_rfl) (by kernel_rfl)
  have h35 := @run_callFunc_extern Tryz.prog 335 _ (ReflectliteType.relation "AssignableTo" ReflectliteType.assignableTo) Tryz.func335 (by kernel_rfl) (by kernel_rfl) (by kernel_rfl) (by kernel_rfl)
  have h11 := @run_callFunc_extern Tryz.prog 165 _ (ReflectliteValue.method (ReflectliteValue.valueError "reflectlite.Value.Elem" 0) ReflectliteValue.elem) Tryz.func165 (by kernel_rfl) (by kernel_rfl) (by kernel_rfl) (by kernel_rfl)
  have h12 := @run_callFunc_extern Tryz.prog 166 _ (ReflectliteValue.set) Tryz.func166 (by kernel_rfl) (by kernel_rfl) (by kernel_rfl) (by kernel_rfl)
  have f6 := rl_valueOfP
  have f7 := rl_typeP
  have mK := rl_methodKind
  have mE := rl_methodElem
  have mI := rl_methodImplements
  have k27 := rl_kindP
  have k25 := rl_kindE
  have e27 := rl_elem
  have i25 := rl_implements
  have n8 := rl_isNilP ⟨w.heap.size, 0, none⟩ ⟨ta, 0, none⟩ ((w.alloc (.cells #[.pointer (some ⟨ta, 0, none⟩)] 160)).alloc (.cells #[.pointer (some ⟨9, 160, none⟩), .pointer (some ⟨w.heap.size, 0, none⟩), .int .u64 150] 193)) (by simp)
  have h0 : 0 < w.heap.size := by omega
  have hg2 : ((w.alloc (.cells #[.pointer (some ⟨ta, 0, none⟩)] 160)).alloc (.cells #[.pointer (some ⟨9, 160, none⟩), .pointer (some ⟨w.heap.size, 0, none⟩), .int .u64 150] 193)).cell? ⟨0, 0, none⟩ = some (.iface 242 (.agg #[.pointer (some ⟨9, 86, none⟩)])) := by
    rw [World.cell?_alloc_lt _ _ ⟨0, 0, none⟩ (by simp), World.cell?_alloc_lt _ _ ⟨0, 0, none⟩ h0]; exact hg
  have G2 : Gr w ((w.alloc (.cells #[.pointer (some ⟨ta, 0, none⟩)] 160)).alloc (.cells #[.pointer (some ⟨9, 160, none⟩), .pointer (some ⟨w.heap.size, 0, none⟩), .int .u64 150] 193)) := ((Gr.refl _).alloc _).alloc _
  have HIN := as_in c ta w.heap.size old ((w.alloc (.cells #[.pointer (some ⟨ta, 0, none⟩)] 160)).alloc (.cells #[.pointer (some ⟨9, 160, none⟩), .pointer (some ⟨w.heap.size, 0, none⟩), .int .u64 150] 193)) (by simp) ((G2.cells.1 _ _ htl).trans ht0) ((G2.cells.2 _ _ htl).trans hf0) (by have := G2.size; omega) (by simp; omega)
  have hlt2 : ((w.alloc (.cells #[.pointer (some ⟨ta, 0, none⟩)] 160)).alloc (.cells #[.pointer (some ⟨9, 160, none⟩), .pointer (some ⟨w.heap.size, 0, none⟩), .int .u64 150] 193)).cell? ⟨ta, 0, none⟩ = some old := (G2.cells.1 _ _ htl).trans ht0
  clear hg
  go_enter Tryz.func95, Tryz.ntmps95
  go_wp2_with (go_at_call 134; refine HIN.mono ?_; rintro e w9 ⟨rfl, hw9⟩)
  go_ret
  subst hw9
  have GG : ∀ o1 o2 o3 o4 : Obj, Gr (w.setCell ⟨ta, 0, none⟩ (.int .i64 c)) (((((w.setCell ⟨ta, 0, none⟩ (.int .i64 c)).alloc o1).alloc o2).alloc o3).alloc o4) := fun _ _ _ _ => ((((Gr.refl _).alloc _).alloc _).alloc _).alloc _
  exact ⟨rfl, ((GG _ _ _ _).cells.1 ta 0 (by rw [World.size_setCell]; exact htl)).trans (World.cell?_setCell_same _ _ _ ht0), (but_own (c := 0) (.int .i64 c)).trans (But.of_gr (GG _ _ _ _))⟩
theorem codeOf_nil (w : World) : Calls Tryz.prog 56 #[.nilIface] w fun e w' => e = .returned (.int .i64 0) ∧ Gr w w' := by
  go_enter Tryz.func56, Tryz.ntmps56
  go_wp2_with (go_at_call 95; refine (as_nil _ _).mono ?_; rintro e w9 ⟨rfl, rfl⟩)
  go_ret
  exact ⟨rfl, (Gr.refl _).alloc _⟩
set_option maxHeartbeats 1000000 in
theorem codeOf_hit (c : Int) (w : World) (hg : w.cell? ⟨0, 0, none⟩ = some (.iface 242 (.agg #[.pointer (some ⟨9, 86, none⟩)]))) (h0 : 0 < w.heap.size) : Calls Tryz.prog 56 #[.iface 153 (.agg #[.int .i64 c])] w fun e w' => e = .returned (.int .i64 c) ∧ Gr w w' := by
  have hgA : (w.alloc (.cells #[.int .i64 0] 153)).cell? ⟨0, 0, none⟩ = some (.iface 242 (.agg #[.pointer (some ⟨9, 86, none⟩)])) := (((Gr.refl _).alloc _).cells.1 _ _ h0).trans hg
  have HA := as_hit c w.heap.size (.int .i64 0) (w.alloc (.cells #[.int .i64 0] 153)) hgA (by simp) (by simp) (by simp)
  clear hg hgA
  go_enter Tryz.func56, Tryz.ntmps56
  go_wp2_with fail
  refine HA.mono ?_
  rintro e w9 ⟨rfl, hc9, m9⟩
  go_wp2
  go_ret
  exact ⟨rfl, m9.gr ((Gr.refl w).alloc _) (Nat.le_refl _)⟩
end Go.Proofs.YtpdcgjkfilohcabGreatDoor

namespace Go.Proofs.YtpdcgjkfilohcabGreatDoor
open Go.RowKit
attribute [local go_sem ↓] Go.wp_at_zero Go.wp_at_succ

theorem like_len {us ts : List Tb} (h : Like us ts) : us.length = ts.length := h.1
theorem nm_edit (ts : List Tb) (p c : Nat) (mid : List Tb) (hp : p ≤ ts.length) (k : Nat) : (edit ts p c mid).getD k Tb.nil = if k < p then ts.getD k Tb.nil else if k < p + mid.length then mid.getD (k - p) Tb.nil else ts.getD (k - mid.length + c) Tb.nil := by
  unfold edit
  simp only [List.getD_eq_getElem?_getD]
  have hl : (ts.take p).length = p := by rw [List.length_take]; omega
  by_cases h1 : k < p
  · rw [if_pos h1, List.append_assoc, List.getElem?_append_left (by omega), List.getElem?_take_of_lt h1]
  · rw [if_neg h1]
    by_cases h2 : k < p + mid.length
    · rw [if_pos h2, List.getElem?_append_left (by rw [List.length_append]; omega), List.getElem?_append_right (by omega), hl]
    · rw [if_neg h2, List.getElem?_append_right (by rw [List.length_append]; omega), List.length_append, hl, List.getElem?_drop]
      congr 2
      omega
/-- What is alike stays so. -/
theorem like_edit {us ts mid mid' : List Tb} {p c : Nat} (h : Like us ts) (hm : Like mid mid') (hp : p + c ≤ ts.length) : Like (edit us p c mid) (edit ts p c mid') := by
  have hl := h.1
  have hml := hm.1
  have e1 : ∀ (xs ms : List Tb), p + c ≤ xs.length → (edit xs p c ms).length = xs.length - c + ms.length := fun xs ms hx => by unfold edit; simp; omega
  refine ⟨by rw [e1 us mid (by omega), e1 ts mid' hp]; omega, fun k hk => ?_⟩
  rw [e1 ts mid' hp] at hk
  have a1 := nm_edit us p c mid (by omega) k
  have a2 := nm_edit ts p c mid' (by omega) k
  unfold nm bx
  rw [a1, a2]
  by_cases h1 : k < p
  · rw [if_pos h1, if_pos h1]
    exact h.2 k (by omega)
  · rw [if_neg h1, if_neg h1, hml]
    by_cases h2 : k < p + mid'.length
    · rw [if_pos h2, if_pos h2]
      exact hm.2 (k - p) (by omega)
    · rw [if_neg h2, if_neg h2]
      exact h.2 _ (by omega)
theorem like_refl (ts : List Tb) : Like ts ts := ⟨rfl, fun _ _ => ⟨rfl, rfl⟩⟩
theorem flatT_set (us : List Tb) (p : Nat) (a b : Value) (hp : p < us.length) : ((flatT us).set (p * 2) a).set (p * 2 + 1) b = flatT (us.take p) ++ [a, b] ++ flatT (us.drop (p + 1)) := by
  have hA : (flatT (us.take p)).length = p * 2 := by rw [flatT_len, List.length_take]; omega
  have e : flatT us = flatT (us.take p) ++ (Value.string us[p].s :: Value.slice us[p].a us[p].bs.length us[p].cap :: flatT (us.drop (p + 1))) := by
    conv => lhs; rw [← List.take_append_drop p us, flatT_app, List.drop_eq_getElem_cons hp]
    rfl
  rw [e, List.set_append, if_neg (by omega), hA, Nat.sub_self, List.set_cons_zero, List.set_append, if_neg (by omega), hA, show p * 2 + 1 - p * 2 = 1 by omega, List.set_cons_succ, List.set_cons_zero]
  simp
/-- A tube is put in another one's place. -/
theorem ownT_put {lo g cap p : Nat} {w : World} {us : List Tb} {t : Tb} (h : OwnT lo w (.slice (some ⟨g, 0, none⟩) us.length cap) us) (ht : InT lo w t) (hta : ∀ q, t.blk = some q → q ≠ g ∧ ∀ u ∈ us, u.blk ≠ some q) (hp : p < us.length) :
    OwnT lo (put2 w g (p * 2) t) (.slice (some ⟨g, 0, none⟩) us.length cap) (edit us p 1 [t]) ∧ w.grownBy (put2 w g (p * 2) t) (some g) := by
  obtain ⟨h1, h2, h3, h4⟩ := h
  have s1 := h1.stored (p * 2) (.string t.s)
  have s2 := s1.1.stored (p * 2 + 1) (.slice t.a t.bs.length t.cap)
  have hG : w.grownBy (put2 w g (p * 2) t) (some g) := grown_trans s1.2 s2.2
  have hel : (edit us p 1 [t]).length = us.length := by unfold edit; simp; omega
  have hef : flatT (edit us p 1 [t]) = flatT (us.take p) ++ [Value.string t.s, Value.slice t.a t.bs.length t.cap] ++ flatT (us.drop (p + 1)) := by
    unfold edit
    rw [flatT_app, flatT_app]
    rfl
  have hin : ∀ u ∈ edit us p 1 [t], InT lo w u := fun u hu => by
    rcases edit_mem hu with h | h
    · exact h2 u h
    · rw [List.mem_singleton] at h; subst h; exact ht
  have hne : ∀ u ∈ edit us p 1 [t], ∀ q, u.blk = some q → (Value.slice (some ⟨g, 0, none⟩) us.length cap).ownBlock ≠ some q := fun u hu q e => by
    rcases edit_mem hu with h | h
    · exact h4 u h q e
    · rw [List.mem_singleton] at h
      subst h
      intro e'
      have := (hta q e).1
      simp [Value.ownBlock] at e'
      omega
  refine ⟨⟨?_, fun u hu => inT_grown (hin u hu) hG (fun q e => hne u hu q e), ?_, hne⟩, hG⟩
  · rw [hel, hef, ← flatT_set us p _ _ hp]
    exact s2.1
  · have hsub : (us.take p ++ us.drop (p + 1)).Pairwise (fun t u => ∀ q, t.blk = some q → u.blk ≠ some q) := by
      refine h3.sublist ?_
      conv => rhs; rw [← List.take_append_drop p us]
      exact List.Sublist.append_left (by rw [← List.drop_drop]; exact List.drop_sublist _ _) _
    rw [List.pairwise_append] at hsub
    unfold edit
    rw [List.append_assoc, List.pairwise_append]
    refine ⟨hsub.1, ?_, fun a ha b hb => ?_⟩
    · rw [List.singleton_append, List.pairwise_cons]
      exact ⟨fun b hb q e => (hta q e).2 b (List.mem_of_mem_drop hb), hsub.2.1⟩
    · rw [List.singleton_append, List.mem_cons] at hb
      rcases hb with rfl | hb
      · intro q e e'
        exact (hta q e').2 a (List.mem_of_mem_take ha) e
      · exact hsub.2.2 a ha b hb

/-- Whose boxes a list does not hold. -/
def Apart (t : Tb) (v : Value) (us : List Tb) : Prop := ∀ q, t.blk = some q → v.ownBlock ≠ some q ∧ ∀ u ∈ us, u.blk ≠ some q
theorem insert_any (lo : Nat) (v : Value) (us : List Tb) (s : ByteArray) (a2 : Option Addr) (c2 : Nat) (bs : List Bx) (p vb : Nat) (w : World) (hO : OwnT lo w v us) (hlo : lo ≤ w.heap.size) (ht : InT lo w ⟨s, a2, c2, bs⟩) (hta : Apart ⟨s, a2, c2, bs⟩ v us)
    (hblk : w.heap[vb]? = some (.cells #[.string s, .slice a2 bs.length c2] 43 (0, 0))) (hvb : v.ownBlock ≠ some vb) (hp : p ≤ us.length) (hn : us.length ≤ 24) :
    Calls Tryz.prog 325 #[v, .int .i64 p, .slice (some ⟨vb, 0, none⟩) 1 1] w fun e w' => (∃ v', e = .returned v' ∧ OwnT lo w' v' (edit us p 0 [⟨s, a2, c2, bs⟩])) ∧ w.grownBy w' v.ownBlock := by
  by_cases he : p = us.length
  · subst he
    exact insert_end lo v us s a2 c2 bs vb w hO hlo ht hta hblk hn
  · rcases hO.1.2 with ⟨rfl, h0⟩ | ⟨g, cap, cur, rfl, hb, hg, h1, h2, h3, h4⟩
    · omega
    · by_cases hc : cap = us.length
      · subst hc
        exact insert_grow lo g p us s a2 c2 bs vb w hO hlo ht hta hblk (by omega) hn
      · exact insert_shift lo g p cap us s a2 c2 bs vb w hO ht hta hblk (by intro e; subst e; exact hvb rfl) (by omega) hn (by omega)
end Go.Proofs.YtpdcgjkfilohcabGreatDoor

namespace Go.Proofs.YtpdcgjkfilohcabGreatDoor
open Go.RowKit
attribute [local go_sem ↓] Go.wp_at_zero Go.wp_at_succ

theorem own_some {lo : Nat} {w : World} {v : Value} {us : List Tb} (h : OwnT lo w v us) (hn : 0 < us.length) : ∃ g cap, v = .slice (some ⟨g, 0, none⟩) us.length cap ∧ lo ≤ g ∧ g < w.heap.size := by
  rcases h.1.2 with ⟨rfl, h0⟩ | ⟨g, cap, cur, rfl, hb, hg, h1, h2, h3, h4⟩
  · omega
  · exact ⟨g, cap, rfl, hb, (Array.getElem?_eq_some_iff.1 hg).1⟩
theorem own_form {lo : Nat} {w : World} {v : Value} {us : List Tb} (h : OwnT lo w v us) : ∃ a cap, v = .slice a us.length cap := by
  obtain ⟨a, c, e, -⟩ := ownT_tubes h
  exact ⟨a, c, e⟩

/-- What comes of a tube that goes. -/
def GoR (ts : List Tb) (s : ByteArray) (p lo : Nat) (e : Ending) (w' : World) : Prop :=
  ((there ts s p = false ∧ e = .returned (.tuple #[.slice none 0 0, .iface 153 (.agg #[.int .i64 3])])) ∨ (there ts s p = true ∧ ∃ v us, e = .returned (.tuple #[v, .nilIface]) ∧ OwnT lo w' v us ∧ Like us (edit ts p 1 [])))

set_option maxRecDepth 100000 in
set_option maxHeartbeats 1000000 in
theorem going_any (a : Option Addr) (cap : Nat) (ts : List Tb) (s : ByteArray) (p : Nat) (w : World) (ha : Tubes w a ts) (hM : Made ts) (hsky : skyB ts = true) (hP : PlaceIs ts s p) :
    Calls Tryz.prog 322 #[.agg #[.string s], .slice a ts.length cap] w fun e w' => GoR ts s p w.heap.size e w' ∧ Gr w w' := by
  obtain ⟨hn, hb, -⟩ := sky_tiny hsky
  have G1 : Gr w (w.alloc (.cells #[.string s] 156)) := (Gr.refl _).alloc _
  have HPL := placeOf_any a cap ts s p (w.alloc (.cells #[.string s] 156)) (tubes_gr ha G1) (by omega) hP
  cases hth : there ts s p
  · rw [hth] at HPL
    go_enter Tryz.func322, Tryz.ntmps322
    go_wp2_with (go_at_call 120; refine HPL.mono ?_; rintro e w2 ⟨rfl, g2⟩)
    go_ret2
    exact ⟨Or.inl ⟨hth, rfl⟩, G1.trans g2⟩
  · rw [hth] at HPL
    have hpl : p < ts.length := by
      unfold there at hth
      simp at hth
      exact hth.1
    have HCP : Hid (∀ w', Gr w w' → Calls Tryz.prog 94 #[.slice a ts.length cap] w' fun e w'' => (∃ v us, e = .returned v ∧ OwnT w'.heap.size w'' v us ∧ Like us ts) ∧ Gr w' w'') := fun w' g => copyOfAll_any a cap ts w' (tubes_gr ha g) hM (by omega) (fun t h => by have := (hb t h).1; omega)
    go_enter Tryz.func322, Tryz.ntmps322
    go_wp2_with fail
    refine HPL.mono ?_
    rintro e w2 ⟨rfl, g2⟩
    have G2 := G1.trans g2
    go_wp2_with fail
    refine (HCP.out w2 G2).mono ?_
    rintro e w3 ⟨⟨v3, us, rfl, hO3, hL3⟩, g3⟩
    have hl3 := hL3.1
    obtain ⟨g, c3, ev, hg3, hg3l⟩ := own_some hO3 (by omega)
    subst ev
    have HL : Hid (Like us ts) := hL3
    have HD := delete_any _ g c3 us p w3 hO3 (by omega) (by omega)
    have HLE : Hid (us.length = ts.length) := hl3
    clear hl3 hL3 hO3
    go_wp2_with fail
    refine HD.mono ?_
    rintro e w4 ⟨⟨v4, rfl, hO4⟩, gr4⟩
    obtain ⟨a4, c4, e4⟩ := own_form hO4
    subst e4
    have G4 : Gr w w4 := But.gr (r := g) gr4 (G2.trans g3) (by have := G2.size; omega)
    have HO4 : Hid _ := ownT_lo hO4 (show w.heap.size ≤ _ from G2.size)
    clear hO4 gr4
    go_wp2
    go_ret2
    exact ⟨Or.inr ⟨hth, _, _, rfl, HO4.out, like_edit HL.out (like_refl []) (by omega)⟩, G4⟩

/-- What comes of a tube that comes in. -/
def ComeR (ts : List Tb) (s : ByteArray) (bs : List Bx) (p : Nat) (t : Tb) (lo : Nat) (e : Ending) (w' : World) : Prop :=
  ((tubeB s bs = false ∧ e = .returned (.tuple #[.slice none 0 0, .iface 153 (.agg #[.int .i64 2])])) ∨ (tubeB s bs = true ∧ (there ts s p = false ∧ 24 ≤ ts.length) ∧ e = .returned (.tuple #[.slice none 0 0, .iface 153 (.agg #[.int .i64 4])])) ∨ (tubeB s bs = true ∧ ¬ (there ts s p = false ∧ 24 ≤ ts.length) ∧ ∃ v us, e = .returned (.tuple #[v, .nilIface]) ∧ OwnT lo w' v us ∧ Like us (edit ts p (if there ts s p then 1 else 0) [t])))

set_option maxRecDepth 100000 in
set_option maxHeartbeats 2000000 in
theorem coming_any (a : Option Addr) (cap : Nat) (ts : List Tb) (s : ByteArray) (q r tc : Nat) (bs : List Bx) (p : Nat) (w : World) (ha : Tubes w a ts) (hM : Made ts) (hsky : skyB ts = true) (hP : PlaceIs ts s p) (hs : s.size ≤ maxLen) (hbl : bs.length ≤ 1048576) (hbx : Boxes w (some ⟨q, r, none⟩) bs) :
    Calls Tryz.prog 324 #[.agg #[.string s, .slice (some ⟨q, r, none⟩) bs.length tc], .slice a ts.length cap] w fun e w' => ComeR ts s bs p (⟨s, some ⟨q, r, none⟩, tc, bs⟩ : Tb) w.heap.size e w' ∧ Gr w w' := by
  obtain ⟨hn, hb, -⟩ := sky_tiny hsky
  have G1 : Gr w (w.alloc (.cells #[.string s, .slice (some ⟨q, r, none⟩) bs.length tc] 158)) := (Gr.refl _).alloc _
  have HTK := implTubeOk_any s (some ⟨q, r, none⟩) tc bs (w.alloc (.cells #[.string s, .slice (some ⟨q, r, none⟩) bs.length tc] 158)) hs (boxes_gr hbx G1) hbl
  have HCO : Hid (∀ w', Gr (w.alloc (.cells #[.string s, .slice (some ⟨q, r, none⟩) bs.length tc] 158)) w' → w'.cell? ⟨w.heap.size, 0, none⟩ = some (.string s) ∧ w'.cell? ⟨w.heap.size, 1, none⟩ = some (.slice (some ⟨q, r, none⟩) bs.length tc)) := fun w' g => (new_pair g).2
  cases hok : tubeB s bs
  · rw [hok] at HTK
    go_enter Tryz.func324, Tryz.ntmps324
    go_wp2_with (go_at_call 135; refine HTK.mono ?_; rintro e w2 ⟨rfl, g2⟩)
    go_ret2
    exact ⟨Or.inl ⟨hok, rfl⟩, G1.trans g2⟩
  rw [hok] at HTK
  have hbs : bs.length ≤ 40 := by
    simp only [tubeB, Bool.and_eq_true, decide_eq_true_eq] at hok
    exact hok.1.2
  have HPL : Hid (∀ w', Gr w w' → Calls Tryz.prog 120 #[.slice a ts.length cap, .string s] w' fun e w'' => e = .returned (.tuple #[.int .i64 p, .bool (there ts s p)]) ∧ Gr w' w'') := fun w' g => placeOf_any a cap ts s p w' (tubes_gr ha g) (by omega) hP
  have HCP : Hid (∀ w', Gr w w' → Calls Tryz.prog 94 #[.slice a ts.length cap] w' fun e w'' => (∃ v us, e = .returned v ∧ OwnT w'.heap.size w'' v us ∧ Like us ts) ∧ Gr w' w'') := fun w' g => copyOfAll_any a cap ts w' (tubes_gr ha g) hM (by omega) (fun t h => by have := (hb t h).1; omega)
  have HC1 : Hid (∀ w', Gr w w' → Calls Tryz.prog 130 #[.agg #[.string s, .slice (some ⟨q, r, none⟩) bs.length tc]] w' fun e w'' => (∃ v, e = .returned (.agg #[.string s, v]) ∧ OwnL w' w'' v bs) ∧ Gr w' w'') := fun w' g => copyOf_any s q r tc bs w' (boxes_gr hbx g) (by omega)
  go_enter Tryz.func324, Tryz.ntmps324
  go_wp2_with fail
  refine HTK.mono ?_
  rintro e w1 ⟨rfl, g1⟩
  obtain ⟨k0, k1⟩ := HCO.out _ g1
  have hw1 : w.heap.size < w1.heap.size := by have := g1.size; simp at this; omega
  have GA := G1.trans g1
  go_wp2_with fail
  (with_reducible refine Calls.mono (HPL.out w1 GA) ?_)
  rintro e w2 ⟨rfl, g2⟩
  have G2 := GA.trans g2
  clear k0 k1
  obtain ⟨k0, k1⟩ := HCO.out _ (g1.trans g2)
  have hw2 : w.heap.size < w2.heap.size := by have := g2.size; omega
  have hpn : p ≤ ts.length := hP.1
  cases hth : there ts s p
  · by_cases h24 : 24 ≤ ts.length
    · have q24 : ((ts.length : Int) == 24) = true := by simp; omega
      go_wp2
      go_ret2
      exact ⟨Or.inr (Or.inl ⟨hok, ⟨hth, h24⟩, rfl⟩), G2⟩
    · have q24 : ((ts.length : Int) == 24) = false := by simp; omega
      go_wp2_with fail
      (with_reducible refine Calls.mono (HCP.out w2 G2) ?_)
      rintro e w3 ⟨⟨v3, us, rfl, hO3, hL3⟩, g3⟩
      obtain ⟨a3, c3, e3⟩ := own_form hO3
      subst e3
      have hl3 := hL3.1
      clear k0 k1
      obtain ⟨k0, k1⟩ := HCO.out _ ((g1.trans g2).trans g3)
      have HO3 : Hid _ := hO3
      have HL : Hid (Like us ts) := hL3
      have HLE : Hid (us.length = ts.length) := hl3
      clear hO3 hL3 hl3
      have hw3 : w.heap.size < w3.heap.size := by have := g3.size; omega
      go_wp2_with fail
      (with_reducible refine Calls.mono (HC1.out w3 (G2.trans g3)) ?_)
      rintro e w5 ⟨⟨v5, rfl, hO5⟩, g5⟩
      obtain ⟨a5, c5, e5, -⟩ := id hO5
      subst e5
      have gal : Gr w5 (w5.alloc (.cells #[.string s, .slice a5 bs.length c5] 43)) := (Gr.refl _).alloc _
      have hI5 := inT_gr (ownL_inT (s := s) hO5) gal
      have hap : Apart ⟨s, a5, c5, bs⟩ (.slice a3 us.length c3) us := fun qq e => by
        have h1 := (blk_lt (ownL_inT (s := s) hO5) e).1
        refine ⟨fun e' => ?_, fun u hu e' => ?_⟩
        · have := ownT_lt HO3.out.1 qq e'; omega
        · have := (blk_lt (HO3.out.2.1 u hu) e').2; omega
      have hs5 := g5.size
      have hs3 := g3.size
      have HIN := insert_any w2.heap.size (.slice a3 us.length c3) us s a5 c5 bs p w5.heap.size (w5.alloc (.cells #[.string s, .slice a5 bs.length c5] 43)) (ownT_gr HO3.out (g5.trans gal)) (by simp; omega) (inT_lo hI5 (by omega)) hap (heap_alloc_new w5 _) (fun e' => by have := ownT_lt HO3.out.1 _ e'; omega) (by have := HLE.out; omega) (by have := HLE.out; omega)
      have HB3 := owns_block HO3.out.1
      clear hO5 hI5 hap
      go_wp2_with fail
      (with_reducible refine Calls.mono HIN ?_)
      rintro e w6 ⟨⟨v6, rfl, hO6⟩, gr6⟩
      obtain ⟨a6, c6, e6⟩ := own_form hO6
      subst e6
      have G6 : Gr w w6 := Below.grown ((G2.trans (g3.trans g5)).trans gal) gr6 (by simp; omega) (fun k hk => by have := HB3 k hk; omega)
      have HO6 : Hid _ := ownT_lo hO6 (show w.heap.size ≤ _ by omega)
      clear hO6 gr6 HB3
      go_wp2
      go_ret2
      refine ⟨Or.inr (Or.inr ⟨hok, fun h => h24 h.2, _, _, rfl, HO6.out, ?_⟩), G6⟩
      rw [hth]
      exact like_edit HL.out ⟨rfl, fun k hk => by simp at hk; subst hk; exact ⟨rfl, rfl⟩⟩ (by omega)
  · have hpl : p < ts.length := by
      unfold there at hth
      simp at hth
      exact hth.1
    go_wp2_with fail
    (with_reducible refine Calls.mono (HCP.out w2 G2) ?_)
    rintro e w3 ⟨⟨v3, us, rfl, hO3, hL3⟩, g3⟩
    have hl3 := hL3.1
    obtain ⟨g, c3, e3, hg3, hg3l⟩ := own_some hO3 (by omega)
    subst e3
    clear k0 k1
    obtain ⟨k0, k1⟩ := HCO.out _ ((g1.trans g2).trans g3)
    have HO3 : Hid _ := hO3
    have HL : Hid (Like us ts) := hL3
    have hpu : (p : Int) < (us.length : Int) := by omega
    have hp0 : (0 : Int) ≤ (p : Int) := by omega
    have HLE : Hid (us.length = ts.length) := hl3
    clear hO3 hL3 hl3
    have hw3 : w.heap.size < w3.heap.size := by have := g3.size; omega
    go_wp2_with fail
    (with_reducible refine Calls.mono (HC1.out w3 (G2.trans g3)) ?_)
    rintro e w5 ⟨⟨v5, rfl, hO5⟩, g5⟩
    obtain ⟨a5, c5, e5, -⟩ := id hO5
    subst e5
    have hO35 := ownT_gr HO3.out g5
    obtain ⟨-, hroom⟩ := room2_made hO35.1
    obtain ⟨⟨⟨z0, r0⟩, f0⟩, ⟨⟨z1, r1⟩, f1⟩⟩ := hroom p (by omega)
    have hap : ∀ qq, (⟨s, a5, c5, bs⟩ : Tb).blk = some qq → qq ≠ g ∧ ∀ u ∈ us, u.blk ≠ some qq := fun qq e => by
      have h1 := (blk_lt (ownL_inT (s := s) hO5) e).1
      refine ⟨by omega, fun u hu e' => ?_⟩
      have := (blk_lt (HO3.out.2.1 u hu) e').2
      omega
    have hs3 := g3.size
    obtain ⟨hO6, gr6⟩ := ownT_put (p := p) hO35 (inT_lo (ownL_inT (s := s) hO5) (by omega)) hap (by omega)
    have G6 : Hid _ := Below.grown (G2.trans (g3.trans g5)) gr6 (by have := (G2.trans (g3.trans g5)).size; omega) (fun k hk => by cases hk; omega)
    have HO6 : Hid _ := ownT_lo hO6 (show w.heap.size ≤ _ by omega)
    have hel : Hid ((edit us p 1 [(⟨s, a5, c5, bs⟩ : Tb)]).length = us.length) := by show _ = _; unfold edit; simp; omega
    clear hO6 gr6 hO35 hroom hap hO5
    go_wp2
    go_ret2
    refine ⟨Or.inr (Or.inr ⟨hok, fun h => by rw [hth] at h; simp at h, _, _, rfl, HO6.out, ?_⟩), G6.out⟩
    rw [hth]
    exact like_edit HL.out ⟨rfl, fun k hk => by simp at hk; subst hk; exact ⟨rfl, rfl⟩⟩ (by omega)
end Go.Proofs.YtpdcgjkfilohcabGreatDoor

namespace Go.Proofs.YtpdcgjkfilohcabGreatDoor
open Go.RowKit
attribute [local go_sem ↓] Go.wp_at_zero Go.wp_at_succ

/-- The error of a code. -/
def errOf (c : Int) : Value := if c = 0 then .nilIface else .iface 153 (.agg #[.int .i64 c])
/-- What a happening gives. -/
def HapR (x : List Tb × Int) (lo : Nat) (e : Ending) (w' : World) : Prop := ∃ v us, e = .returned (.tuple #[v, errOf x.2]) ∧ OwnT lo w' v us ∧ Like us x.1
theorem meth_true (v : Value) (w : World) : (Go.method 524 156 v "loop.example/lapprobe/impl.happenTo").run Tryz.prog w = .ok (322, v) w := by kernel_rfl
theorem meth_false (v : Value) (w : World) : (Go.method 524 158 v "loop.example/lapprobe/impl.happenTo").run Tryz.prog w = .ok (324, v) w := by kernel_rfl

set_option maxRecDepth 100000 in
set_option maxHeartbeats 1000000 in
theorem happen_true (a : Option Addr) (cap : Nat) (ts : List Tb) (s : ByteArray) (q r tc : Nat) (bs : List Bx) (p : Nat) (w : World) (ha : Tubes w a ts) (hS : Small ts) (hM : Made ts) (hP : skyB ts = true → PlaceIs ts s p) :
    Calls Tryz.prog 54 #[.slice a ts.length cap, .iface 156 (.agg #[.string s])] w fun e w' => HapR (happenR ts true (⟨s, some ⟨q, r, none⟩, tc, bs⟩ : Tb) p) w.heap.size e w' ∧ Gr w w' := by
  have HSK := implSkyOk_any a cap ts w ha hS
  cases hsky : skyB ts
  · rw [hsky] at HSK
    have HV : Hid ((happenR ts true (⟨s, some ⟨q, r, none⟩, tc, bs⟩ : Tb) p) = ([], 1)) := by show (happenR ts true (⟨s, some ⟨q, r, none⟩, tc, bs⟩ : Tb) p) = _; simp [happenR, hsky]
    go_enter Tryz.func54, Tryz.ntmps54
    go_wp2_with (go_at_call 57; refine HSK.mono ?_; rintro e w1 ⟨rfl, g1⟩)
    go_ret2
    exact ⟨⟨_, [], by rw [HV.out]; rfl, ownT_nil _ _, by rw [HV.out]; exact like_refl []⟩, g1⟩
  rw [hsky] at HSK
  obtain ⟨hn, ht, -⟩ := sky_tiny hsky
  have hpl := hP hsky
  have HCP : Hid (∀ w', Gr w w' → Calls Tryz.prog 94 #[.slice a ts.length cap] w' fun e w'' => (∃ v us, e = .returned v ∧ OwnT w'.heap.size w'' v us ∧ Like us ts) ∧ Gr w' w'') := fun w' g => copyOfAll_any a cap ts w' (tubes_gr ha g) hM (by omega) (fun t h => by have := (ht t h).1; omega)
  have mG := meth_true
  have HGO : Hid (∀ w', Gr w w' → Calls Tryz.prog 322 #[.agg #[.string s], .slice a ts.length cap] w' fun e w'' => GoR ts s p w'.heap.size e w'' ∧ Gr w' w'') := fun w' g => going_any a cap ts s p w' (tubes_gr ha g) hM hsky hpl
  go_enter Tryz.func54, Tryz.ntmps54
  go_wp2_with fail
  refine HSK.mono ?_
  rintro e w1 ⟨rfl, g1⟩
  go_wp2_with fail
  refine (HGO.out w1 g1).mono ?_
  rintro e w2 ⟨hR, g2⟩
  rcases hR with ⟨hth, rfl⟩ | ⟨hth, v3, us, rfl, hO3, hL3⟩
  · have HV : Hid ((happenR ts true (⟨s, some ⟨q, r, none⟩, tc, bs⟩ : Tb) p) = (ts, 3)) := by show (happenR ts true (⟨s, some ⟨q, r, none⟩, tc, bs⟩ : Tb) p) = _; simp [happenR, hsky, hth]
    go_wp2_with fail
    (with_reducible refine Calls.mono (HCP.out _ (g1.trans g2)) ?_)
    rintro e w3 ⟨⟨v3, us, rfl, hO3, hL3⟩, g3⟩
    obtain ⟨a3, c3, e3⟩ := own_form hO3
    subst e3
    have HO3 : Hid _ := ownT_lo hO3 (g1.trans g2).size
    clear hO3
    go_wp2
    go_ret2
    exact ⟨⟨_, us, by rw [HV.out]; rfl, HO3.out, by rw [HV.out]; exact hL3⟩, (g1.trans g2).trans g3⟩
  · have HV : Hid ((happenR ts true (⟨s, some ⟨q, r, none⟩, tc, bs⟩ : Tb) p) = (edit ts p 1 [], 0)) := by show (happenR ts true (⟨s, some ⟨q, r, none⟩, tc, bs⟩ : Tb) p) = _; simp [happenR, hsky, hth]
    obtain ⟨a3, c3, e3⟩ := own_form hO3
    subst e3
    have HO3 : Hid _ := ownT_lo hO3 g1.size
    clear hO3
    go_wp2
    go_ret2
    exact ⟨⟨_, us, by rw [HV.out]; rfl, HO3.out, by rw [HV.out]; exact hL3⟩, g1.trans g2⟩

set_option maxRecDepth 100000 in
set_option maxHeartbeats 1000000 in
theorem happen_false (a : Option Addr) (cap : Nat) (ts : List Tb) (s : ByteArray) (q r tc : Nat) (bs : List Bx) (p : Nat) (w : World) (ha : Tubes w a ts) (hS : Small ts) (hM : Made ts) (hs : s.size ≤ maxLen) (hbl : bs.length ≤ 1048576) (hb : Boxes w (some ⟨q, r, none⟩) bs) (hP : skyB ts = true → PlaceIs ts s p) :
    Calls Tryz.prog 54 #[.slice a ts.length cap, .iface 158 (.agg #[.string s, .slice (some ⟨q, r, none⟩) bs.length tc])] w fun e w' => HapR (happenR ts false (⟨s, some ⟨q, r, none⟩, tc, bs⟩ : Tb) p) w.heap.size e w' ∧ Gr w w' := by
  have HSK := implSkyOk_any a cap ts w ha hS
  cases hsky : skyB ts
  · rw [hsky] at HSK
    have HV : Hid ((happenR ts false (⟨s, some ⟨q, r, none⟩, tc, bs⟩ : Tb) p) = ([], 1)) := by show (happenR ts false (⟨s, some ⟨q, r, none⟩, tc, bs⟩ : Tb) p) = _; simp [happenR, hsky]
    go_enter Tryz.func54, Tryz.ntmps54
    go_wp2_with (go_at_call 57; refine HSK.mono ?_; rintro e w1 ⟨rfl, g1⟩)
    go_ret2
    exact ⟨⟨_, [], by rw [HV.out]; rfl, ownT_nil _ _, by rw [HV.out]; exact like_refl []⟩, g1⟩
  rw [hsky] at HSK
  obtain ⟨hn, ht, -⟩ := sky_tiny hsky
  have hpl := hP hsky
  have HCP : Hid (∀ w', Gr w w' → Calls Tryz.prog 94 #[.slice a ts.length cap] w' fun e w'' => (∃ v us, e = .returned v ∧ OwnT w'.heap.size w'' v us ∧ Like us ts) ∧ Gr w' w'') := fun w' g => copyOfAll_any a cap ts w' (tubes_gr ha g) hM (by omega) (fun t h => by have := (ht t h).1; omega)
  have mG := meth_false
  have HCM : Hid (∀ w', Gr w w' → Calls Tryz.prog 324 #[.agg #[.string s, .slice (some ⟨q, r, none⟩) bs.length tc], .slice a ts.length cap] w' fun e w'' => ComeR ts s bs p (⟨s, some ⟨q, r, none⟩, tc, bs⟩ : Tb) w'.heap.size e w'' ∧ Gr w' w'') := fun w' g => coming_any a cap ts s q r tc bs p w' (tubes_gr ha g) hM hsky hpl hs hbl (boxes_gr hb g)
  go_enter Tryz.func54, Tryz.ntmps54
  go_wp2_with fail
  refine HSK.mono ?_
  rintro e w1 ⟨rfl, g1⟩
  go_wp2_with fail
  refine (HCM.out w1 g1).mono ?_
  rintro e w2 ⟨hR, g2⟩
  rcases hR with ⟨hok, rfl⟩ | ⟨hok, hth, rfl⟩ | ⟨hok, hth, v3, us, rfl, hO3, hL3⟩
  · have HV : Hid ((happenR ts false (⟨s, some ⟨q, r, none⟩, tc, bs⟩ : Tb) p) = (ts, 2)) := by show (happenR ts false (⟨s, some ⟨q, r, none⟩, tc, bs⟩ : Tb) p) = _; simp [happenR, hsky, hok]
    go_wp2_with fail
    (with_reducible refine Calls.mono (HCP.out _ (g1.trans g2)) ?_)
    rintro e w3 ⟨⟨v3, us, rfl, hO3, hL3⟩, g3⟩
    obtain ⟨a3, c3, e3⟩ := own_form hO3
    subst e3
    have HO3 : Hid _ := ownT_lo hO3 (g1.trans g2).size
    clear hO3
    go_wp2
    go_ret2
    exact ⟨⟨_, us, by rw [HV.out]; rfl, HO3.out, by rw [HV.out]; exact hL3⟩, (g1.trans g2).trans g3⟩
  · have HV : Hid ((happenR ts false (⟨s, some ⟨q, r, none⟩, tc, bs⟩ : Tb) p) = (ts, 4)) := by show (happenR ts false (⟨s, some ⟨q, r, none⟩, tc, bs⟩ : Tb) p) = _; simp [happenR, hsky, hok, hth.1, hth.2]
    go_wp2_with fail
    (with_reducible refine Calls.mono (HCP.out _ (g1.trans g2)) ?_)
    rintro e w3 ⟨⟨v3, us, rfl, hO3, hL3⟩, g3⟩
    obtain ⟨a3, c3, e3⟩ := own_form hO3
    subst e3
    have HO3 : Hid _ := ownT_lo hO3 (g1.trans g2).size
    clear hO3
    go_wp2
    go_ret2
    exact ⟨⟨_, us, by rw [HV.out]; rfl, HO3.out, by rw [HV.out]; exact hL3⟩, (g1.trans g2).trans g3⟩
  · have HV : Hid ((happenR ts false (⟨s, some ⟨q, r, none⟩, tc, bs⟩ : Tb) p) = (edit ts p (if there ts s p then 1 else 0) [(⟨s, some ⟨q, r, none⟩, tc, bs⟩ : Tb)], 0)) := by
      show (happenR ts false (⟨s, some ⟨q, r, none⟩, tc, bs⟩ : Tb) p) = _
      unfold happenR
      rw [if_neg (by rw [hsky]; simp), if_neg (by rw [hok]; simp), if_neg (by simp), if_neg (by simpa using hth)]
      rfl
    obtain ⟨a3, c3, e3⟩ := own_form hO3
    subst e3
    have HO3 : Hid _ := ownT_lo hO3 g1.size
    clear hO3
    go_wp2
    go_ret2
    exact ⟨⟨_, us, by rw [HV.out]; rfl, HO3.out, by rw [HV.out]; exact hL3⟩, g1.trans g2⟩

theorem codeOf_any (c : Int) (w : World) (hg : w.cell? ⟨0, 0, none⟩ = some (.iface 242 (.agg #[.pointer (some ⟨9, 86, none⟩)]))) (h0 : 0 < w.heap.size) : Calls Tryz.prog 56 #[errOf c] w fun e w' => e = .returned (.int .i64 c) ∧ Gr w w' := by
  unfold errOf
  by_cases hc : c = 0
  · subst hc
    rw [if_pos rfl]
    exact codeOf_nil w
  · rw [if_neg hc]
    exact codeOf_hit c w hg h0
theorem happeningOf_true (s : ByteArray) (v : Value) (hv : ∃ a n c, v = .slice a n c) (w : World) : Calls Tryz.prog 55 #[.agg #[.bool true, .string s, v]] w fun e w' => e = .returned (.iface 156 (.agg #[.string s])) ∧ Gr w w' := by
  obtain ⟨a, n, c, rfl⟩ := hv
  go_enter Tryz.func55, Tryz.ntmps55
  go_wp2
  go_ret
  exact ⟨rfl, (Gr.refl _).alloc _⟩
theorem happeningOf_false (s : ByteArray) (v : Value) (hv : ∃ a n c, v = .slice a n c) (w : World) : Calls Tryz.prog 55 #[.agg #[.bool false, .string s, v]] w fun e w' => e = .returned (.iface 158 (.agg #[.string s, v])) ∧ Gr w w' := by
  obtain ⟨a, n, c, rfl⟩ := hv
  go_enter Tryz.func55, Tryz.ntmps55
  go_wp2
  go_ret
  exact ⟨rfl, (Gr.refl _).alloc _⟩

set_option maxRecDepth 100000 in
set_option maxHeartbeats 1000000 in
theorem implHappen_any (drop : Bool) (a : Option Addr) (cap : Nat) (ts : List Tb) (s : ByteArray) (q r tc : Nat) (bs : List Bx) (p : Nat) (w : World) (ha : Tubes w a ts) (hS : Small ts) (hM : Made ts) (hs : s.size ≤ maxLen) (hbl : bs.length ≤ 1048576) (hb : Boxes w (some ⟨q, r, none⟩) bs) (hP : skyB ts = true → PlaceIs ts s p) (hg : w.cell? ⟨0, 0, none⟩ = some (.iface 242 (.agg #[.pointer (some ⟨9, 86, none⟩)]))) (h0 : 0 < w.heap.size) :
    Calls Tryz.prog 28 #[.slice a ts.length cap, .agg #[.bool drop, .string s, .slice (some ⟨q, r, none⟩) bs.length tc]] w fun e w' => (∃ v us, e = .returned (.tuple #[v, .int .i64 (happenR ts drop (⟨s, some ⟨q, r, none⟩, tc, bs⟩ : Tb) p).2]) ∧ OwnT w.heap.size w' v us ∧ Like us (happenR ts drop (⟨s, some ⟨q, r, none⟩, tc, bs⟩ : Tb) p).1) ∧ Gr w w' := by
  have HHP : Hid (∀ w', Gr w w' → Calls Tryz.prog 54 #[.slice a ts.length cap, (if drop then .iface 156 (.agg #[.string s]) else .iface 158 (.agg #[.string s, .slice (some ⟨q, r, none⟩) bs.length tc]))] w' fun e w'' => HapR (happenR ts drop (⟨s, some ⟨q, r, none⟩, tc, bs⟩ : Tb) p) w'.heap.size e w'' ∧ Gr w' w'') := fun w' g => by
    cases drop
    · exact happen_false a cap ts s q r tc bs p w' (tubes_gr ha g) hS hM hs hbl (boxes_gr hb g) hP
    · exact happen_true a cap ts s q r tc bs p w' (tubes_gr ha g) hS hM hP
  have HOF : Hid (∀ w', Calls Tryz.prog 55 #[.agg #[.bool drop, .string s, .slice (some ⟨q, r, none⟩) bs.length tc]] w' fun e w'' => e = .returned (if drop then .iface 156 (.agg #[.string s]) else .iface 158 (.agg #[.string s, .slice (some ⟨q, r, none⟩) bs.length tc])) ∧ Gr w' w'') := fun w' => by
    cases drop
    · exact happeningOf_false s _ ⟨_, _, _, rfl⟩ w'
    · exact happeningOf_true s _ ⟨_, _, _, rfl⟩ w'
  generalize (happenR ts drop (⟨s, some ⟨q, r, none⟩, tc, bs⟩ : Tb) p) = x at *
  obtain ⟨res, code⟩ := x
  have HCO : Hid (∀ w', Gr w w' → Calls Tryz.prog 56 #[errOf code] w' fun e w'' => e = .returned (.int .i64 code) ∧ Gr w' w'') := fun w' g => codeOf_any code w' ((g.cells.1 _ _ h0).trans hg) (Nat.lt_of_lt_of_le h0 g.size)
  generalize (if drop then Value.iface 156 (.agg #[.string s]) else Value.iface 158 (.agg #[.string s, .slice (some ⟨q, r, none⟩) bs.length tc])) = ev at *
  clear hg
  go_enter Tryz.func28, Tryz.ntmps28
  go_wp2_with fail
  (with_reducible refine Calls.mono (HOF.out _) ?_)
  rintro e w1 ⟨rfl, g1⟩
  have G1 := ((Gr.refl w).alloc (.cells #[.bool drop, .string s, .slice (some ⟨q, r, none⟩) bs.length tc] 45)).trans g1
  go_wp2_with fail
  (with_reducible refine Calls.mono (HHP.out w1 G1) ?_)
  rintro e w2 ⟨⟨v, us, rfl, hO, hL⟩, g2⟩
  obtain ⟨a3, c3, e3⟩ := own_form hO
  subst e3
  have HO : Hid _ := ownT_lo hO G1.size
  have HL : Hid _ := hL
  clear hO hL
  dsimp only
  generalize errOf code = er at *
  go_wp2_with fail
  (with_reducible refine Calls.mono (HCO.out w2 (G1.trans g2)) ?_)
  rintro e w3 ⟨rfl, g3⟩
  go_wp2
  go_ret2
  exact ⟨⟨_, us, rfl, ownT_gr HO.out g3, HL.out⟩, (G1.trans g2).trans g3⟩
end Go.Proofs.YtpdcgjkfilohcabGreatDoor
