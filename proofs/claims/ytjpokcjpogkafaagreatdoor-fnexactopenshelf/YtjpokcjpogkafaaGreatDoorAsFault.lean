/- errors.As at the program's own error type, walked in Go's own text. -/
import Derived.Test.YtjpokcjpogkafaaGreatDoorAsFacts
namespace Go.Proofs.YtjpokcjpogkafaaGreatDoor
open Go.RowKit Go.Extern.Stop Go.Stop Go.Extern
set_option linter.unusedVariables false

set_option maxHeartbeats 4000000 in
set_option maxRecDepth 100000 in
theorem asIn_hit (c : Int) (t a : Addr) (old : Value) (w : World) (ha : w.cell? a = some (.pointer (some t))) (ht0 : w.cell? t = some old) (hf0 : w.frozen? t = false) :
    Calls Tryz.prog 173 #[.iface 164 (.agg #[.int .i64 c]), .iface 175 (.pointer (some t)), .agg #[.pointer (some ⟨5, 175, none⟩), .pointer (some a), .int .u64 150], .iface 272 (.agg #[.pointer (some ⟨5, 164, none⟩)])] w fun ev w' => ev = .returned (.bool true) ∧
      w' = ((w.alloc (.cells #[.pointer (some ⟨5, 175, none⟩), .pointer (some a), .int .u64 150] 231)).alloc (.cells #[.int .i64 c] 164)).setCell t (.int .i64 c) := by
  have h170 := @run_callFunc_extern Tryz.prog 170 _ (fun args => ReflectliteValue.unpack (args.getD 0 (.tuple #[]))) Tryz.func170 (by kernel_rfl) (by kernel_rfl) (by kernel_rfl) (by kernel_rfl)
  have h208 := @run_callFunc_extern Tryz.prog 208 _ ReflectliteType.typeOf Tryz.func208 (by kernel_rfl) (by kernel_rfl) (by kernel_rfl) (by kernel_rfl)
  have h303 := @run_callFunc_extern Tryz.prog 303 _ (ReflectliteType.relation "AssignableTo" ReflectliteType.assignableTo) Tryz.func303 (by kernel_rfl) (by kernel_rfl) (by kernel_rfl) (by kernel_rfl)
  have h209 := @run_callFunc_extern Tryz.prog 209 _ (ReflectliteValue.method (ReflectliteValue.valueError "reflectlite.Value.Elem" 0) ReflectliteValue.elem) Tryz.func209 (by kernel_rfl) (by kernel_rfl) (by kernel_rfl) (by kernel_rfl)
  have h210 := @run_callFunc_extern Tryz.prog 210 _ ReflectliteValue.set Tryz.func210 (by kernel_rfl) (by kernel_rfl) (by kernel_rfl) (by kernel_rfl)
  have tO := rl_typeOf164
  have mA := rl_methodAssignableTo
  have a25 := rl_assignable164
  have v25 := rl_valueOf164
  have hal : a.block < w.heap.size := World.block_lt_of_cell? w _ ha
  have htl : t.block < w.heap.size := World.block_lt_of_cell? w _ ht0
  have el := rl_elemV175 a t (w.alloc (.cells #[.pointer (some ⟨5, 175, none⟩), .pointer (some a), .int .u64 150] 231)) (by rw [World.cell?_alloc_lt _ _ a hal]; exact ha)
  have st := rl_set164 t ⟨w.heap.size + 1, 0, none⟩ c old ((w.alloc (.cells #[.pointer (some ⟨5, 175, none⟩), .pointer (some a), .int .u64 150] 231)).alloc (.cells #[.int .i64 c] 164))
    (by rw [World.cell?_alloc_at _ _ _ _ (by simp)]; rfl)
    (by rw [World.cell?_alloc_lt _ _ t (by simp; omega), World.cell?_alloc_lt _ _ t htl]; exact ht0)
    (by rw [World.frozen?_alloc_old _ _ t (by simp; omega), World.frozen?_alloc_old _ _ t (Nat.ne_of_lt htl)]; exact hf0)
  clear hal htl
  go_enter Tryz.func173, Tryz.ntmps173
  go_wp2
  refine wp_loop_rounds 1 ?_
  rw [rounds_succ]
  go_wp2
  go_ret
  exact ⟨rfl, rfl⟩
set_option maxHeartbeats 4000000 in
set_option maxRecDepth 100000 in
theorem as_hit (c : Int) (t : Addr) (old : Value) (w : World) (hg : w.cell? ⟨0, 0, none⟩ = some (.iface 272 (.agg #[.pointer (some ⟨5, 95, none⟩)]))) (ht0 : w.cell? t = some old) (hf0 : w.frozen? t = false) :
    Calls Tryz.prog 110 #[.iface 164 (.agg #[.int .i64 c]), .iface 175 (.pointer (some t))] w fun ev w' => ev = .returned (.bool true) ∧ ∃ o1 o2 o3 o4, w' = ((((w.alloc o1).alloc o2).alloc o3).alloc o4).setCell t (.int .i64 c) := by
  have h170 := @run_callFunc_extern Tryz.prog 170 _ (fun args => ReflectliteValue.unpack (args.getD 0 (.tuple #[]))) Tryz.func170 (by kernel_rfl) (by kernel_rfl) (by kernel_rfl) (by kernel_rfl)
  have h171 := @run_callFunc_extern Tryz.prog 171 _ (ReflectliteValue.methodAny (ReflectliteValue.valueError "reflectlite.Value.Type" 0) (fun t _ _ _ => ReflectliteType.toType t)) Tryz.func171 (by kernel_rfl) (by kernel_rfl) (by kernel_rfl) (by kernel_rfl)
  have h172 := @run_callFunc_extern Tryz.prog 172 _ (ReflectliteValue.method (ReflectliteValue.valueError "reflectlite.Value.IsNil" 0) ReflectliteValue.isNil) Tryz.func172 (by kernel_rfl) (by kernel_rfl) (by kernel_rfl) (by kernel_rfl)
  have h295 := @run_callFunc_extern Tryz.prog 295 _ (ReflectliteType.abiMethod fun t => do pure (.int .u8 (← Rtype.kind t))) Tryz.func295 (by kernel_rfl) (by kernel_rfl) (by kernel_rfl) (by kernel_rfl)
  have h305 := @run_callFunc_extern Tryz.prog 305 _ (ReflectliteType.method ReflectliteType.elem) Tryz.func305 (by kernel_rfl) (by kernel_rfl) (by kernel_rfl) (by kernel_rfl)
  have h306 := @run_callFunc_extern Tryz.prog 306 _ (ReflectliteType.relation "Implements" ReflectliteType.implements_) Tryz.func306 (by kernel_rfl) (by kernel_rfl) (by kernel_rfl) (by kernel_rfl)
  have f6 := rl_valueOf175
  have f7 := rl_type175
  have mK := rl_methodKind
  have mE := rl_methodElem
  have mI := rl_methodImplements
  have k27 := rl_kind175
  have k25 := rl_kind164
  have e27 := rl_elem175
  have i25 := rl_implements164
  have hlt : 0 < w.heap.size := World.block_lt_of_cell? w _ hg
  have htl : t.block < w.heap.size := World.block_lt_of_cell? w _ ht0
  have n8 := rl_isNil175 ⟨w.heap.size, 0, none⟩ t ((w.alloc (.cells #[.pointer (some t)] 175)).alloc (.cells #[.pointer (some ⟨5, 175, none⟩), .pointer (some ⟨w.heap.size, 0, none⟩), .int .u64 150] 231)) (by simp)
  have hg2 : ((w.alloc (.cells #[.pointer (some t)] 175)).alloc (.cells #[.pointer (some ⟨5, 175, none⟩), .pointer (some ⟨w.heap.size, 0, none⟩), .int .u64 150] 231)).cell? ⟨0, 0, none⟩ = some (.iface 272 (.agg #[.pointer (some ⟨5, 95, none⟩)])) := by
    rw [World.cell?_alloc_lt _ _ ⟨0, 0, none⟩ (by simp), World.cell?_alloc_lt _ _ ⟨0, 0, none⟩ hlt]; exact hg
  have HIN : Hid (Calls Tryz.prog 173 #[.iface 164 (.agg #[.int .i64 c]), .iface 175 (.pointer (some t)), .agg #[.pointer (some ⟨5, 175, none⟩), .pointer (some ⟨w.heap.size, 0, none⟩), .int .u64 150], .iface 272 (.agg #[.pointer (some ⟨5, 164, none⟩)])] ((w.alloc (.cells #[.pointer (some t)] 175)).alloc (.cells #[.pointer (some ⟨5, 175, none⟩), .pointer (some ⟨w.heap.size, 0, none⟩), .int .u64 150] 231)) fun ev w' => ev = .returned (.bool true) ∧ w' = ((((w.alloc (.cells #[.pointer (some t)] 175)).alloc (.cells #[.pointer (some ⟨5, 175, none⟩), .pointer (some ⟨w.heap.size, 0, none⟩), .int .u64 150] 231)).alloc (.cells #[.pointer (some ⟨5, 175, none⟩), .pointer (some ⟨w.heap.size, 0, none⟩), .int .u64 150] 231)).alloc (.cells #[.int .i64 c] 164)).setCell t (.int .i64 c)) :=
    asIn_hit c t ⟨w.heap.size, 0, none⟩ old _ (by simp) (by rw [World.cell?_alloc_lt _ _ t (by simp; omega), World.cell?_alloc_lt _ _ t htl]; exact ht0) (by rw [World.frozen?_alloc_old _ _ t (by simp; omega), World.frozen?_alloc_old _ _ t (Nat.ne_of_lt htl)]; exact hf0)
  clear hlt htl
  go_enter Tryz.func110, Tryz.ntmps110
  go_wp2_with (go_at_call 173; refine Calls.mono HIN.out ?_; rintro en w9 ⟨rfl, h9⟩)
  go_ret
  exact ⟨rfl, _, _, _, _, rfl⟩
def ErrT (w : World) : Prop := w.cell? ⟨0, 0, none⟩ = some (.iface 272 (.agg #[.pointer (some ⟨5, 95, none⟩)]))
theorem ErrT.below {w w' : World} (h : ErrT w) (hb : Below w.heap.size w w') : ErrT w' := (hb.cell (p := ⟨0, 0, none⟩) (World.block_lt_of_cell? w _ h)).trans h
set_option maxHeartbeats 1000000 in
theorem codeOf_nil (w : World) : Calls Tryz.prog 47 #[.nilIface] w fun ev w' => ev = .returned (.int .i64 0) ∧ Below w.heap.size w w' := by
  go_enter Tryz.func47, Tryz.ntmps47
  go_wp2_with (go_at_call 110; refine Calls.mono (as_nil _ _) ?_; rintro en w9 ⟨rfl, h9⟩; subst h9)
  go_ret
  exact ⟨rfl, (Below.refl _ _).alloc (Nat.le_refl _) _⟩
set_option maxHeartbeats 1000000 in
theorem codeOf_fault (c : Int) (w : World) (hE : ErrT w) : Calls Tryz.prog 47 #[.iface 164 (.agg #[.int .i64 c])] w fun ev w' => ev = .returned (.int .i64 c) ∧ Below w.heap.size w w' := by
  have r1 := heap_alloc_new w (Obj.cells #[Value.int .i64 0] 164)
  have hA : Hid (Calls Tryz.prog 110 #[.iface 164 (.agg #[.int .i64 c]), .iface 175 (.pointer (some ⟨w.heap.size, 0, none⟩))] (w.alloc (Obj.cells #[Value.int .i64 0] 164)) fun ev w' => ev = .returned (.bool true) ∧ ∃ o1 o2 o3 o4, w' = (((((w.alloc (Obj.cells #[Value.int .i64 0] 164)).alloc o1).alloc o2).alloc o3).alloc o4).setCell ⟨w.heap.size, 0, none⟩ (.int .i64 c)) :=
    as_hit c ⟨w.heap.size, 0, none⟩ (.int .i64 0) _ (hE.below ((Below.refl _ _).alloc (Nat.le_refl _) _)) (cell_of_row _ _ 0 _ _ _ r1) (frozen_of_row _ _ 0 _ _ r1)
  clear r1
  go_enter Tryz.func47, Tryz.ntmps47
  go_wp2_with fail
  refine Calls.mono hA.out ?_
  rintro en w9 ⟨rfl, o1, o2, o3, o4, h9⟩
  have hb4 : Below w.heap.size w ((((w.alloc (Obj.cells #[Value.int .i64 0] 164)).alloc o1).alloc o2).alloc o3 |>.alloc o4) := (((((Below.refl _ _).alloc (Nat.le_refl _) _).alloc (by simp) _).alloc (by simp; omega) _).alloc (by simp; omega) _).alloc (by simp; omega) _
  have hB : Below w.heap.size w w9 := by rw [h9]; exact hb4.setCell (Nat.le_refl _) _
  have hc : w9.cell? ⟨w.heap.size, 0, none⟩ = some (.int .i64 c) := by
    have r2 : ((((w.alloc (Obj.cells #[Value.int .i64 0] 164)).alloc o1).alloc o2).alloc o3 |>.alloc o4).heap[w.heap.size]? = some (.cells #[Value.int .i64 0] 164 (0, 0)) := by
      rw [Below.heap_alloc _ _ _ (by simp; omega), Below.heap_alloc _ _ _ (by simp; omega), Below.heap_alloc _ _ _ (by simp; omega), Below.heap_alloc _ _ _ (by simp)]
      exact heap_alloc_new w _
    rw [h9]
    exact cell_of_row _ _ 0 _ _ _ (heap_setCell_same _ _ 0 _ _ (.int .i64 c) r2)
  clear h9 hb4
  go_wp2
  go_ret
  exact ⟨rfl, hB⟩
end Go.Proofs.YtjpokcjpogkafaaGreatDoor
