/- A map of files in memory, read as an ascending list. -/
import Derived.Test.YthcfnofhdbjemaaGreatDoorMathTab
import Derived.Maps.RangeWalk
import Derived.Sort.KeysCollected
namespace Go.Proofs.YthcfnofhdbjemaaGreatDoor
open Go.RowKit Go.Maps

def fdat (n t : ByteArray) : DataW Unit := .agg [.lit (.string (Disks.key n)), .lit (.string (Disks.key t))]
theorem fdat_inj {n t n' t' : ByteArray} (h : fdat n t = fdat n' t') : n = n' ∧ t = t' := by
  unfold fdat at h
  simp only [DataW.agg.injEq, List.cons.injEq, DataW.lit.injEq, Lit.string.injEq, and_true] at h
  exact ⟨Disks.key_inj h.1, Disks.key_inj h.2⟩
def fileOf : List Value → Option (DataW Unit × List MemPlace)
  | [.string n, .string t] => some (fdat n t, [])
  | _ => none
/-- How a file in a map reads. -/
def fileElem : Value → Option (DataW Unit × List MemPlace)
  | .agg cs => fileOf cs.toList
  | _ => none
theorem fileElem_mk (n t : ByteArray) : fileElem (.agg #[.string n, .string t]) = some (fdat n t, []) := rfl
theorem fileOf_inv {l : List Value} {z : DataW Unit × List MemPlace} (h : fileOf l = some z) : ∃ n t, l = [.string n, .string t] ∧ z = (fdat n t, []) := by
  unfold fileOf at h
  split at h
  · cases h; exact ⟨_, _, rfl, rfl⟩
  · cases h
theorem fileElem_inv {v : Value} {z : DataW Unit × List MemPlace} (h : fileElem v = some z) : ∃ n t, v = .agg #[.string n, .string t] ∧ z = (fdat n t, []) := by
  cases v <;> simp only [fileElem, reduceCtorEq] at h
  rename_i cs
  obtain ⟨n, t, h1, h2⟩ := fileOf_inv h
  exact ⟨n, t, by rw [← Array.toArray_toList (xs := cs), h1], h2⟩
structure TabIs (l : List FileL) (D : DataW Unit) : Prop where
  has : ∀ n : ByteArray, Maps.has D (.string (Disks.key n)) = l.any (Disks.nameIs n)
  elem : ∀ f ∈ l, ∀ z, D.atKey (.string (Disks.key f.1)) z = fdat f.1 f.2
theorem tab_nil : TabIs [] (.map []) := ⟨fun _ => rfl, fun _ hf => (List.not_mem_nil hf).elim⟩
theorem key_ne {a b : ByteArray} (h : a ≠ b) : (Lit.string (Disks.key a)) ≠ .string (Disks.key b) := fun e => h (Disks.key_inj (by simpa using e))
theorem tab_put {l : List FileL} {D : DataW Unit} (h : TabIs l D) (hD : IsMap D) (f : FileL) : TabIs (Disks.put l f) (D.put (.string (Disks.key f.1)) (fdat f.1 f.2)) := by
  refine ⟨fun n => ?_, fun e he z => ?_⟩
  · by_cases hn : n = f.1
    · rw [hn, has_put_same hD (show WideAt.IsKeyLit (.string _) from trivial)]
      symm
      rw [Disks.any_name]
      exact ⟨f, Disks.put_mem_iff.2 (Or.inl rfl), rfl⟩
    · rw [has_put_other (key_ne hn), h.has, Bool.eq_iff_iff, Disks.any_name, Disks.any_name]
      constructor
      · rintro ⟨e, he, q⟩; exact ⟨e, Disks.put_mem_iff.2 (Or.inr ⟨he, by rw [q]; exact hn⟩), q⟩
      · rintro ⟨e, he, q⟩
        rcases Disks.put_mem_iff.1 he with rfl | ⟨he, _⟩
        · exact absurd q.symm hn
        · exact ⟨e, he, q⟩
  · rcases Disks.put_mem_iff.1 he with rfl | ⟨he, hne⟩
    · exact atKey_put_same hD (show WideAt.IsKeyLit (.string _) from trivial) _ _
    · rw [atKey_put_other (key_ne hne)]; exact h.elem e he z
theorem tab_del {l : List FileL} {D : DataW Unit} (h : TabIs l D) (n : ByteArray) : TabIs (Disks.drop l n) (D.del (.string (Disks.key n))) := by
  refine ⟨fun m => ?_, fun e he z => ?_⟩
  · by_cases hn : m = n
    · rw [hn, has_del_same]
      symm
      rw [← Bool.not_eq_true, Disks.any_name]
      rintro ⟨f, hf, q⟩
      exact (Disks.drop_mem_iff.1 hf).2 q
    · rw [has_del_other (key_ne hn), h.has, Disks.drop_any hn]
  · obtain ⟨he, hne⟩ := Disks.drop_mem_iff.1 he
    rw [atKey_del_other (key_ne hne)]; exact h.elem e he z
theorem own_tight {w : World} {k : TypeId} {R : Value → Option (DataW Unit × List MemPlace)} {b n : Nat} {D : DataW Unit} (h : w.ownsMap Tryz.prog k R b n D) : w.ownsMap Tryz.prog k R b (Maps.size D) D := by
  obtain ⟨es, clock, hb, F, hs, rfl⟩ := h
  exact ⟨es, clock, hb, F, by simp [Maps.size, length_sorted], rfl⟩
theorem strK : Keyed Tryz.prog 9 := string_keyed Tryz.underlying9
/-- Block b is a map of just these files, by their names. -/
def Table (w : World) (b : Nat) (l : List FileL) : Prop := ∃ D, w.ownsMap Tryz.prog 9 fileElem b (Maps.size D) D ∧ TabIs l D
theorem Table.lt {w : World} {b : Nat} {l : List FileL} (h : Table w b l) : b < w.heap.size := by obtain ⟨D, h, _⟩ := h; exact h.lt
theorem Table.kept {w w' : World} {b : Nat} {l : List FileL} {row : Option Nat} (h : Table w b l) (hg : w.grownBy w' row) (hne : some b ≠ row) : Table w' b l := by
  obtain ⟨D, h1, h2⟩ := h; exact ⟨D, h1.kept hg hne, h2⟩
theorem Table.below {w w' : World} {b : Nat} {l : List FileL} (h : Table w b l) (hb : Below w.heap.size w w') : Table w' b l :=
  h.kept (row := none) ⟨hb.os, hb.tape, hb.output, hb.size, fun k hk _ => hb.block k hk⟩ (by simp)
theorem Table.alloc {w : World} {b : Nat} {l : List FileL} (h : Table w b l) (o : Obj) : Table (w.alloc o) b l := by
  obtain ⟨D, h1, h2⟩ := h; exact ⟨D, h1.alloc o, h2⟩
theorem tab_keys {w : World} {b n : Nat} {l : List FileL} {D : DataW Unit} (ha : Disks.asc l) (h1 : w.ownsMap Tryz.prog 9 fileElem b n D) (h2 : TabIs l D) : (l.map fun f => Disks.key f.1).Perm (strKeys D) := by
  obtain ⟨es, hD, hpw, _⟩ := h1.entries strK
  obtain ⟨es', hD', hko⟩ := h1.keysOf
  obtain rfl : es = es' := by rw [hD] at hD'; simpa using hD'
  subst hD
  refine perm_strKeys hpw (fun p hp => by obtain ⟨v, hv⟩ := hko p hp; obtain ⟨x, _, hx, _⟩ := Maps.keyOf_str Tryz.underlying9 hv; exact ⟨x, hx⟩) (Disks.asc_keys ha) (fun x => ?_)
  have e := h2.has ⟨x.toArray⟩
  have ek : Disks.key ⟨x.toArray⟩ = x := by simp [Disks.key]
  rw [ek] at e
  rw [e, Disks.any_name, List.mem_map]
  exact ⟨fun ⟨f, hf, q⟩ => ⟨f, hf, by rw [← q] at ek; exact Disks.key_inj (by rw [ek, q])⟩, fun ⟨f, hf, q⟩ => ⟨f, hf, by rw [q, ek]⟩⟩
theorem tab_size {w : World} {b n : Nat} {l : List FileL} {D : DataW Unit} (ha : Disks.asc l) (h1 : w.ownsMap Tryz.prog 9 fileElem b n D) (h2 : TabIs l D) : Maps.size D = l.length := by
  have := (tab_keys ha h1 h2).length_eq
  obtain ⟨es, hD, _⟩ := h1.entries strK
  subst hD
  simpa [strKeys, Maps.size] using this.symm
theorem tab_look {l : List FileL} {D : DataW Unit} (h : TabIs l D) (n : ByteArray) : Maps.has D (.string (Disks.key n)) = (Disks.look l n).2 ∧ D.atKey (.string (Disks.key n)) (fdat ⟨#[]⟩ ⟨#[]⟩) = fdat (Disks.look l n).1.1 (Disks.look l n).1.2 := by
  refine ⟨by rw [h.has, Disks.look_any], ?_⟩
  cases e : (Disks.look l n).2
  · rw [Disks.look_none e]
    exact atKey_of_not_has (by rw [h.has, ← Disks.look_any, e]) _
  · obtain ⟨h1, h2⟩ := Disks.look_some e
    have := h.elem _ h1 (fdat ⟨#[]⟩ ⟨#[]⟩)
    rw [h2] at this
    rw [this, h2]
set_option maxRecDepth 100000 in
theorem zero68 (w : World) : (zeroValue 41).run Tryz.prog w = .ok (.agg #[.string ⟨#[]⟩, .string ⟨#[]⟩]) w := by kernel_rfl
theorem keyS {n : ByteArray} (h : n.size ≤ maxLen) : keyOf Tryz.prog 9 (.string n) = some (.string (Disks.key n)) := WideMaps.keyOf_string_mk Tryz.underlying9 h
section
variable {ops : Array Oper} {rest : List Oper} {o : Oper} {a : Act} {Q : Exit → Act → World → Prop}
/-- 'f, there := t[n]' -/
theorem wpList_look_tab (w : World) (hg : o.guard = none) (m x : Operand) (hop : o.op = Op.lookup 55 m x true) (b : Nat) (l : List FileL) (n : ByteArray) (hn : n.size ≤ maxLen) (hT : Table w b l) (A T : ByteArray) (B : Bool) (hl : Disks.look l n = ((A, T), B)) (hm : a.eval m = .map (some b)) (hx : a.eval x = .string n)
    (hK : wpList Tryz.prog ops Q rest (a.put o.dst (.tuple #[.agg #[.string A, .string T], .bool B])) w) : wpList Tryz.prog ops Q (o :: rest) a w := by
  obtain ⟨D, hown, ht⟩ := hT
  obtain ⟨e1, e2⟩ := tab_look ht n
  rw [hl] at e1 e2
  simp only at e1 e2
  refine wpList_lookup_own_ok w hg m x 55 hop 9 41 strK Tryz.underlying55 fileElem (zero68 w) (fdat ⟨#[]⟩ ⟨#[]⟩) [] (fileElem_mk _ _) b (Maps.size D) D hm hown (.string n) (.string (Disks.key n)) hx (keyS hn) fun v ps hv => ?_
  obtain ⟨n', t', rfl, hv2⟩ := fileElem_inv hv
  rw [e2] at hv2
  obtain ⟨q1, q2⟩ := fdat_inj (congrArg Prod.fst hv2)
  rw [e1, ← q1, ← q2]
  exact hK
/-- 't[n]' -/
theorem wpList_get_tab (w : World) (hg : o.guard = none) (m x : Operand) (hop : o.op = Op.lookup 55 m x false) (b : Nat) (l : List FileL) (n : ByteArray) (hn : n.size ≤ maxLen) (hT : Table w b l) (A T : ByteArray) (B : Bool) (hl : Disks.look l n = ((A, T), B)) (hm : a.eval m = .map (some b)) (hx : a.eval x = .string n)
    (hK : wpList Tryz.prog ops Q rest (a.put o.dst (.agg #[.string A, .string T])) w) : wpList Tryz.prog ops Q (o :: rest) a w := by
  obtain ⟨D, hown, ht⟩ := hT
  obtain ⟨_, e2⟩ := tab_look ht n
  rw [hl] at e2
  simp only at e2
  refine wpList_plain hg fun K' hK' => ?_
  obtain ⟨v, ps, hrun, hv⟩ := hown.lookup strK Tryz.underlying55 (zero68 w) (fileElem_mk _ _) (keyS hn)
  obtain ⟨n', t', rfl, hv2⟩ := fileElem_inv hv
  rw [e2] at hv2
  obtain ⟨q1, q2⟩ := fdat_inj (congrArg Prod.fst hv2)
  rw [← q1, ← q2] at hrun
  unfold Oper.wp
  simp [execOp, hop, hm, hx, hrun, Result.andThen]
  exact hK' _ _ hK
/-- 't[n] = f' -/
theorem wpList_put_tab (w : World) (hg : o.guard = none) (m x v : Operand) (hop : o.op = Op.mapUpdate 55 m x v) (b : Nat) (l : List FileL) (ha : Disks.asc l) (hl : l.length ≤ 1000) (n t : ByteArray) (hn : n.size ≤ maxLen) (hT : Table w b l) (hm : a.eval m = .map (some b)) (hx : a.eval x = .string n)
    (hv : a.eval v = .agg #[.string n, .string t])
    (hK : ∀ w', Table w' b (Disks.put l (n, t)) → w.grownBy w' (some b) → w'.heap.size = w.heap.size → wpList Tryz.prog ops Q rest (a.put o.dst undef) w') : wpList Tryz.prog ops Q (o :: rest) a w := by
  obtain ⟨D, hown, ht⟩ := hT
  have hs := tab_size ha hown ht
  refine wpList_mapUpdate_in w hg m x v 55 hop 9 41 strK Tryz.underlying55 fileElem b (Maps.size D) D hm hown (by rw [hs]; unfold maxLen; omega) (.string n) (.agg #[.string n, .string t]) (.string (Disks.key n)) hx hv (keyS hn) (fdat n t) [] (fileElem_mk _ _) fun w' h1 h2 => ?_
  refine hK w' ⟨_, own_tight h1, tab_put ht hown.isMap (n, t)⟩ h2.grown ?_
  obtain ⟨_, _, _, _, _, rfl⟩ := h2
  simp [ChangeMaps.setBlock]
/-- 'delete(t, n)' -/
theorem wpList_del_tab (w : World) (hg : o.guard = none) (m x : Operand) (hop : o.op = Op.call { callee := Callee.builtin Builtin.delete, args := #[m, x], argTypes := #[55, 9] }) (b : Nat) (l : List FileL) (n : ByteArray) (hn : n.size ≤ maxLen) (hT : Table w b l) (hm : a.eval m = .map (some b)) (hx : a.eval x = .string n)
    (hK : ∀ w', Table w' b (Disks.drop l n) → w.grownBy w' (some b) → w'.heap.size = w.heap.size → wpList Tryz.prog ops Q rest (a.put o.dst (.tuple #[])) w') : wpList Tryz.prog ops Q (o :: rest) a w := by
  obtain ⟨D, hown, ht⟩ := hT
  refine wpList_delete_own w hg m x 55 9 hop 41 strK Tryz.underlying55 fileElem b (Maps.size D) D hm hown (.string n) (.string (Disks.key n)) hx (keyS hn) fun w' h1 h2 => ?_
  refine hK w' ⟨_, own_tight h1, tab_del ht n⟩ h2.grown ?_
  obtain ⟨_, _, _, _, _, rfl⟩ := h2
  simp [ChangeMaps.setBlock]
end
/-- A new map. -/
theorem table_made (w : World) : Table (w.alloc (.map #[] 0)) w.heap.size [] := ⟨.map [], own_tight (World.ownsMap_made w Tryz.prog 9 fileElem), tab_nil⟩
theorem make_tab (n : Int) (w : World) : (Instr.makeMap 55 (some (.int .i64 n))).run Tryz.prog w = .ok (.map (some w.heap.size)) (w.alloc (.map #[] 0)) := by
  simp [Instr.makeMap, run_underlying Tryz.underlying55, Result.andThen, go_sem]
end Go.Proofs.YthcfnofhdbjemaaGreatDoor
