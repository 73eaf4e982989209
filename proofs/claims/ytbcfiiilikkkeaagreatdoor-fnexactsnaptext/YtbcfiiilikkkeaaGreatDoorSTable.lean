/- A map of spots in memory, read as an ascending list; spots put into it one by one. -/
import Derived.Test.YtbcfiiilikkkeaaGreatDoorMathAt
import Derived.Test.YtbcfiiilikkkeaaGreatDoorRdDir
import Derived.Maps.RangeWalk
import Derived.Sort.KeysCollected
namespace Go.Proofs.YtbcfiiilikkkeaaGreatDoor
open Go.RowKit Go.Maps
set_option linter.unusedVariables false

def sdat (c : SpotL) : DataW Unit := .agg [.lit (.string (Batches.by_ c.key)), .lit (.int .i64 c.seg), .lit (.int .i64 c.pos), .lit (.int .i64 c.size)]
theorem sdat_inj {c d : SpotL} (h : sdat c = sdat d) : c = d := by
  obtain ⟨A, S, P, Z⟩ := c
  obtain ⟨A', S', P', Z'⟩ := d
  unfold sdat at h
  simp only [DataW.agg.injEq, List.cons.injEq, DataW.lit.injEq, Lit.string.injEq, Lit.int.injEq, and_true, true_and] at h
  obtain ⟨h1, h2, h3, h4⟩ := h
  rw [Batches.by_inj h1, h2, h3, h4]
def spotOf' : List Value → Option (DataW Unit × List MemPlace)
  | [.string k, .int .i64 s, .int .i64 p, .int .i64 z] => some (sdat ⟨k, s, p, z⟩, [])
  | _ => none
/-- How a spot in a map reads. -/
def spotElem : Value → Option (DataW Unit × List MemPlace)
  | .agg cs => spotOf' cs.toList
  | _ => none
theorem spotElem_mk (c : SpotL) : spotElem (spotV c) = some (sdat c, []) := rfl
theorem spotOf_inv {l : List Value} {z : DataW Unit × List MemPlace} (h : spotOf' l = some z) : ∃ c : SpotL, l = [.string c.key, .int .i64 c.seg, .int .i64 c.pos, .int .i64 c.size] ∧ z = (sdat c, []) := by
  unfold spotOf' at h
  split at h
  · rename_i k s p z
    cases h; exact ⟨⟨k, s, p, z⟩, rfl, rfl⟩
  · cases h
theorem spotElem_inv {v : Value} {z : DataW Unit × List MemPlace} (h : spotElem v = some z) : ∃ c : SpotL, v = spotV c ∧ z = (sdat c, []) := by
  cases v <;> simp only [spotElem, reduceCtorEq] at h
  rename_i cs
  obtain ⟨c, h1, h2⟩ := spotOf_inv h
  exact ⟨c, by unfold spotV; rw [← Array.toArray_toList (xs := cs), h1], h2⟩
structure STabIs (l : List SpotL) (D : DataW Unit) : Prop where
  has : ∀ n : ByteArray, Maps.has D (.string (Batches.by_ n)) = true ↔ ∃ c ∈ l, c.key = n
  elem : ∀ c ∈ l, ∀ z, D.atKey (.string (Batches.by_ c.key)) z = sdat c
theorem stab_nil : STabIs [] (.map []) := ⟨fun n => ⟨fun h => (by cases h), fun ⟨c, hc, _⟩ => (List.not_mem_nil hc).elim⟩, fun _ hf => (List.not_mem_nil hf).elim⟩
theorem skey_ne {a b : ByteArray} (h : a ≠ b) : (Lit.string (Batches.by_ a)) ≠ .string (Batches.by_ b) := fun e => h (Batches.by_inj (by simpa using e))
theorem stab_put {l : List SpotL} {D : DataW Unit} (h : STabIs l D) (hD : IsMap D) (x : SpotL) (hx : x.size ≠ -1) : STabIs (Dirs.put1 l x) (D.put (.string (Batches.by_ x.key)) (sdat x)) := by
  refine ⟨fun n => ?_, fun e he z => ?_⟩
  · by_cases hn : n = x.key
    · rw [hn, has_put_same hD (show WideAt.IsKeyLit (.string _) from trivial)]
      exact ⟨fun _ => ⟨x, Dirs.put1_mem.2 (Or.inr ⟨hx, rfl⟩), rfl⟩, fun _ => rfl⟩
    · rw [has_put_other (skey_ne hn), h.has]
      constructor
      · rintro ⟨e, he, q⟩; exact ⟨e, Dirs.put1_mem.2 (Or.inl ⟨he, by rw [q]; exact hn⟩), q⟩
      · rintro ⟨e, he, q⟩
        rcases Dirs.put1_mem.1 he with ⟨he, _⟩ | ⟨_, rfl⟩
        · exact ⟨e, he, q⟩
        · exact absurd q.symm hn
  · rcases Dirs.put1_mem.1 he with ⟨he, hne⟩ | ⟨_, rfl⟩
    · rw [atKey_put_other (skey_ne hne)]; exact h.elem e he z
    · exact atKey_put_same hD (show WideAt.IsKeyLit (.string _) from trivial) _ _
theorem stab_del {l : List SpotL} {D : DataW Unit} (h : STabIs l D) (x : SpotL) (hx : x.size = -1) : STabIs (Dirs.put1 l x) (D.del (.string (Batches.by_ x.key))) := by
  have hm : ∀ y, y ∈ Dirs.put1 l x ↔ y ∈ l ∧ y.key ≠ x.key := fun y => by rw [Dirs.put1_mem]; exact ⟨fun q => by rcases q with q | ⟨q, _⟩; exact q; exact absurd hx q, Or.inl⟩
  refine ⟨fun n => ?_, fun e he z => ?_⟩
  · by_cases hn : n = x.key
    · rw [hn, has_del_same]
      constructor
      · intro q; cases q
      · rintro ⟨e, he, q⟩; exact absurd q ((hm e).1 he).2
    · rw [has_del_other (skey_ne hn), h.has]
      constructor
      · rintro ⟨e, he, q⟩; exact ⟨e, (hm e).2 ⟨he, by rw [q]; exact hn⟩, q⟩
      · rintro ⟨e, he, q⟩; exact ⟨e, ((hm e).1 he).1, q⟩
  · obtain ⟨he, hne⟩ := (hm e).1 he
    rw [atKey_del_other (skey_ne hne)]; exact h.elem e he z
theorem sown_tight {w : World} {k : TypeId} {R : Value → Option (DataW Unit × List MemPlace)} {b n : Nat} {D : DataW Unit} (h : w.ownsMap Tryz.prog k R b n D) : w.ownsMap Tryz.prog k R b (Maps.size D) D := by
  obtain ⟨es, clock, hb, F, hs, rfl⟩ := h
  exact ⟨es, clock, hb, F, by simp [Maps.size, length_sorted], rfl⟩
theorem strK : Keyed Tryz.prog 9 := string_keyed Tryz.underlying9
/-- Block b is a map of just these spots, by their keys. -/
def STable (w : World) (b : Nat) (l : List SpotL) : Prop := ∃ D, w.ownsMap Tryz.prog 9 spotElem b (Maps.size D) D ∧ STabIs l D
theorem STable.lt {w : World} {b : Nat} {l : List SpotL} (h : STable w b l) : b < w.heap.size := by obtain ⟨D, h, _⟩ := h; exact h.lt
theorem STable.kept {w w' : World} {b : Nat} {l : List SpotL} {row : Option Nat} (h : STable w b l) (hg : w.grownBy w' row) (hne : some b ≠ row) : STable w' b l := by
  obtain ⟨D, h1, h2⟩ := h; exact ⟨D, h1.kept hg hne, h2⟩
theorem STable.below {w w' : World} {b : Nat} {l : List SpotL} (h : STable w b l) (hb : Below w.heap.size w w') : STable w' b l :=
  h.kept (row := none) ⟨hb.os, hb.tape, hb.output, hb.size, fun k hk _ => hb.block k hk⟩ (by simp)
theorem STable.set {w : World} {b : Nat} {l : List SpotL} (h : STable w b l) {a : Addr} (ha : b ≠ a.block) (u : Value) : STable (w.setCell a u) b l := by
  obtain ⟨D, h1, h2⟩ := h; exact ⟨D, h1.setCell ha u, h2⟩
theorem STable.alloc {w : World} {b : Nat} {l : List SpotL} (h : STable w b l) (o : Obj) : STable (w.alloc o) b l := by
  obtain ⟨D, h1, h2⟩ := h; exact ⟨D, h1.alloc o, h2⟩
theorem stab_keys {w : World} {b n : Nat} {l : List SpotL} {D : DataW Unit} (ha : Dirs.asc l) (h1 : w.ownsMap Tryz.prog 9 spotElem b n D) (h2 : STabIs l D) : (l.map fun f => Batches.by_ f.key).Perm (strKeys D) := by
  obtain ⟨es, hD, hpw, _⟩ := h1.entries strK
  obtain ⟨es', hD', hko⟩ := h1.keysOf
  obtain rfl : es = es' := by rw [hD] at hD'; simpa using hD'
  subst hD
  refine perm_strKeys hpw (fun p hp => by obtain ⟨v, hv⟩ := hko p hp; obtain ⟨x, _, hx, _⟩ := Maps.keyOf_str Tryz.underlying9 hv; exact ⟨x, hx⟩) (Dirs.asc_nodup ha) (fun x => ?_)
  have e := h2.has ⟨x.toArray⟩
  have ek : Batches.by_ ⟨x.toArray⟩ = x := by simp [Batches.by_]
  rw [ek] at e
  rw [e, List.mem_map]
  exact ⟨fun ⟨f, hf, q⟩ => ⟨f, hf, by rw [← q] at ek; exact Batches.by_inj (by rw [ek, q])⟩, fun ⟨f, hf, q⟩ => ⟨f, hf, by rw [q, ek]⟩⟩
theorem stab_size {w : World} {b n : Nat} {l : List SpotL} {D : DataW Unit} (ha : Dirs.asc l) (h1 : w.ownsMap Tryz.prog 9 spotElem b n D) (h2 : STabIs l D) : Maps.size D = l.length := by
  have := (stab_keys ha h1 h2).length_eq
  obtain ⟨es, hD, _⟩ := h1.entries strK
  subst hD
  simpa [strKeys, Maps.size] using this.symm
set_option maxRecDepth 100000 in
theorem zero56 (w : World) : (zeroValue 134).run Tryz.prog w = .ok (spotV ⟨⟨#[]⟩, 0, 0, 0⟩) w := by kernel_rfl
theorem skeyS {n : ByteArray} (h : n.size ≤ maxLen) : keyOf Tryz.prog 9 (.string n) = some (.string (Batches.by_ n)) := by
  have := WideMaps.keyOf_string_mk (P := Tryz.prog) Tryz.underlying9 h
  simpa [Batches.by_, ByteArray.toList_eq] using this
/-- 't[n]' of a key that is there -/
theorem stab_get {w : World} {b : Nat} {l : List SpotL} (hT : STable w b l) {c : SpotL} (hc : c ∈ l) (hn : c.key.size ≤ maxLen) : (Instr.lookup 305 (.map (some b)) (.string c.key) false).run Tryz.prog w = .ok (spotV c) w := by
  obtain ⟨D, hown, ht⟩ := hT
  have e2 := ht.elem c hc (sdat ⟨⟨#[]⟩, 0, 0, 0⟩)
  obtain ⟨v, ps, hrun, hv⟩ := hown.lookup strK Tryz.underlying305 (zero56 w) (spotElem_mk _) (skeyS hn)
  obtain ⟨d, rfl, hv2⟩ := spotElem_inv hv
  rw [e2] at hv2
  have := sdat_inj (congrArg Prod.fst hv2)
  subst this
  exact hrun
section
variable {ops : Array Oper} {rest : List Oper} {o : Oper} {a : Act} {Q : Exit → Act → World → Prop}
/-- 't[n] = f' -/
theorem wpList_put_stab (w : World) (hg : o.guard = none) (m x v : Operand) (hop : o.op = Op.mapUpdate 305 m x v) (b : Nat) (l : List SpotL) (ha : Dirs.asc l) (hl : l.length ≤ 4194304) (c : SpotL) (hn : c.key.size ≤ maxLen) (hs : c.size ≠ -1) (hT : STable w b l) (hm : a.eval m = .map (some b)) (hx : a.eval x = .string c.key)
    (hv : a.eval v = spotV c)
    (hK : ∀ w', STable w' b (Dirs.put1 l c) → w.grownBy w' (some b) → wpList Tryz.prog ops Q rest (a.put o.dst undef) w') : wpList Tryz.prog ops Q (o :: rest) a w := by
  obtain ⟨D, hown, ht⟩ := hT
  have hsz := stab_size ha hown ht
  refine wpList_mapUpdate_in w hg m x v 305 hop 9 134 strK Tryz.underlying305 spotElem b (Maps.size D) D hm hown (by rw [hsz]; unfold maxLen; omega) (.string c.key) (spotV c) (.string (Batches.by_ c.key)) hx hv (skeyS hn) (sdat c) [] (spotElem_mk _) fun w' h1 h2 => ?_
  exact hK w' ⟨_, sown_tight h1, stab_put ht hown.isMap c hs⟩ h2.grown
/-- 'delete(t, n)' -/
theorem wpList_del_stab (w : World) (hg : o.guard = none) (m x : Operand) (hop : o.op = Op.call { callee := Callee.builtin Builtin.delete, args := #[m, x], argTypes := #[305, 9] }) (b : Nat) (l : List SpotL) (c : SpotL) (hn : c.key.size ≤ maxLen) (hs : c.size = -1) (hT : STable w b l) (hm : a.eval m = .map (some b)) (hx : a.eval x = .string c.key)
    (hK : ∀ w', STable w' b (Dirs.put1 l c) → w.grownBy w' (some b) → wpList Tryz.prog ops Q rest (a.put o.dst (.tuple #[])) w') : wpList Tryz.prog ops Q (o :: rest) a w := by
  obtain ⟨D, hown, ht⟩ := hT
  refine wpList_delete_own w hg m x 305 9 hop 134 strK Tryz.underlying305 spotElem b (Maps.size D) D hm hown (.string c.key) (.string (Batches.by_ c.key)) hx (skeyS hn) fun w' h1 h2 => ?_
  exact hK w' ⟨_, sown_tight h1, stab_del ht c hs⟩ h2.grown
end
/-- A new map. -/
theorem stable_made (w : World) : STable (w.alloc (.map #[] 0)) w.heap.size [] := ⟨.map [], sown_tight (World.ownsMap_made w Tryz.prog 9 spotElem), stab_nil⟩
theorem make_stab (n : Int) (w : World) : (Instr.makeMap 305 (some (.int .i64 n))).run Tryz.prog w = .ok (.map (some w.heap.size)) (w.alloc (.map #[] 0)) := by
  simp [Instr.makeMap, run_underlying Tryz.underlying305, Result.andThen, go_sem]
theorem cell_grown {w w' : World} {b : Nat} (h : w.grownBy w' (some b)) {p : Addr} (hp : p.block < w.heap.size) (hne : b ≠ p.block) : w'.cell? p = w.cell? p := World.cell?_of_block (w := w) (h.block p.block hp (fun e => hne (by simpa using e.symm)))
theorem SpotAt.grown {w w' : World} {a : Option Addr} {g off b : Nat} {l : List SpotL} (h : SpotAt w a g off l) (hg : w.grownBy w' (some b)) (hne : 0 < l.length → b ≠ g) : SpotAt w' a g off l := by
  refine ⟨h.1, fun j hj => ?_⟩
  have hgl := h.lt (by omega)
  have hn := hne (by omega)
  obtain ⟨h0, h1, h2, h3⟩ := h.2 j hj
  exact ⟨(cell_grown hg (p := ⟨g, _, none⟩) hgl hn).trans h0, (cell_grown hg (p := ⟨g, _, none⟩) hgl hn).trans h1, (cell_grown hg (p := ⟨g, _, none⟩) hgl hn).trans h2, (cell_grown hg (p := ⟨g, _, none⟩) hgl hn).trans h3⟩
set_option maxHeartbeats 2000000 in
set_option maxRecDepth 100000 in
theorem take_is {a : Option Addr} {g off cap : Nat} (l xs : List SpotL) (hasc : Dirs.asc l) (hlen : l.length + xs.length ≤ 4194304) (hsz : ∀ c ∈ xs, smallSpot 2097152 c) (b : Nat) (w : World) (hT : STable w b l) (hf : SpotAt w a g off xs) (hne : 0 < xs.length → b ≠ g) :
    Calls Tryz.prog 248 #[.map (some b), .slice a xs.length cap] w fun e w' => e = .returned (.tuple #[]) ∧ STable w' b (Dirs.more l xs) ∧ w.grownBy w' (some b) := by
  have HF : Hid (SpotAt w a g off xs) := hf
  have HS : Hid (∀ c ∈ xs, smallSpot 2097152 c) := hsz
  have HA : Hid (Dirs.asc l) := hasc
  have HT : Hid (STable w b l) := hT
  have HNE : Hid (0 < xs.length → b ≠ g) := hne
  clear hf hsz hasc hT hne
  go_enter Tryz.func248, Tryz.ntmps248
  go_wp2_with fail
  go_loopw [8] (fun i wr => ∃ k : Nat, k ≤ xs.length ∧ i = .int .i64 (k : Int) ∧ Hid (STable wr b (Dirs.more l (xs.take k))) ∧ w.grownBy wr (some b))
    (fun i _ => xs.length - (intOf i).toNat)
  case atStart => exact ⟨0, Nat.zero_le _, rfl, by show STable w b _; rw [List.take_zero]; exact HT.out, World.grownBy.refl _ _⟩
  case round =>
    obtain ⟨k, hk, rfl, TR, hgr⟩ := hrel
    by_cases hlt : k < xs.length
    · obtain ⟨c0, c1, c2, c3⟩ := (HF.out.grown hgr HNE.out).2 k hlt
      have ea := HF.out.1 (by omega)
      subst ea
      have s0 := HS.out xs[k] (List.getElem_mem _)
      have HAA0 : Hid (∃ c, c = xs[k] ∧ xs[k] = c) := ⟨_, rfl, rfl⟩
      obtain ⟨c, hc, hc'⟩ := HAA0.out
      rw [← hc] at c0 c1 c2 c3 s0
      have HST : Hid (Dirs.more l (xs.take (k + 1)) = Dirs.put1 (Dirs.more l (xs.take k)) c) := by show _ = _; rw [Dirs.more_take hlt, hc']
      clear HAA0 hc hc'
      have HM : Hid (Dirs.asc (Dirs.more l (xs.take k))) := Dirs.asc_more _ _ HA.out
      have hml : (Dirs.more l (xs.take k)).length ≤ 4194304 := Nat.le_trans (Dirs.more_take_len k) hlen
      obtain ⟨A, G, P, Z⟩ := c
      simp only at c0 c1 c2 c3
      unfold smallSpot at s0
      simp only at s0
      have hk0 : (0 : Int) ≤ (k : Int) := by omega
      have hk1 : (k : Int) < (xs.length : Int) := by omega
      have hA := heap_alloc_new wr (Obj.cells #[Value.string A, Value.int .i64 G, Value.int .i64 P, Value.int .i64 Z] 134)
      by_cases hz : Z = -1
      · subst hz
        go_wp2_with (first | (at_delete; refine wpList_del_stab _ rfl _ _ rfl b (Dirs.more l (xs.take k)) ⟨A, G, P, -1⟩ (by show A.size ≤ _; unfold maxLen; omega) rfl (TR.out.alloc _) (by rfl) (by rfl) ?_; intro w4 T4 g4) | fail)
        have T5 : Hid (STable w4 b (Dirs.more l (xs.take (k + 1)))) := by show STable w4 b _; rw [HST.out]; exact T4
        have hg5 : w.grownBy w4 (some b) := (hgr.trans (grown_alloc _ _)).trans g4
        clear T4 g4
        go_wp2
        go_roundw
        case rel => exact ⟨k + 1, by omega, by go_num, T5, hg5⟩
        case measure => simp [intOf]; omega
      · go_wp2_with (first | (at_mapUpdate; refine wpList_put_stab _ rfl _ _ _ rfl b (Dirs.more l (xs.take k)) HM.out hml ⟨A, G, P, Z⟩ (by show A.size ≤ _; unfold maxLen; omega) hz (TR.out.alloc _) (by rfl) (by rfl) (by rfl) ?_; intro w4 T4 g4) | fail)
        have T5 : Hid (STable w4 b (Dirs.more l (xs.take (k + 1)))) := by show STable w4 b _; rw [HST.out]; exact T4
        have hg5 : w.grownBy w4 (some b) := (hgr.trans (grown_alloc _ _)).trans g4
        clear T4 g4
        go_wp2
        go_roundw
        case rel => exact ⟨k + 1, by omega, by go_num, T5, hg5⟩
        case measure => simp [intOf]; omega
    · have hk1 : ¬ (k : Int) < (xs.length : Int) := by omega
      have T5 : Hid (STable wr b (Dirs.more l xs)) := by
        have := TR.out
        rw [List.take_of_length_le (by omega)] at this
        exact this
      go_wp2
      go_end0
      exact ⟨rfl, T5.out, hgr⟩
end Go.Proofs.YtbcfiiilikkkeaaGreatDoor
