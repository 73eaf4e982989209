/- Plain facts on shelves: a batch added is done to the map; cut anywhere, the shelf comes back as it was, or as it would be; no program is named here. A map of spots in memory, read as an ascending list; spots put into it one by one. A map of files in memory, read as an ascending list. The exact law of DiskOk, walked, out of the contract of the program's DiskOk. The program's fileOk and DiskOk, walked. -/
import Derived.Test.YtbcfiiilikkkeaaGreatDoorMathTab
import Derived.Test.YtbcfiiilikkkeaaGreatDoorMathAt
import Derived.Test.YtbcfiiilikkkeaaGreatDoorLSpot
import Derived.Maps.RangeWalk
import Derived.Sort.KeysCollected
import Derived.Test.YtbcfiiilikkkeaaGreatDoorPutRaw
import Derived.Test.YtbcfiiilikkkeaaGreatDoorKeep
import Derived.Test.YtbcfiiilikkkeaaGreatDoorSh
import Derived.Test.YtbcfiiilikkkeaaGreatDoorProg
import Derived.WalkKit
import Derived.WalkSpells
import Derived.WalkLawsBesides
import Derived.Laws.IdiomStrings
import Derived.Laws.BytesArg
import Derived.Laws.BitsAllLaws
import Derived.BigQuiet
namespace Go.Proofs.YtbcfiiilikkkeaaGreatDoor
set_option linter.unusedVariables false
namespace Shelves
open Go
open Batches (by_ by_inj lt)
open Scan (segEnd segSpots segStamp Full valAt by_len)
open Disks (fileAt textOf RawL nameIs run putRaw rawOut)
theorem run_step {l : List FileL} {r : RawL} {rs : List RawL} (h : (run l (r :: rs)).2 = (r :: rs).length) : putRaw l r = some (rawOut l r) ∧ (run (rawOut l r) rs).2 = rs.length ∧ (run l (r :: rs)).1 = (run (rawOut l r) rs).1 := by
  cases e : putRaw l r with
  | none => rw [Disks.run_none e] at h; simp at h
  | some l1 =>
    obtain ⟨_, _, rfl⟩ := Disks.putRaw_some e
    rw [Disks.run_some e] at h ⊢
    simp only [List.length_cons, Nat.add_right_cancel_iff] at h
    exact ⟨rfl, h, rfl⟩
theorem out_put (l : List FileL) (n t : ByteArray) : rawOut l (put1 n t) = Disks.put l (n, t) := by simp [rawOut, put1]
theorem out_add (l : List FileL) (n u t : ByteArray) : rawOut l ⟨2, n, u, t⟩ = Disks.put l (n, textOf l n ++ t) := by simp [rawOut]
theorem out_move (l : List FileL) (u : ByteArray) : rawOut l ⟨3, nameNew, nameM, u⟩ = Disks.put (Disks.drop l nameNew) (nameM, textOf l nameNew) := by
  have h : (nameM.toList == nameNew.toList) = false := by
    cases h : (nameM.toList == nameNew.toList)
    · rfl
    · rw [beq_iff_eq, Batches.toList_by, Batches.toList_by] at h
      exact absurd (by_inj h) m_new
  unfold rawOut
  simp only
  rw [if_neg (by omega), if_neg (by omega), if_pos trivial, if_neg (by rw [h]; simp)]
theorem app_bytes (n : Int) (l : List FileL) (f : List UInt8) : textOf l (segName n) ++ (⟨f.toArray⟩ : ByteArray) = ⟨(textAt l n ++ f).toArray⟩ := by
  apply by_inj
  show (textOf l (segName n) ++ (⟨f.toArray⟩ : ByteArray)).data.toList = textAt l n ++ f
  rw [ByteArray.data_append]
  simp [textAt, by_]
theorem asc_snoc {hi : Int} : ∀ (r : List Int) (lo : Int), Mans.asc lo hi r = true → lo ≤ hi + 1 → Mans.asc lo (hi + 1) (r ++ [hi + 1]) = true
  | [], lo, _, h => by simp [Mans.asc, h]
  | n :: r, lo, h, h2 => by
    simp only [Mans.asc, Bool.and_eq_true, decide_eq_true_eq] at h
    simp only [List.cons_append, Mans.asc, Bool.and_eq_true, decide_eq_true_eq]
    exact ⟨⟨h.1.1, by omega⟩, asc_snoc r (n + 1) h.2 (by omega)⟩
theorem begins_iff {l : List FileL} {m : ManL} : begins l m = true ↔ 500 ≤ (textAt l (lastOf m)).length ∧ m.segs.length < 8 ∧ m.next ≤ 999 := by
  unfold begins
  simp only [Bool.and_eq_true, decide_eq_true_eq]
theorem grown_ok {m : ManL} (h : Mans.ok m) (h1 : m.segs.length < 8) (h2 : m.next ≤ 999) : Mans.ok (grown m) := by
  obtain ⟨q1, q2, q3, q4, q5, q6⟩ := h
  unfold grown
  refine ⟨by simp only [List.length_append, List.length_singleton]; omega, by simp only; omega, ?_, q4, q5, q6⟩
  have := asc_snoc m.segs 0 q3 (by omega)
  rw [show m.next - 1 + 1 = m.next by omega] at this
  simp only
  rw [show m.next + 1 - 1 = m.next by omega]
  exact this
/-- The disk behind the raw writes of a batch. -/
theorem add_disk {l : List FileL} {m : ManL} {f : List UInt8} (hd : (run l (addRaws l m f)).2 = (addRaws l m f).length) :
    (begins l m = false ∧ (run l (addRaws l m f)).1 = Disks.put l (segName (lastOf m), ⟨(textAt l (lastOf m) ++ f).toArray⟩)) ∨
    (begins l m = true ∧ (run l (addRaws l m f)).1 = Disks.put (Disks.drop (Disks.put (Disks.put l (segName m.next, ⟨f.toArray⟩)) (nameNew, ⟨(Mans.sealed (Mans.text (grown m))).toArray⟩)) nameNew) (nameM, ⟨(Mans.sealed (Mans.text (grown m))).toArray⟩)) := by
  cases hb : begins l m
  · left
    have e : addRaws l m f = [⟨2, segName (lastOf m), ⟨#[]⟩, ⟨f.toArray⟩⟩] := by unfold addRaws; rw [hb]; rfl
    rw [e] at hd ⊢
    obtain ⟨_, _, h3⟩ := run_step hd
    refine ⟨rfl, ?_⟩
    rw [h3, out_add, app_bytes]; rfl
  · right
    have e : addRaws l m f = put1 (segName m.next) ⟨f.toArray⟩ :: manRaws ⟨(Mans.sealed (Mans.text (grown m))).toArray⟩ := by unfold addRaws; rw [hb]; rfl
    rw [e] at hd ⊢
    obtain ⟨_, h2, h3⟩ := run_step hd
    refine ⟨rfl, ?_⟩
    rw [h3]
    rw [out_put] at h2 ⊢
    unfold manRaws at h2 ⊢
    obtain ⟨_, h4, h5⟩ := run_step h2
    rw [h5]
    rw [out_put] at h4 ⊢
    obtain ⟨_, _, h7⟩ := run_step h4
    rw [h7, out_move, Disks.textOf_at, Disks.fileAt_put_same]; rfl
end Shelves
end Go.Proofs.YtbcfiiilikkkeaaGreatDoor
namespace Go.Proofs.YtbcfiiilikkkeaaGreatDoor
open Go.RowKit Go.Maps
set_option linter.unusedVariables false

def sdat (c : SpotL) : DataW Unit := .agg [.lit (.string (Batches.by_ c.key)), .lit (.int .i64 c.seg), .lit (.int .i64 c.pos), .lit (.int .i64 c.size)]
theorem sdat_inj {c d : SpotL} (h : sdat c = sdat d) : c = d := by
  obtain ⟨A, S, P, Z⟩ := c
  obtain ⟨A', S', P', Z'⟩ := d
  unfold sdat at h
  simp only [DataW.agg.injEq, List.cons.injEq, DataW.lit.injEq, Lit.string.injEq, Lit.int.injEq, and_true, true_and] at h
  obtain ⟨h1, h2, h3, h4⟩ := h
  rw [Batches.by_inj h1, h2, h3, h4]
def spotOf' : List Value → Option (DataW Unit × List MemPlace)
  | [.string k, .int .i64 s, .int .i64 p, .int .i64 z] => some (sdat ⟨k, s, p, z⟩, [])
  | _ => none
/-- How a spot in a map reads. -/
def spotElem : Value → Option (DataW Unit × List MemPlace)
  | .agg cs => spotOf' cs.toList
  | _ => none
theorem spotElem_mk (c : SpotL) : spotElem (spotV c) = some (sdat c, []) := rfl
theorem spotOf_inv {l : List Value} {z : DataW Unit × List MemPlace} (h : spotOf' l = some z) : ∃ c : SpotL, l = [.string c.key, .int .i64 c.seg, .int .i64 c.pos, .int .i64 c.size] ∧ z = (sdat c, []) := by
  unfold spotOf' at h
  split at h
  · rename_i k s p z
    cases h; exact ⟨⟨k, s, p, z⟩, rfl, rfl⟩
  · cases h
theorem spotElem_inv {v : Value} {z : DataW Unit × List MemPlace} (h : spotElem v = some z) : ∃ c : SpotL, v = spotV c ∧ z = (sdat c, []) := by
  cases v <;> simp only [spotElem, reduceCtorEq] at h
  rename_i cs
  obtain ⟨c, h1, h2⟩ := spotOf_inv h
  exact ⟨c, by unfold spotV; rw [← Array.toArray_toList (xs := cs), h1], h2⟩
structure STabIs (l : List SpotL) (D : DataW Unit) : Prop where
  has : ∀ n : ByteArray, Maps.has D (.string (Batches.by_ n)) = true ↔ ∃ c ∈ l, c.key = n
  elem : ∀ c ∈ l, ∀ z, D.atKey (.string (Batches.by_ c.key)) z = sdat c
theorem stab_nil : STabIs [] (.map []) := ⟨fun n => ⟨fun h => (by cases h), fun ⟨c, hc, _⟩ => (List.not_mem_nil hc).elim⟩, fun _ hf => (List.not_mem_nil hf).elim⟩
theorem skey_ne {a b : ByteArray} (h : a ≠ b) : (Lit.string (Batches.by_ a)) ≠ .string (Batches.by_ b) := fun e => h (Batches.by_inj (by simpa using e))
theorem stab_put {l : List SpotL} {D : DataW Unit} (h : STabIs l D) (hD : IsMap D) (x : SpotL) (hx : x.size ≠ -1) : STabIs (Dirs.put1 l x) (D.put (.string (Batches.by_ x.key)) (sdat x)) := by
  refine ⟨fun n => ?_, fun e he z => ?_⟩
  · by_cases hn : n = x.key
    · rw [hn, has_put_same hD (show WideAt.IsKeyLit (.string _) from trivial)]
      exact ⟨fun _ => ⟨x, Dirs.put1_mem.2 (Or.inr ⟨hx, rfl⟩), rfl⟩, fun _ => rfl⟩
    · rw [has_put_other (skey_ne hn), h.has]
      constructor
      · rintro ⟨e, he, q⟩; exact ⟨e, Dirs.put1_mem.2 (Or.inl ⟨he, by rw [q]; exact hn⟩), q⟩
      · rintro ⟨e, he, q⟩
        rcases Dirs.put1_mem.1 he with ⟨he, _⟩ | ⟨_, rfl⟩
        · exact ⟨e, he, q⟩
        · exact absurd q.symm hn
  · rcases Dirs.put1_mem.1 he with ⟨he, hne⟩ | ⟨_, rfl⟩
    · rw [atKey_put_other (skey_ne hne)]; exact h.elem e he z
    · exact atKey_put_same hD (show WideAt.IsKeyLit (.string _) from trivial) _ _
theorem stab_del {l : List SpotL} {D : DataW Unit} (h : STabIs l D) (x : SpotL) (hx : x.size = -1) : STabIs (Dirs.put1 l x) (D.del (.string (Batches.by_ x.key))) := by
  have hm : ∀ y, y ∈ Dirs.put1 l x ↔ y ∈ l ∧ y.key ≠ x.key := fun y => by rw [Dirs.put1_mem]; exact ⟨fun q => by rcases q with q | ⟨q, _⟩; exact q; exact absurd hx q, Or.inl⟩
  refine ⟨fun n => ?_, fun e he z => ?_⟩
  · by_cases hn : n = x.key
    · rw [hn, has_del_same]
      constructor
      · intro q; cases q
      · rintro ⟨e, he, q⟩; exact absurd q ((hm e).1 he).2
    · rw [has_del_other (skey_ne hn), h.has]
      constructor
      · rintro ⟨e, he, q⟩; exact ⟨e, (hm e).2 ⟨he, by rw [q]; exact hn⟩, q⟩
      · rintro ⟨e, he, q⟩; exact ⟨e, ((hm e).1 he).1, q⟩
  · obtain ⟨he, hne⟩ := (hm e).1 he
    rw [atKey_del_other (skey_ne hne)]; exact h.elem e he z
theorem sown_tight {w : World} {k : TypeId} {R : Value → Option (DataW Unit × List MemPlace)} {b n : Nat} {D : DataW Unit} (h : w.ownsMap Tryz.prog k R b n D) : w.ownsMap Tryz.prog k R b (Maps.size D) D := by
  obtain ⟨es, clock, hb, F, hs, rfl⟩ := h
  exact ⟨es, clock, hb, F, by simp [Maps.size, length_sorted], rfl⟩
theorem strK : Keyed Tryz.prog 9 := string_keyed Tryz.underlying9
/-- Block b is a map of just these spots, by their keys. -/
def STable (w : World) (b : Nat) (l : List SpotL) : Prop := ∃ D, w.ownsMap Tryz.prog 9 spotElem b (Maps.size D) D ∧ STabIs l D
theorem STable.lt {w : World} {b : Nat} {l : List SpotL} (h : STable w b l) : b < w.heap.size := by obtain ⟨D, h, _⟩ := h; exact h.lt
theorem STable.kept {w w' : World} {b : Nat} {l : List SpotL} {row : Option Nat} (h : STable w b l) (hg : w.grownBy w' row) (hne : some b ≠ row) : STable w' b l := by
  obtain ⟨D, h1, h2⟩ := h; exact ⟨D, h1.kept hg hne, h2⟩
theorem STable.below {w w' : World} {b : Nat} {l : List SpotL} (h : STable w b l) (hb : Below w.heap.size w w') : STable w' b l :=
  h.kept (row := none) ⟨hb.os, hb.tape, hb.output, hb.size, fun k hk _ => hb.block k hk⟩ (by simp)
theorem STable.set {w : World} {b : Nat} {l : List SpotL} (h : STable w b l) {a : Addr} (ha : b ≠ a.block) (u : Value) : STable (w.setCell a u) b l := by
  obtain ⟨D, h1, h2⟩ := h; exact ⟨D, h1.setCell ha u, h2⟩
theorem STable.alloc {w : World} {b : Nat} {l : List SpotL} (h : STable w b l) (o : Obj) : STable (w.alloc o) b l := by
  obtain ⟨D, h1, h2⟩ := h; exact ⟨D, h1.alloc o, h2⟩
theorem stab_keys {w : World} {b n : Nat} {l : List SpotL} {D : DataW Unit} (ha : Dirs.asc l) (h1 : w.ownsMap Tryz.prog 9 spotElem b n D) (h2 : STabIs l D) : (l.map fun f => Batches.by_ f.key).Perm (strKeys D) := by
  obtain ⟨es, hD, hpw, _⟩ := h1.entries strK
  obtain ⟨es', hD', hko⟩ := h1.keysOf
  obtain rfl : es = es' := by rw [hD] at hD'; simpa using hD'
  subst hD
  refine perm_strKeys hpw (fun p hp => by obtain ⟨v, hv⟩ := hko p hp; obtain ⟨x, _, hx, _⟩ := Maps.keyOf_str Tryz.underlying9 hv; exact ⟨x, hx⟩) (Dirs.asc_nodup ha) (fun x => ?_)
  have e := h2.has ⟨x.toArray⟩
  have ek : Batches.by_ ⟨x.toArray⟩ = x := by simp [Batches.by_]
  rw [ek] at e
  rw [e, List.mem_map]
  exact ⟨fun ⟨f, hf, q⟩ => ⟨f, hf, by rw [← q] at ek; exact Batches.by_inj (by rw [ek, q])⟩, fun ⟨f, hf, q⟩ => ⟨f, hf, by rw [q, ek]⟩⟩
theorem stab_size {w : World} {b n : Nat} {l : List SpotL} {D : DataW Unit} (ha : Dirs.asc l) (h1 : w.ownsMap Tryz.prog 9 spotElem b n D) (h2 : STabIs l D) : Maps.size D = l.length := by
  have := (stab_keys ha h1 h2).length_eq
  obtain ⟨es, hD, _⟩ := h1.entries strK
  subst hD
  simpa [strKeys, Maps.size] using this.symm
set_option maxRecDepth 100000 in
theorem zero56 (w : World) : (zeroValue 134).run Tryz.prog w = .ok (spotV ⟨⟨#[]⟩, 0, 0, 0⟩) w := by kernel_rfl
theorem skeyS {n : ByteArray} (h : n.size ≤ maxLen) : keyOf Tryz.prog 9 (.string n) = some (.string (Batches.by_ n)) := by
  have := WideMaps.keyOf_string_mk (P := Tryz.prog) Tryz.underlying9 h
  simpa [Batches.by_, ByteArray.toList_eq] using this
/-- 't[n]' of a key that is there -/
theorem stab_get {w : World} {b : Nat} {l : List SpotL} (hT : STable w b l) {c : SpotL} (hc : c ∈ l) (hn : c.key.size ≤ maxLen) : (Instr.lookup 305 (.map (some b)) (.string c.key) false).run Tryz.prog w = .ok (spotV c) w := by
  obtain ⟨D, hown, ht⟩ := hT
  have e2 := ht.elem c hc (sdat ⟨⟨#[]⟩, 0, 0, 0⟩)
  obtain ⟨v, ps, hrun, hv⟩ := hown.lookup strK Tryz.underlying305 (zero56 w) (spotElem_mk _) (skeyS hn)
  obtain ⟨d, rfl, hv2⟩ := spotElem_inv hv
  rw [e2] at hv2
  have := sdat_inj (congrArg Prod.fst hv2)
  subst this
  exact hrun
section
variable {ops : Array Oper} {rest : List Oper} {o : Oper} {a : Act} {Q : Exit → Act → World → Prop}
/-- 't[n] = f' -/
theorem wpList_put_stab (w : World) (hg : o.guard = none) (m x v : Operand) (hop : o.op = Op.mapUpdate 305 m x v) (b : Nat) (l : List SpotL) (ha : Dirs.asc l) (hl : l.length ≤ 4194304) (c : SpotL) (hn : c.key.size ≤ maxLen) (hs : c.size ≠ -1) (hT : STable w b l) (hm : a.eval m = .map (some b)) (hx : a.eval x = .string c.key)
    (hv : a.eval v = spotV c)
    (hK : ∀ w', STable w' b (Dirs.put1 l c) → w.grownBy w' (some b) → wpList Tryz.prog ops Q rest (a.put o.dst undef) w') : wpList Tryz.prog ops Q (o :: rest) a w := by
  obtain ⟨D, hown, ht⟩ := hT
  have hsz := stab_size ha hown ht
  refine wpList_mapUpdate_in w hg m x v 305 hop 9 134 strK Tryz.underlying305 spotElem b (Maps.size D) D hm hown (by rw [hsz]; unfold maxLen; omega) (.string c.key) (spotV c) (.string (Batches.by_ c.key)) hx hv (skeyS hn) (sdat c) [] (spotElem_mk _) fun w' h1 h2 => ?_
  exact hK w' ⟨_, sown_tight h1, stab_put ht hown.isMap c hs⟩ h2.grown
/-- 'delete(t, n)' -/
theorem wpList_del_stab (w : World) (hg : o.guard = none) (m x : Operand) (hop : o.op = Op.call { callee := Callee.builtin Builtin.delete, args := #[m, x], argTypes := #[305, 9] }) (b : Nat) (l : List SpotL) (c : SpotL) (hn : c.key.size ≤ maxLen) (hs : c.size = -1) (hT : STable w b l) (hm : a.eval m = .map (some b)) (hx : a.eval x = .string c.key)
    (hK : ∀ w', STable w' b (Dirs.put1 l c) → w.grownBy w' (some b) → wpList Tryz.prog ops Q rest (a.put o.dst (.tuple #[])) w') : wpList Tryz.prog ops Q (o :: rest) a w := by
  obtain ⟨D, hown, ht⟩ := hT
  refine wpList_delete_own w hg m x 305 9 hop 134 strK Tryz.underlying305 spotElem b (Maps.size D) D hm hown (.string c.key) (.string (Batches.by_ c.key)) hx (skeyS hn) fun w' h1 h2 => ?_
  exact hK w' ⟨_, sown_tight h1, stab_del ht c hs⟩ h2.grown
end
/-- A new map. -/
theorem stable_made (w : World) : STable (w.alloc (.map #[] 0)) w.heap.size [] := ⟨.map [], sown_tight (World.ownsMap_made w Tryz.prog 9 spotElem), stab_nil⟩
theorem make_stab (n : Int) (w : World) : (Instr.makeMap 305 (some (.int .i64 n))).run Tryz.prog w = .ok (.map (some w.heap.size)) (w.alloc (.map #[] 0)) := by
  simp [Instr.makeMap, run_underlying Tryz.underlying305, Result.andThen, go_sem]
theorem cell_grown {w w' : World} {b : Nat} (h : w.grownBy w' (some b)) {p : Addr} (hp : p.block < w.heap.size) (hne : b ≠ p.block) : w'.cell? p = w.cell? p := World.cell?_of_block (w := w) (h.block p.block hp (fun e => hne (by simpa using e.symm)))
theorem SpotAt.grown {w w' : World} {a : Option Addr} {g off b : Nat} {l : List SpotL} (h : SpotAt w a g off l) (hg : w.grownBy w' (some b)) (hne : 0 < l.length → b ≠ g) : SpotAt w' a g off l := by
  refine ⟨h.1, fun j hj => ?_⟩
  have hgl := h.lt (by omega)
  have hn := hne (by omega)
  obtain ⟨h0, h1, h2, h3⟩ := h.2 j hj
  exact ⟨(cell_grown hg (p := ⟨g, _, none⟩) hgl hn).trans h0, (cell_grown hg (p := ⟨g, _, none⟩) hgl hn).trans h1, (cell_grown hg (p := ⟨g, _, none⟩) hgl hn).trans h2, (cell_grown hg (p := ⟨g, _, none⟩) hgl hn).trans h3⟩
set_option maxHeartbeats 2000000 in
set_option maxRecDepth 100000 in
theorem take_is {a : Option Addr} {g off cap : Nat} (l xs : List SpotL) (hasc : Dirs.asc l) (hlen : l.length + xs.length ≤ 4194304) (hsz : ∀ c ∈ xs, smallSpot 2097152 c) (b : Nat) (w : World) (hT : STable w b l) (hf : SpotAt w a g off xs) (hne : 0 < xs.length → b ≠ g) :
    Calls Tryz.prog 248 #[.map (some b), .slice a xs.length cap] w fun e w' => e = .returned (.tuple #[]) ∧ STable w' b (Dirs.more l xs) ∧ w.grownBy w' (some b) := by
  have HF : Hid (SpotAt w a g off xs) := hf
  have HS : Hid (∀ c ∈ xs, smallSpot 2097152 c) := hsz
  have HA : Hid (Dirs.asc l) := hasc
  have HT : Hid (STable w b l) := hT
  have HNE : Hid (0 < xs.length → b ≠ g) := hne
  clear hf hsz hasc hT hne
  go_enter Tryz.func248, Tryz.ntmps248
  go_wp2_with fail
  go_loopw [8] (fun i wr => ∃ k : Nat, k ≤ xs.length ∧ i = .int .i64 (k : Int) ∧ Hid (STable wr b (Dirs.more l (xs.take k))) ∧ w.grownBy wr (some b))
    (fun i _ => xs.length - (intOf i).toNat)
  case atStart => exact ⟨0, Nat.zero_le _, rfl, by show STable w b _; rw [List.take_zero]; exact HT.out, World.grownBy.refl _ _⟩
  case round =>
    obtain ⟨k, hk, rfl, TR, hgr⟩ := hrel
    by_cases hlt : k < xs.length
    · obtain ⟨c0, c1, c2, c3⟩ := (HF.out.grown hgr HNE.out).2 k hlt
      have ea := HF.out.1 (by omega)
      subst ea
      have s0 := HS.out xs[k] (List.getElem_mem _)
      have HAA0 : Hid (∃ c, c = xs[k] ∧ xs[k] = c) := ⟨_, rfl, rfl⟩
      obtain ⟨c, hc, hc'⟩ := HAA0.out
      rw [← hc] at c0 c1 c2 c3 s0
      have HST : Hid (Dirs.more l (xs.take (k + 1)) = Dirs.put1 (Dirs.more l (xs.take k)) c) := by show _ = _; rw [Dirs.more_take hlt, hc']
      clear HAA0 hc hc'
      have HM : Hid (Dirs.asc (Dirs.more l (xs.take k))) := Dirs.asc_more _ _ HA.out
      have hml : (Dirs.more l (xs.take k)).length ≤ 4194304 := Nat.le_trans (Dirs.more_take_len k) hlen
      obtain ⟨A, G, P, Z⟩ := c
      simp only at c0 c1 c2 c3
      unfold smallSpot at s0
      simp only at s0
      have hk0 : (0 : Int) ≤ (k : Int) := by omega
      have hk1 : (k : Int) < (xs.length : Int) := by omega
      have hA := heap_alloc_new wr (Obj.cells #[Value.string A, Value.int .i64 G, Value.int .i64 P, Value.int .i64 Z] 134)
      by_cases hz : Z = -1
      · subst hz
        go_wp2_with (first | (at_delete; refine wpList_del_stab _ rfl _ _ rfl b (Dirs.more l (xs.take k)) ⟨A, G, P, -1⟩ (by show A.size ≤ _; unfold maxLen; omega) rfl (TR.out.alloc _) (by rfl) (by rfl) ?_; intro w4 T4 g4) | fail)
        have T5 : Hid (STable w4 b (Dirs.more l (xs.take (k + 1)))) := by show STable w4 b _; rw [HST.out]; exact T4
        have hg5 : w.grownBy w4 (some b) := (hgr.trans (grown_alloc _ _)).trans g4
        clear T4 g4
        go_wp2
        go_roundw
        case rel => exact ⟨k + 1, by omega, by go_num, T5, hg5⟩
        case measure => simp [intOf]; omega
      · go_wp2_with (first | (at_mapUpdate; refine wpList_put_stab _ rfl _ _ _ rfl b (Dirs.more l (xs.take k)) HM.out hml ⟨A, G, P, Z⟩ (by show A.size ≤ _; unfold maxLen; omega) hz (TR.out.alloc _) (by rfl) (by rfl) (by rfl) ?_; intro w4 T4 g4) | fail)
        have T5 : Hid (STable w4 b (Dirs.more l (xs.take (k + 1)))) := by show STable w4 b _; rw [HST.out]; exact T4
        have hg5 : w.grownBy w4 (some b) := (hgr.trans (grown_alloc _ _)).trans g4
        clear T4 g4
        go_wp2
        go_roundw
        case rel => exact ⟨k + 1, by omega, by go_num, T5, hg5⟩
        case measure => simp [intOf]; omega
    · have hk1 : ¬ (k : Int) < (xs.length : Int) := by omega
      have T5 : Hid (STable wr b (Dirs.more l xs)) := by
        have := TR.out
        rw [List.take_of_length_le (by omega)] at this
        exact this
      go_wp2
      go_end0
      exact ⟨rfl, T5.out, hgr⟩
end Go.Proofs.YtbcfiiilikkkeaaGreatDoor
namespace Go.Proofs.YtbcfiiilikkkeaaGreatDoor
open Go.RowKit Go.Maps

def fdat (n t : ByteArray) : DataW Unit := .agg [.lit (.string (Disks.key n)), .lit (.string (Disks.key t))]
theorem fdat_inj {n t n' t' : ByteArray} (h : fdat n t = fdat n' t') : n = n' ∧ t = t' := by
  unfold fdat at h
  simp only [DataW.agg.injEq, List.cons.injEq, DataW.lit.injEq, Lit.string.injEq, and_true] at h
  exact ⟨Disks.key_inj h.1, Disks.key_inj h.2⟩
def fileOf : List Value → Option (DataW Unit × List MemPlace)
  | [.string n, .string t] => some (fdat n t, [])
  | _ => none
/-- How a file in a map reads. -/
def fileElem : Value → Option (DataW Unit × List MemPlace)
  | .agg cs => fileOf cs.toList
  | _ => none
theorem fileElem_mk (n t : ByteArray) : fileElem (.agg #[.string n, .string t]) = some (fdat n t, []) := rfl
theorem fileOf_inv {l : List Value} {z : DataW Unit × List MemPlace} (h : fileOf l = some z) : ∃ n t, l = [.string n, .string t] ∧ z = (fdat n t, []) := by
  unfold fileOf at h
  split at h
  · cases h; exact ⟨_, _, rfl, rfl⟩
  · cases h
theorem fileElem_inv {v : Value} {z : DataW Unit × List MemPlace} (h : fileElem v = some z) : ∃ n t, v = .agg #[.string n, .string t] ∧ z = (fdat n t, []) := by
  cases v <;> simp only [fileElem, reduceCtorEq] at h
  rename_i cs
  obtain ⟨n, t, h1, h2⟩ := fileOf_inv h
  exact ⟨n, t, by rw [← Array.toArray_toList (xs := cs), h1], h2⟩
structure TabIs (l : List FileL) (D : DataW Unit) : Prop where
  has : ∀ n : ByteArray, Maps.has D (.string (Disks.key n)) = l.any (Disks.nameIs n)
  elem : ∀ f ∈ l, ∀ z, D.atKey (.string (Disks.key f.1)) z = fdat f.1 f.2
theorem tab_nil : TabIs [] (.map []) := ⟨fun _ => rfl, fun _ hf => (List.not_mem_nil hf).elim⟩
theorem key_ne {a b : ByteArray} (h : a ≠ b) : (Lit.string (Disks.key a)) ≠ .string (Disks.key b) := fun e => h (Disks.key_inj (by simpa using e))
theorem tab_put {l : List FileL} {D : DataW Unit} (h : TabIs l D) (hD : IsMap D) (f : FileL) : TabIs (Disks.put l f) (D.put (.string (Disks.key f.1)) (fdat f.1 f.2)) := by
  refine ⟨fun n => ?_, fun e he z => ?_⟩
  · by_cases hn : n = f.1
    · rw [hn, has_put_same hD (show WideAt.IsKeyLit (.string _) from trivial)]
      symm
      rw [Disks.any_name]
      exact ⟨f, Disks.put_mem_iff.2 (Or.inl rfl), rfl⟩
    · rw [has_put_other (key_ne hn), h.has, Bool.eq_iff_iff, Disks.any_name, Disks.any_name]
      constructor
      · rintro ⟨e, he, q⟩; exact ⟨e, Disks.put_mem_iff.2 (Or.inr ⟨he, by rw [q]; exact hn⟩), q⟩
      · rintro ⟨e, he, q⟩
        rcases Disks.put_mem_iff.1 he with rfl | ⟨he, _⟩
        · exact absurd q.symm hn
        · exact ⟨e, he, q⟩
  · rcases Disks.put_mem_iff.1 he with rfl | ⟨he, hne⟩
    · exact atKey_put_same hD (show WideAt.IsKeyLit (.string _) from trivial) _ _
    · rw [atKey_put_other (key_ne hne)]; exact h.elem e he z
theorem tab_del {l : List FileL} {D : DataW Unit} (h : TabIs l D) (n : ByteArray) : TabIs (Disks.drop l n) (D.del (.string (Disks.key n))) := by
  refine ⟨fun m => ?_, fun e he z => ?_⟩
  · by_cases hn : m = n
    · rw [hn, has_del_same]
      symm
      rw [← Bool.not_eq_true, Disks.any_name]
      rintro ⟨f, hf, q⟩
      exact (Disks.drop_mem_iff.1 hf).2 q
    · rw [has_del_other (key_ne hn), h.has, Disks.drop_any hn]
  · obtain ⟨he, hne⟩ := Disks.drop_mem_iff.1 he
    rw [atKey_del_other (key_ne hne)]; exact h.elem e he z
theorem own_tight {w : World} {k : TypeId} {R : Value → Option (DataW Unit × List MemPlace)} {b n : Nat} {D : DataW Unit} (h : w.ownsMap Tryz.prog k R b n D) : w.ownsMap Tryz.prog k R b (Maps.size D) D := by
  obtain ⟨es, clock, hb, F, hs, rfl⟩ := h
  exact ⟨es, clock, hb, F, by simp [Maps.size, length_sorted], rfl⟩
/-- Block b is a map of just these files, by their names. -/
def Table (w : World) (b : Nat) (l : List FileL) : Prop := ∃ D, w.ownsMap Tryz.prog 9 fileElem b (Maps.size D) D ∧ TabIs l D
theorem Table.lt {w : World} {b : Nat} {l : List FileL} (h : Table w b l) : b < w.heap.size := by obtain ⟨D, h, _⟩ := h; exact h.lt
theorem Table.kept {w w' : World} {b : Nat} {l : List FileL} {row : Option Nat} (h : Table w b l) (hg : w.grownBy w' row) (hne : some b ≠ row) : Table w' b l := by
  obtain ⟨D, h1, h2⟩ := h; exact ⟨D, h1.kept hg hne, h2⟩
theorem Table.below {w w' : World} {b : Nat} {l : List FileL} (h : Table w b l) (hb : Below w.heap.size w w') : Table w' b l :=
  h.kept (row := none) ⟨hb.os, hb.tape, hb.output, hb.size, fun k hk _ => hb.block k hk⟩ (by simp)
theorem Table.set {w : World} {b : Nat} {l : List FileL} (h : Table w b l) {a : Addr} (ha : b ≠ a.block) (u : Value) : Table (w.setCell a u) b l := by
  obtain ⟨D, h1, h2⟩ := h; exact ⟨D, h1.setCell ha u, h2⟩
theorem Table.alloc {w : World} {b : Nat} {l : List FileL} (h : Table w b l) (o : Obj) : Table (w.alloc o) b l := by
  obtain ⟨D, h1, h2⟩ := h; exact ⟨D, h1.alloc o, h2⟩
theorem tab_keys {w : World} {b n : Nat} {l : List FileL} {D : DataW Unit} (ha : Disks.asc l) (h1 : w.ownsMap Tryz.prog 9 fileElem b n D) (h2 : TabIs l D) : (l.map fun f => Disks.key f.1).Perm (strKeys D) := by
  obtain ⟨es, hD, hpw, _⟩ := h1.entries strK
  obtain ⟨es', hD', hko⟩ := h1.keysOf
  obtain rfl : es = es' := by rw [hD] at hD'; simpa using hD'
  subst hD
  refine perm_strKeys hpw (fun p hp => by obtain ⟨v, hv⟩ := hko p hp; obtain ⟨x, _, hx, _⟩ := Maps.keyOf_str Tryz.underlying9 hv; exact ⟨x, hx⟩) (Disks.asc_keys ha) (fun x => ?_)
  have e := h2.has ⟨x.toArray⟩
  have ek : Disks.key ⟨x.toArray⟩ = x := by simp [Disks.key]
  rw [ek] at e
  rw [e, Disks.any_name, List.mem_map]
  exact ⟨fun ⟨f, hf, q⟩ => ⟨f, hf, by rw [← q] at ek; exact Disks.key_inj (by rw [ek, q])⟩, fun ⟨f, hf, q⟩ => ⟨f, hf, by rw [q, ek]⟩⟩
theorem tab_size {w : World} {b n : Nat} {l : List FileL} {D : DataW Unit} (ha : Disks.asc l) (h1 : w.ownsMap Tryz.prog 9 fileElem b n D) (h2 : TabIs l D) : Maps.size D = l.length := by
  have := (tab_keys ha h1 h2).length_eq
  obtain ⟨es, hD, _⟩ := h1.entries strK
  subst hD
  simpa [strKeys, Maps.size] using this.symm
theorem tab_look {l : List FileL} {D : DataW Unit} (h : TabIs l D) (n : ByteArray) : Maps.has D (.string (Disks.key n)) = (Disks.look l n).2 ∧ D.atKey (.string (Disks.key n)) (fdat ⟨#[]⟩ ⟨#[]⟩) = fdat (Disks.look l n).1.1 (Disks.look l n).1.2 := by
  refine ⟨by rw [h.has, Disks.look_any], ?_⟩
  cases e : (Disks.look l n).2
  · rw [Disks.look_none e]
    exact atKey_of_not_has (by rw [h.has, ← Disks.look_any, e]) _
  · obtain ⟨h1, h2⟩ := Disks.look_some e
    have := h.elem _ h1 (fdat ⟨#[]⟩ ⟨#[]⟩)
    rw [h2] at this
    rw [this, h2]
set_option maxRecDepth 100000 in
theorem zero68 (w : World) : (zeroValue 164).run Tryz.prog w = .ok (.agg #[.string ⟨#[]⟩, .string ⟨#[]⟩]) w := by kernel_rfl
theorem keyS {n : ByteArray} (h : n.size ≤ maxLen) : keyOf Tryz.prog 9 (.string n) = some (.string (Disks.key n)) := WideMaps.keyOf_string_mk Tryz.underlying9 h
section
variable {ops : Array Oper} {rest : List Oper} {o : Oper} {a : Act} {Q : Exit → Act → World → Prop}
/-- 'f, there := t[n]' -/
theorem wpList_look_tab (w : World) (hg : o.guard = none) (m x : Operand) (hop : o.op = Op.lookup 129 m x true) (b : Nat) (l : List FileL) (n : ByteArray) (hn : n.size ≤ maxLen) (hT : Table w b l) (A T : ByteArray) (B : Bool) (hl : Disks.look l n = ((A, T), B)) (hm : a.eval m = .map (some b)) (hx : a.eval x = .string n)
    (hK : wpList Tryz.prog ops Q rest (a.put o.dst (.tuple #[.agg #[.string A, .string T], .bool B])) w) : wpList Tryz.prog ops Q (o :: rest) a w := by
  obtain ⟨D, hown, ht⟩ := hT
  obtain ⟨e1, e2⟩ := tab_look ht n
  rw [hl] at e1 e2
  simp only at e1 e2
  refine wpList_lookup_own_ok w hg m x 129 hop 9 164 strK Tryz.underlying129 fileElem (zero68 w) (fdat ⟨#[]⟩ ⟨#[]⟩) [] (fileElem_mk _ _) b (Maps.size D) D hm hown (.string n) (.string (Disks.key n)) hx (keyS hn) fun v ps hv => ?_
  obtain ⟨n', t', rfl, hv2⟩ := fileElem_inv hv
  rw [e2] at hv2
  obtain ⟨q1, q2⟩ := fdat_inj (congrArg Prod.fst hv2)
  rw [e1, ← q1, ← q2]
  exact hK
/-- 't[n]' -/
theorem wpList_get_tab (w : World) (hg : o.guard = none) (m x : Operand) (hop : o.op = Op.lookup 129 m x false) (b : Nat) (l : List FileL) (n : ByteArray) (hn : n.size ≤ maxLen) (hT : Table w b l) (A T : ByteArray) (B : Bool) (hl : Disks.look l n = ((A, T), B)) (hm : a.eval m = .map (some b)) (hx : a.eval x = .string n)
    (hK : wpList Tryz.prog ops Q rest (a.put o.dst (.agg #[.string A, .string T])) w) : wpList Tryz.prog ops Q (o :: rest) a w := by
  obtain ⟨D, hown, ht⟩ := hT
  obtain ⟨_, e2⟩ := tab_look ht n
  rw [hl] at e2
  simp only at e2
  refine wpList_plain hg fun K' hK' => ?_
  obtain ⟨v, ps, hrun, hv⟩ := hown.lookup strK Tryz.underlying129 (zero68 w) (fileElem_mk _ _) (keyS hn)
  obtain ⟨n', t', rfl, hv2⟩ := fileElem_inv hv
  rw [e2] at hv2
  obtain ⟨q1, q2⟩ := fdat_inj (congrArg Prod.fst hv2)
  rw [← q1, ← q2] at hrun
  unfold Oper.wp
  simp [execOp, hop, hm, hx, hrun, Result.andThen]
  exact hK' _ _ hK
/-- 't[n] = f' -/
theorem wpList_put_tab (w : World) (hg : o.guard = none) (m x v : Operand) (hop : o.op = Op.mapUpdate 129 m x v) (b : Nat) (l : List FileL) (ha : Disks.asc l) (hl : l.length ≤ 1000) (n t : ByteArray) (hn : n.size ≤ maxLen) (hT : Table w b l) (hm : a.eval m = .map (some b)) (hx : a.eval x = .string n)
    (hv : a.eval v = .agg #[.string n, .string t])
    (hK : ∀ w', Table w' b (Disks.put l (n, t)) → w.grownBy w' (some b) → w'.heap.size = w.heap.size → wpList Tryz.prog ops Q rest (a.put o.dst undef) w') : wpList Tryz.prog ops Q (o :: rest) a w := by
  obtain ⟨D, hown, ht⟩ := hT
  have hs := tab_size ha hown ht
  refine wpList_mapUpdate_in w hg m x v 129 hop 9 164 strK Tryz.underlying129 fileElem b (Maps.size D) D hm hown (by rw [hs]; unfold maxLen; omega) (.string n) (.agg #[.string n, .string t]) (.string (Disks.key n)) hx hv (keyS hn) (fdat n t) [] (fileElem_mk _ _) fun w' h1 h2 => ?_
  refine hK w' ⟨_, own_tight h1, tab_put ht hown.isMap (n, t)⟩ h2.grown ?_
  obtain ⟨_, _, _, _, _, rfl⟩ := h2
  simp [ChangeMaps.setBlock]
/-- 'delete(t, n)' -/
theorem wpList_del_tab (w : World) (hg : o.guard = none) (m x : Operand) (hop : o.op = Op.call { callee := Callee.builtin Builtin.delete, args := #[m, x], argTypes := #[129, 9] }) (b : Nat) (l : List FileL) (n : ByteArray) (hn : n.size ≤ maxLen) (hT : Table w b l) (hm : a.eval m = .map (some b)) (hx : a.eval x = .string n)
    (hK : ∀ w', Table w' b (Disks.drop l n) → w.grownBy w' (some b) → w'.heap.size = w.heap.size → wpList Tryz.prog ops Q rest (a.put o.dst (.tuple #[])) w') : wpList Tryz.prog ops Q (o :: rest) a w := by
  obtain ⟨D, hown, ht⟩ := hT
  refine wpList_delete_own w hg m x 129 9 hop 164 strK Tryz.underlying129 fileElem b (Maps.size D) D hm hown (.string n) (.string (Disks.key n)) hx (keyS hn) fun w' h1 h2 => ?_
  refine hK w' ⟨_, own_tight h1, tab_del ht n⟩ h2.grown ?_
  obtain ⟨_, _, _, _, _, rfl⟩ := h2
  simp [ChangeMaps.setBlock]
end
/-- A new map. -/
theorem table_made (w : World) : Table (w.alloc (.map #[] 0)) w.heap.size [] := ⟨.map [], own_tight (World.ownsMap_made w Tryz.prog 9 fileElem), tab_nil⟩
theorem make_tab (n : Int) (w : World) : (Instr.makeMap 129 (some (.int .i64 n))).run Tryz.prog w = .ok (.map (some w.heap.size)) (w.alloc (.map #[] 0)) := by
  simp [Instr.makeMap, run_underlying Tryz.underlying129, Result.andThen, go_sem]
end Go.Proofs.YtbcfiiilikkkeaaGreatDoor
namespace Go.Proofs.YtbcfiiilikkkeaaGreatDoor
open Go.RowKit

theorem sizes_of_tot {l : List FileL} (h : tot l ≤ 1048576) : l.length ≤ 1048576 ∧ ∀ f ∈ l, f.1.size ≤ 1048576 ∧ f.2.size ≤ 1048576 :=
  ⟨Nat.le_trans (tot_len l) h, fun f hf => by have := tot_mem hf; omega⟩

end Go.Proofs.YtbcfiiilikkkeaaGreatDoor
namespace Go.Proofs.YtbcfiiilikkkeaaGreatDoor
open Go.RowKit

set_option maxHeartbeats 400000 in
theorem fileOk_yes (n t : ByteArray) (h : Disks.fileOk (n, t)) (w : World) :
    Calls Tryz.prog 198 #[.agg #[.string n, .string t]] w fun e w' => e = .returned (.bool true) ∧ Below w.heap.size w w' := by
  obtain ⟨h1, h2, h3⟩ := h
  simp only at h1 h2 h3
  have a1 : (1 : Int) ≤ (n.size : Int) := by omega
  have a2 : (n.size : Int) ≤ 12 := by omega
  have a3 : (t.size : Int) ≤ 20000 := by omega
  go_enter Tryz.func198, Tryz.ntmps198
  go_wp2
  go_ret
  exact ⟨rfl, (Below.refl _ _).alloc (Nat.le_refl _) _⟩
set_option maxHeartbeats 400000 in
theorem fileOk_no (n t : ByteArray) (hn : n.size ≤ 2097152) (ht : t.size ≤ 2097152) (h : ¬ Disks.fileOk (n, t)) (w : World) :
    Calls Tryz.prog 198 #[.agg #[.string n, .string t]] w fun e w' => e = .returned (.bool false) ∧ Below w.heap.size w w' := by
  by_cases h1 : 1 ≤ n.size
  · by_cases h2 : n.size ≤ 12
    · have h3 : ¬ t.size ≤ 20000 := fun h3 => h ⟨h1, h2, h3⟩
      have a1 : (1 : Int) ≤ (n.size : Int) := by omega
      have a2 : (n.size : Int) ≤ 12 := by omega
      have a3 : ¬ (t.size : Int) ≤ 20000 := by omega
      clear h
      go_enter Tryz.func198, Tryz.ntmps198
      go_wp2
      go_ret
      exact ⟨rfl, (Below.refl _ _).alloc (Nat.le_refl _) _⟩
    · have a1 : (1 : Int) ≤ (n.size : Int) := by omega
      have a2 : ¬ (n.size : Int) ≤ 12 := by omega
      clear h
      go_enter Tryz.func198, Tryz.ntmps198
      go_wp2
      go_ret
      exact ⟨rfl, (Below.refl _ _).alloc (Nat.le_refl _) _⟩
  · have a1 : ¬ (1 : Int) ≤ (n.size : Int) := by omega
    clear h
    go_enter Tryz.func198, Tryz.ntmps198
    go_wp2
    go_ret
    exact ⟨rfl, (Below.refl _ _).alloc (Nat.le_refl _) _⟩

theorem file_is_ok {f : FileL} {A T : ByteArray} (h1 : A = f.1) (h2 : T = f.2) (h : Disks.fileOk (A, T)) : Disks.fileOk f := by subst h1 h2; exact h
theorem ok_is_file {f : FileL} {A T : ByteArray} (h1 : A = f.1) (h2 : T = f.2) (h : Disks.fileOk f) : Disks.fileOk (A, T) := by subst h1 h2; exact h

set_option maxHeartbeats 4000000 in
set_option maxRecDepth 100000 in
theorem implDiskOk_any (R : Bool) {a : Option Addr} {g off cap : Nat} (l : List FileL) (hlen : l.length ≤ 1048576) (w : World) (hf : FilesAt w a g off l) (hsz : ∀ f ∈ l, f.1.size ≤ 1048576 ∧ f.2.size ≤ 1048576) (hR : R = true ↔ Disks.ok l) :
    Calls Tryz.prog 155 #[.agg #[.slice a l.length cap]] w fun e w' => e = .returned (.bool R) ∧ Below w.heap.size w w' := by
  have HR : Hid (R = true ↔ Disks.ok l) := hR
  clear hR
  have HF : Hid (FilesAt w a g off l) := hf
  have HS : Hid (∀ f ∈ l, f.1.size ≤ 1048576 ∧ f.2.size ≤ 1048576) := hsz
  clear hf hsz
  by_cases h30 : 30 < l.length
  · have h1 : (30 : Int) < (l.length : Int) := by omega
    go_enter Tryz.func155, Tryz.ntmps155
    go_wp2
    go_ret
    exact ⟨by rw [ans_no HR.out (fun h => by have := h.1; omega)]; rfl, (Below.refl _ _).alloc (Nat.le_refl _) _⟩
  · have h1 : ¬ (30 : Int) < (l.length : Int) := by omega
    go_enter Tryz.func155, Tryz.ntmps155
    go_wp2
    go_loopw [12] (fun i wr => ∃ k : Nat, k ≤ l.length ∧ i = .int .i64 (k : Int) ∧ (∀ j, j < k → Disks.okAt l j) ∧ wr.cell? ⟨w.heap.size, 0, none⟩ = some (.slice a l.length cap) ∧ Below w.heap.size w wr ∧ w.heap.size < wr.heap.size)
      (fun i _ => l.length - (intOf i).toNat)
    case atStart => exact ⟨0, Nat.zero_le _, rfl, fun j hj => absurd hj (Nat.not_lt_zero _), cell_of_row _ _ _ _ _ _ (heap_alloc_new w _), (Below.refl _ _).alloc (Nat.le_refl _) _, by simp⟩
    case round =>
      obtain ⟨k, hk, rfl, hall, hd, hbel, hz⟩ := hrel
      have HA : Hid (∀ j, j < k → Disks.okAt l j) := hall
      clear hall
      by_cases hlt : k < l.length
      · obtain ⟨c0, c1⟩ := (HF.out.kept hbel).2 k hlt
        have ea := HF.out.1 (by omega)
        subst ea
        obtain ⟨A, hA⟩ : ∃ A, A = l[k].1 := ⟨_, rfl⟩
        obtain ⟨T, hT⟩ : ∃ T, T = l[k].2 := ⟨_, rfl⟩
        obtain ⟨s0, s1⟩ := HS.out l[k] (List.getElem_mem _)
        rw [← hA] at c0 s0
        rw [← hT] at c1 s1
        have HAA : Hid (A = l[k].1) := hA
        have HTT : Hid (T = l[k].2) := hT
        clear hA hT
        have hk0 : (0 : Int) ≤ (k : Int) := by omega
        have hk1 : (k : Int) < (l.length : Int) := by omega
        by_cases hn : Disks.fileOk (A, T)
        · rcases Nat.eq_zero_or_pos k with hz0 | hp
          · have hkd : decide (0 < k) = false := decide_eq_false (by omega)
            have HN : Hid (Disks.okAt l k) := ⟨hlt, file_is_ok HAA.out HTT.out hn, fun h => absurd h (by omega)⟩
            have HZ : Hid (k = 0) := hz0
            clear hz0
            go_wp2
            obtain ⟨W1, hW1⟩ : ∃ W1, W1 = wr.alloc (Obj.cells #[Value.string A, Value.string T] 164) := ⟨_, rfl⟩
            rw [← hW1]
            have hB1 : Below wr.heap.size wr W1 := by rw [hW1]; exact (Below.refl _ _).alloc (Nat.le_refl _) _
            have f0 : W1.cell? ⟨wr.heap.size, 0, none⟩ = some (.string A) := by rw [hW1]; exact cell_of_row _ _ 0 _ _ _ (heap_alloc_new wr _)
            have f1 : W1.cell? ⟨wr.heap.size, 1, none⟩ = some (.string T) := by rw [hW1]; exact cell_of_row _ _ 1 _ _ _ (heap_alloc_new wr _)
            have hz1 : wr.heap.size < W1.heap.size := World.block_lt_of_cell? W1 _ f0
            have hd1 : W1.cell? ⟨w.heap.size, 0, none⟩ = some (.slice (some ⟨g, off, none⟩) l.length cap) := by rw [hB1.cell (p := ⟨w.heap.size, 0, none⟩) hz]; exact hd
            have hw1 : Below w.heap.size w W1 := hbel.trans (hB1.mono hbel.size)
            have hzz : w.heap.size < W1.heap.size := Nat.lt_trans hz hz1
            clear hW1 hd c0 c1
            have NE := Abv.ne W1
            have F0 := fun x : Abv W1 => x.cell f0
            have F1 := fun x : Abv W1 => x.cell f1
            have FD := fun x : Abv W1 => x.cell hd1
            refine wp_region_above (by kernel_rfl) (by kernel_rfl) ?_
            repeat (go_big_quiet_step (first | (go_at_call 198; exact calls_above (fileOk_yes A T hn _))))
            refine wpQuiet_nil ?_
            rintro w1 ⟨⟨_, hb1⟩, rfl⟩
            go_wp2
            go_roundw
            case rel => exact ⟨k + 1, by omega, by go_num, Disks.ok_step HA.out HN.out, (hb1.cell (p := ⟨w.heap.size, 0, none⟩) hzz).trans hd1, hw1.trans (hb1.mono hw1.size), Nat.lt_of_lt_of_le hzz hb1.size⟩
            case measure => simp [intOf]; omega
          · obtain ⟨m, rfl⟩ : ∃ m, k = m + 1 := ⟨k - 1, by omega⟩
            obtain ⟨e0, _⟩ := (HF.out.kept hbel).2 m (by omega)
            obtain ⟨E, hE⟩ : ∃ E, E = l[m].1 := ⟨_, rfl⟩
            rw [← hE] at e0
            have HEE : Hid (E = l[m].1) := hE
            clear hE
            have hm1 : IntKind.i64.wrap ((m : Int) + 1 - 1) = (m : Int) := by rw [IntWalk.i64_in _ (by omega)]; omega
            have hm2 : decide ((0 : Int) < (m : Int) + 1) = true := decide_eq_true (by omega)
            have hm3 : (0 : Int) ≤ (m : Int) := by omega
            have hm4 : (m : Int) < (l.length : Int) := by omega
            have hg : g < wr.heap.size := World.block_lt_of_cell? wr _ e0
            go_wp2
            obtain ⟨W1, hW1⟩ : ∃ W1, W1 = wr.alloc (Obj.cells #[Value.string A, Value.string T] 164) := ⟨_, rfl⟩
            rw [← hW1]
            have hB1 : Below wr.heap.size wr W1 := by rw [hW1]; exact (Below.refl _ _).alloc (Nat.le_refl _) _
            have f0 : W1.cell? ⟨wr.heap.size, 0, none⟩ = some (.string A) := by rw [hW1]; exact cell_of_row _ _ 0 _ _ _ (heap_alloc_new wr _)
            have f1 : W1.cell? ⟨wr.heap.size, 1, none⟩ = some (.string T) := by rw [hW1]; exact cell_of_row _ _ 1 _ _ _ (heap_alloc_new wr _)
            have hz1 : wr.heap.size < W1.heap.size := World.block_lt_of_cell? W1 _ f0
            have hd1 : W1.cell? ⟨w.heap.size, 0, none⟩ = some (.slice (some ⟨g, off, none⟩) l.length cap) := by rw [hB1.cell (p := ⟨w.heap.size, 0, none⟩) hz]; exact hd
            have hw1 : Below w.heap.size w W1 := hbel.trans (hB1.mono hbel.size)
            have hzz : w.heap.size < W1.heap.size := Nat.lt_trans hz hz1
            clear hW1 hd c0 c1
            have e1 : W1.cell? ⟨g, off + m * 2, none⟩ = some (.string E) := by rw [hB1.cell (p := ⟨g, off + m * 2, none⟩) hg]; exact e0
            have hg1 : g < W1.heap.size := Nat.lt_of_lt_of_le hg hB1.size
            clear e0 hg
            by_cases hb : Op.bytesLess E.toList A.toList = true
            · have HN : Hid (Disks.okAt l (m + 1)) := ⟨hlt, file_is_ok HAA.out HTT.out hn, fun _ => ⟨by omega, by show Op.bytesLess _ _ = true; rw [← HAA.out]; simp only [Nat.add_sub_cancel]; rw [← HEE.out]; exact hb⟩⟩
              have NE := Abv.ne W1
              have F0 := fun x : Abv W1 => x.cell f0
              have F1 := fun x : Abv W1 => x.cell f1
              have FD := fun x : Abv W1 => x.cell hd1
              have FE := fun x : Abv W1 => x.cell e1
              refine wp_region_above (by kernel_rfl) (by kernel_rfl) ?_
              repeat (go_big_quiet_step (first | (go_at_call 198; exact calls_above (fileOk_yes A T hn _))))
              refine wpQuiet_nil ?_
              rintro w1 ⟨⟨_, hb1⟩, rfl⟩
              go_wp2
              go_roundw
              case rel => exact ⟨m + 1 + 1, by omega, by go_num, Disks.ok_step HA.out HN.out, (hb1.cell (p := ⟨w.heap.size, 0, none⟩) hzz).trans hd1, hw1.trans (hb1.mono hw1.size), Nat.lt_of_lt_of_le hzz hb1.size⟩
              case measure => simp [intOf]; omega
            · have hb' : Op.bytesLess E.toList A.toList = false := by simpa using hb
              have HN : Hid (¬ Disks.okAt l (m + 1)) := by
                show ¬ _
                rintro ⟨_, _, q⟩
                obtain ⟨_, q2⟩ := q (by omega)
                simp only [Nat.add_sub_cancel, Disks.lt] at q2
                rw [← HAA.out, ← HEE.out] at q2
                exact hb q2
              clear hb
              have NE := Abv.ne W1
              have F0 := fun x : Abv W1 => x.cell f0
              have F1 := fun x : Abv W1 => x.cell f1
              have FD := fun x : Abv W1 => x.cell hd1
              have FE := fun x : Abv W1 => x.cell e1
              refine wp_region_above (by kernel_rfl) (by kernel_rfl) ?_
              repeat (go_big_quiet_step (first | (go_at_call 198; exact calls_above (fileOk_yes A T hn _))))
              refine wpQuiet_nil ?_
              rintro w1 ⟨⟨_, hb1⟩, rfl⟩
              go_wp2
              go_ret
              exact ⟨by rw [ans_no HR.out (Disks.not_ok hlt HN.out)]; rfl, hw1.trans (hb1.mono hw1.size)⟩
        · have HN : Hid (¬ Disks.okAt l k) := by
            show ¬ _
            rintro ⟨_, q, _⟩
            exact hn (ok_is_file HAA.out HTT.out q)
          go_wp2
          obtain ⟨W1, hW1⟩ : ∃ W1, W1 = wr.alloc (Obj.cells #[Value.string A, Value.string T] 164) := ⟨_, rfl⟩
          rw [← hW1]
          have hB1 : Below wr.heap.size wr W1 := by rw [hW1]; exact (Below.refl _ _).alloc (Nat.le_refl _) _
          have f0 : W1.cell? ⟨wr.heap.size, 0, none⟩ = some (.string A) := by rw [hW1]; exact cell_of_row _ _ 0 _ _ _ (heap_alloc_new wr _)
          have f1 : W1.cell? ⟨wr.heap.size, 1, none⟩ = some (.string T) := by rw [hW1]; exact cell_of_row _ _ 1 _ _ _ (heap_alloc_new wr _)
          have hz1 : wr.heap.size < W1.heap.size := World.block_lt_of_cell? W1 _ f0
          have hd1 : W1.cell? ⟨w.heap.size, 0, none⟩ = some (.slice (some ⟨g, off, none⟩) l.length cap) := by rw [hB1.cell (p := ⟨w.heap.size, 0, none⟩) hz]; exact hd
          have hw1 : Below w.heap.size w W1 := hbel.trans (hB1.mono hbel.size)
          have hzz : w.heap.size < W1.heap.size := Nat.lt_trans hz hz1
          clear hW1 hd c0 c1
          have NE := Abv.ne W1
          have F0 := fun x : Abv W1 => x.cell f0
          have F1 := fun x : Abv W1 => x.cell f1
          have FD := fun x : Abv W1 => x.cell hd1
          refine wp_region_above (by kernel_rfl) (by kernel_rfl) ?_
          repeat (go_big_quiet_step (first | (go_at_call 198; exact calls_above (fileOk_no A T (by omega) (by omega) hn _))))
          refine wpQuiet_nil ?_
          rintro w1 ⟨⟨_, hb1⟩, rfl⟩
          go_wp2
          go_ret
          exact ⟨by rw [ans_no HR.out (Disks.not_ok hlt HN.out)]; rfl, hw1.trans (hb1.mono hw1.size)⟩
      · have hk1 : ¬ (k : Int) < (l.length : Int) := by omega
        go_wp2
        go_ret
        exact ⟨by rw [HR.out.2 ⟨by omega, fun j hj => HA.out j (by omega)⟩]; rfl, hbel⟩
end Go.Proofs.YtbcfiiilikkkeaaGreatDoor
