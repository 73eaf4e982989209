/- A map of files in memory, read as an ascending list. The exact law of DiskOk, walked, out of the contract of the program's DiskOk. The program's fileOk and DiskOk, walked. -/
import Derived.Test.YtbcfiiilikkkeaaGreatDoorSTable
import Derived.Test.YtbcfiiilikkkeaaGreatDoorReadLaw
import Derived.Maps.RangeWalk
import Derived.Sort.KeysCollected
import Derived.Test.YtbcfiiilikkkeaaGreatDoorLRaw
import Derived.Test.YtbcfiiilikkkeaaGreatDoorAt
import Derived.Test.YtbcfiiilikkkeaaGreatDoorProg
import Derived.WalkKit
import Derived.WalkSpells
import Derived.WalkLawsBesides
import Derived.Laws.IdiomStrings
import Derived.Laws.BytesArg
import Derived.Laws.BitsAllLaws
import Derived.BigQuiet
namespace Go.Proofs.YtbcfiiilikkkeaaGreatDoor
open Go.RowKit Go.Maps

def fdat (n t : ByteArray) : DataW Unit := .agg [.lit (.string (Disks.key n)), .lit (.string (Disks.key t))]
theorem fdat_inj {n t n' t' : ByteArray} (h : fdat n t = fdat n' t') : n = n' ∧ t = t' := by
  unfold fdat at h
  simp only [DataW.agg.injEq, List.cons.injEq, DataW.lit.injEq, Lit.string.injEq, and_true] at h
  exact ⟨Disks.key_inj h.1, Disks.key_inj h.2⟩
def fileOf : List Value → Option (DataW Unit × List MemPlace)
  | [.string n, .string t] => some (fdat n t, [])
  | _ => none
/-- How a file in a map reads. -/
def fileElem : Value → Option (DataW Unit × List MemPlace)
  | .agg cs => fileOf cs.toList
  | _ => none
theorem fileElem_mk (n t : ByteArray) : fileElem (.agg #[.string n, .string t]) = some (fdat n t, []) := rfl
theorem fileOf_inv {l : List Value} {z : DataW Unit × List MemPlace} (h : fileOf l = some z) : ∃ n t, l = [.string n, .string t] ∧ z = (fdat n t, []) := by
  unfold fileOf at h
  split at h
  · cases h; exact ⟨_, _, rfl, rfl⟩
  · cases h
theorem fileElem_inv {v : Value} {z : DataW Unit × List MemPlace} (h : fileElem v = some z) : ∃ n t, v = .agg #[.string n, .string t] ∧ z = (fdat n t, []) := by
  cases v <;> simp only [fileElem, reduceCtorEq] at h
  rename_i cs
  obtain ⟨n, t, h1, h2⟩ := fileOf_inv h
  exact ⟨n, t, by rw [← Array.toArray_toList (xs := cs), h1], h2⟩
structure TabIs (l : List FileL) (D : DataW Unit) : Prop where
  has : ∀ n : ByteArray, Maps.has D (.string (Disks.key n)) = l.any (Disks.nameIs n)
  elem : ∀ f ∈ l, ∀ z, D.atKey (.string (Disks.key f.1)) z = fdat f.1 f.2
theorem tab_nil : TabIs [] (.map []) := ⟨fun _ => rfl, fun _ hf => (List.not_mem_nil hf).elim⟩
theorem key_ne {a b : ByteArray} (h : a ≠ b) : (Lit.string (Disks.key a)) ≠ .string (Disks.key b) := fun e => h (Disks.key_inj (by simpa using e))
theorem tab_put {l : List FileL} {D : DataW Unit} (h : TabIs l D) (hD : IsMap D) (f : FileL) : TabIs (Disks.put l f) (D.put (.string (Disks.key f.1)) (fdat f.1 f.2)) := by
  refine ⟨fun n => ?_, fun e he z => ?_⟩
  · by_cases hn : n = f.1
    · rw [hn, has_put_same hD (show WideAt.IsKeyLit (.string _) from trivial)]
      symm
      rw [Disks.any_name]
      exact ⟨f, Disks.put_mem_iff.2 (Or.inl rfl), rfl⟩
    · rw [has_put_other (key_ne hn), h.has, Bool.eq_iff_iff, Disks.any_name, Disks.any_name]
      constructor
      · rintro ⟨e, he, q⟩; exact ⟨e, Disks.put_mem_iff.2 (Or.inr ⟨he, by rw [q]; exact hn⟩), q⟩
      · rintro ⟨e, he, q⟩
        rcases Disks.put_mem_iff.1 he with rfl | ⟨he, _⟩
        · exact absurd q.symm hn
        · exact ⟨e, he, q⟩
  · rcases Disks.put_mem_iff.1 he with rfl | ⟨he, hne⟩
    · exact atKey_put_same hD (show WideAt.IsKeyLit (.string _) from trivial) _ _
    · rw [atKey_put_other (key_ne hne)]; exact h.elem e he z
theorem own_tight {w : World} {k : TypeId} {R : Value → Option (DataW Unit × List MemPlace)} {b n : Nat} {D : DataW Unit} (h : w.ownsMap Tryz.prog k R b n D) : w.ownsMap Tryz.prog k R b (Maps.size D) D := by
  obtain ⟨es, clock, hb, F, hs, rfl⟩ := h
  exact ⟨es, clock, hb, F, by simp [Maps.size, length_sorted], rfl⟩
/-- Block b is a map of just these files, by their names. -/
def Table (w : World) (b : Nat) (l : List FileL) : Prop := ∃ D, w.ownsMap Tryz.prog 9 fileElem b (Maps.size D) D ∧ TabIs l D
theorem Table.kept {w w' : World} {b : Nat} {l : List FileL} {row : Option Nat} (h : Table w b l) (hg : w.grownBy w' row) (hne : some b ≠ row) : Table w' b l := by
  obtain ⟨D, h1, h2⟩ := h; exact ⟨D, h1.kept hg hne, h2⟩
theorem Table.below {w w' : World} {b : Nat} {l : List FileL} (h : Table w b l) (hb : Below w.heap.size w w') : Table w' b l :=
  h.kept (row := none) ⟨hb.os, hb.tape, hb.output, hb.size, fun k hk _ => hb.block k hk⟩ (by simp)
theorem Table.alloc {w : World} {b : Nat} {l : List FileL} (h : Table w b l) (o : Obj) : Table (w.alloc o) b l := by
  obtain ⟨D, h1, h2⟩ := h; exact ⟨D, h1.alloc o, h2⟩
theorem tab_keys {w : World} {b n : Nat} {l : List FileL} {D : DataW Unit} (ha : Disks.asc l) (h1 : w.ownsMap Tryz.prog 9 fileElem b n D) (h2 : TabIs l D) : (l.map fun f => Disks.key f.1).Perm (strKeys D) := by
  obtain ⟨es, hD, hpw, _⟩ := h1.entries strK
  obtain ⟨es', hD', hko⟩ := h1.keysOf
  obtain rfl : es = es' := by rw [hD] at hD'; simpa using hD'
  subst hD
  refine perm_strKeys hpw (fun p hp => by obtain ⟨v, hv⟩ := hko p hp; obtain ⟨x, _, hx, _⟩ := Maps.keyOf_str Tryz.underlying9 hv; exact ⟨x, hx⟩) (Disks.asc_keys ha) (fun x => ?_)
  have e := h2.has ⟨x.toArray⟩
  have ek : Disks.key ⟨x.toArray⟩ = x := by simp [Disks.key]
  rw [ek] at e
  rw [e, Disks.any_name, List.mem_map]
  exact ⟨fun ⟨f, hf, q⟩ => ⟨f, hf, by rw [← q] at ek; exact Disks.key_inj (by rw [ek, q])⟩, fun ⟨f, hf, q⟩ => ⟨f, hf, by rw [q, ek]⟩⟩
theorem tab_size {w : World} {b n : Nat} {l : List FileL} {D : DataW Unit} (ha : Disks.asc l) (h1 : w.ownsMap Tryz.prog 9 fileElem b n D) (h2 : TabIs l D) : Maps.size D = l.length := by
  have := (tab_keys ha h1 h2).length_eq
  obtain ⟨es, hD, _⟩ := h1.entries strK
  subst hD
  simpa [strKeys, Maps.size] using this.symm
theorem tab_look {l : List FileL} {D : DataW Unit} (h : TabIs l D) (n : ByteArray) : Maps.has D (.string (Disks.key n)) = (Disks.look l n).2 ∧ D.atKey (.string (Disks.key n)) (fdat ⟨#[]⟩ ⟨#[]⟩) = fdat (Disks.look l n).1.1 (Disks.look l n).1.2 := by
  refine ⟨by rw [h.has, Disks.look_any], ?_⟩
  cases e : (Disks.look l n).2
  · rw [Disks.look_none e]
    exact atKey_of_not_has (by rw [h.has, ← Disks.look_any, e]) _
  · obtain ⟨h1, h2⟩ := Disks.look_some e
    have := h.elem _ h1 (fdat ⟨#[]⟩ ⟨#[]⟩)
    rw [h2] at this
    rw [this, h2]
set_option maxRecDepth 100000 in
theorem zero68 (w : World) : (zeroValue 164).run Tryz.prog w = .ok (.agg #[.string ⟨#[]⟩, .string ⟨#[]⟩]) w := by kernel_rfl
theorem keyS {n : ByteArray} (h : n.size ≤ maxLen) : keyOf Tryz.prog 9 (.string n) = some (.string (Disks.key n)) := WideMaps.keyOf_string_mk Tryz.underlying9 h
section
variable {ops : Array Oper} {rest : List Oper} {o : Oper} {a : Act} {Q : Exit → Act → World → Prop}
/-- 'f, there := t[n]' -/
theorem wpList_look_tab (w : World) (hg : o.guard = none) (m x : Operand) (hop : o.op = Op.lookup 129 m x true) (b : Nat) (l : List FileL) (n : ByteArray) (hn : n.size ≤ maxLen) (hT : Table w b l) (A T : ByteArray) (B : Bool) (hl : Disks.look l n = ((A, T), B)) (hm : a.eval m = .map (some b)) (hx : a.eval x = .string n)
    (hK : wpList Tryz.prog ops Q rest (a.put o.dst (.tuple #[.agg #[.string A, .string T], .bool B])) w) : wpList Tryz.prog ops Q (o :: rest) a w := by
  obtain ⟨D, hown, ht⟩ := hT
  obtain ⟨e1, e2⟩ := tab_look ht n
  rw [hl] at e1 e2
  simp only at e1 e2
  refine wpList_lookup_own_ok w hg m x 129 hop 9 164 strK Tryz.underlying129 fileElem (zero68 w) (fdat ⟨#[]⟩ ⟨#[]⟩) [] (fileElem_mk _ _) b (Maps.size D) D hm hown (.string n) (.string (Disks.key n)) hx (keyS hn) fun v ps hv => ?_
  obtain ⟨n', t', rfl, hv2⟩ := fileElem_inv hv
  rw [e2] at hv2
  obtain ⟨q1, q2⟩ := fdat_inj (congrArg Prod.fst hv2)
  rw [e1, ← q1, ← q2]
  exact hK
/-- 't[n] = f' -/
theorem wpList_put_tab (w : World) (hg : o.guard = none) (m x v : Operand) (hop : o.op = Op.mapUpdate 129 m x v) (b : Nat) (l : List FileL) (ha : Disks.asc l) (hl : l.length ≤ 1000) (n t : ByteArray) (hn : n.size ≤ maxLen) (hT : Table w b l) (hm : a.eval m = .map (some b)) (hx : a.eval x = .string n)
    (hv : a.eval v = .agg #[.string n, .string t])
    (hK : ∀ w', Table w' b (Disks.put l (n, t)) → w.grownBy w' (some b) → w'.heap.size = w.heap.size → wpList Tryz.prog ops Q rest (a.put o.dst undef) w') : wpList Tryz.prog ops Q (o :: rest) a w := by
  obtain ⟨D, hown, ht⟩ := hT
  have hs := tab_size ha hown ht
  refine wpList_mapUpdate_in w hg m x v 129 hop 9 164 strK Tryz.underlying129 fileElem b (Maps.size D) D hm hown (by rw [hs]; unfold maxLen; omega) (.string n) (.agg #[.string n, .string t]) (.string (Disks.key n)) hx hv (keyS hn) (fdat n t) [] (fileElem_mk _ _) fun w' h1 h2 => ?_
  refine hK w' ⟨_, own_tight h1, tab_put ht hown.isMap (n, t)⟩ h2.grown ?_
  obtain ⟨_, _, _, _, _, rfl⟩ := h2
  simp [ChangeMaps.setBlock]
end
/-- A new map. -/
theorem table_made (w : World) : Table (w.alloc (.map #[] 0)) w.heap.size [] := ⟨.map [], own_tight (World.ownsMap_made w Tryz.prog 9 fileElem), tab_nil⟩
theorem make_tab (n : Int) (w : World) : (Instr.makeMap 129 (some (.int .i64 n))).run Tryz.prog w = .ok (.map (some w.heap.size)) (w.alloc (.map #[] 0)) := by
  simp [Instr.makeMap, run_underlying Tryz.underlying129, Result.andThen, go_sem]
end Go.Proofs.YtbcfiiilikkkeaaGreatDoor
namespace Go.Proofs.YtbcfiiilikkkeaaGreatDoor
open Go.RowKit

theorem sizes_of_tot {l : List FileL} (h : tot l ≤ 1048576) : l.length ≤ 1048576 ∧ ∀ f ∈ l, f.1.size ≤ 1048576 ∧ f.2.size ≤ 1048576 :=
  ⟨Nat.le_trans (tot_len l) h, fun f hf => by have := tot_mem hf; omega⟩

end Go.Proofs.YtbcfiiilikkkeaaGreatDoor
namespace Go.Proofs.YtbcfiiilikkkeaaGreatDoor
open Go.RowKit

set_option maxHeartbeats 400000 in
theorem fileOk_yes (n t : ByteArray) (h : Disks.fileOk (n, t)) (w : World) :
    Calls Tryz.prog 198 #[.agg #[.string n, .string t]] w fun e w' => e = .returned (.bool true) ∧ Below w.heap.size w w' := by
  obtain ⟨h1, h2, h3⟩ := h
  simp only at h1 h2 h3
  have a1 : (1 : Int) ≤ (n.size : Int) := by omega
  have a2 : (n.size : Int) ≤ 12 := by omega
  have a3 : (t.size : Int) ≤ 20000 := by omega
  go_enter Tryz.func198, Tryz.ntmps198
  go_wp2
  go_ret
  exact ⟨rfl, (Below.refl _ _).alloc (Nat.le_refl _) _⟩
set_option maxHeartbeats 400000 in
theorem fileOk_no (n t : ByteArray) (hn : n.size ≤ 2097152) (ht : t.size ≤ 2097152) (h : ¬ Disks.fileOk (n, t)) (w : World) :
    Calls Tryz.prog 198 #[.agg #[.string n, .string t]] w fun e w' => e = .returned (.bool false) ∧ Below w.heap.size w w' := by
  by_cases h1 : 1 ≤ n.size
  · by_cases h2 : n.size ≤ 12
    · have h3 : ¬ t.size ≤ 20000 := fun h3 => h ⟨h1, h2, h3⟩
      have a1 : (1 : Int) ≤ (n.size : Int) := by omega
      have a2 : (n.size : Int) ≤ 12 := by omega
      have a3 : ¬ (t.size : Int) ≤ 20000 := by omega
      clear h
      go_enter Tryz.func198, Tryz.ntmps198
      go_wp2
      go_ret
      exact ⟨rfl, (Below.refl _ _).alloc (Nat.le_refl _) _⟩
    · have a1 : (1 : Int) ≤ (n.size : Int) := by omega
      have a2 : ¬ (n.size : Int) ≤ 12 := by omega
      clear h
      go_enter Tryz.func198, Tryz.ntmps198
      go_wp2
      go_ret
      exact ⟨rfl, (Below.refl _ _).alloc (Nat.le_refl _) _⟩
  · have a1 : ¬ (1 : Int) ≤ (n.size : Int) := by omega
    clear h
    go_enter Tryz.func198, Tryz.ntmps198
    go_wp2
    go_ret
    exact ⟨rfl, (Below.refl _ _).alloc (Nat.le_refl _) _⟩

theorem file_is_ok {f : FileL} {A T : ByteArray} (h1 : A = f.1) (h2 : T = f.2) (h : Disks.fileOk (A, T)) : Disks.fileOk f := by subst h1 h2; exact h
theorem ok_is_file {f : FileL} {A T : ByteArray} (h1 : A = f.1) (h2 : T = f.2) (h : Disks.fileOk f) : Disks.fileOk (A, T) := by subst h1 h2; exact h

set_option maxHeartbeats 4000000 in
set_option maxRecDepth 100000 in
theorem implDiskOk_any (R : Bool) {a : Option Addr} {g off cap : Nat} (l : List FileL) (hlen : l.length ≤ 1048576) (w : World) (hf : FilesAt w a g off l) (hsz : ∀ f ∈ l, f.1.size ≤ 1048576 ∧ f.2.size ≤ 1048576) (hR : R = true ↔ Disks.ok l) :
    Calls Tryz.prog 155 #[.agg #[.slice a l.length cap]] w fun e w' => e = .returned (.bool R) ∧ Below w.heap.size w w' := by
  have HR : Hid (R = true ↔ Disks.ok l) := hR
  clear hR
  have HF : Hid (FilesAt w a g off l) := hf
  have HS : Hid (∀ f ∈ l, f.1.size ≤ 1048576 ∧ f.2.size ≤ 1048576) := hsz
  clear hf hsz
  by_cases h30 : 30 < l.length
  · have h1 : (30 : Int) < (l.length : Int) := by omega
    go_enter Tryz.func155, Tryz.ntmps155
    go_wp2
    go_ret
    exact ⟨by rw [ans_no HR.out (fun h => by have := h.1; omega)]; rfl, (Below.refl _ _).alloc (Nat.le_refl _) _⟩
  · have h1 : ¬ (30 : Int) < (l.length : Int) := by omega
    go_enter Tryz.func155, Tryz.ntmps155
    go_wp2
    go_loopw [12] (fun i wr => ∃ k : Nat, k ≤ l.length ∧ i = .int .i64 (k : Int) ∧ (∀ j, j < k → Disks.okAt l j) ∧ wr.cell? ⟨w.heap.size, 0, none⟩ = some (.slice a l.length cap) ∧ Below w.heap.size w wr ∧ w.heap.size < wr.heap.size)
      (fun i _ => l.length - (intOf i).toNat)
    case atStart => exact ⟨0, Nat.zero_le _, rfl, fun j hj => absurd hj (Nat.not_lt_zero _), cell_of_row _ _ _ _ _ _ (heap_alloc_new w _), (Below.refl _ _).alloc (Nat.le_refl _) _, by simp⟩
    case round =>
      obtain ⟨k, hk, rfl, hall, hd, hbel, hz⟩ := hrel
      have HA : Hid (∀ j, j < k → Disks.okAt l j) := hall
      clear hall
      by_cases hlt : k < l.length
      · obtain ⟨c0, c1⟩ := (HF.out.kept hbel).2 k hlt
        have ea := HF.out.1 (by omega)
        subst ea
        obtain ⟨A, hA⟩ : ∃ A, A = l[k].1 := ⟨_, rfl⟩
        obtain ⟨T, hT⟩ : ∃ T, T = l[k].2 := ⟨_, rfl⟩
        obtain ⟨s0, s1⟩ := HS.out l[k] (List.getElem_mem _)
        rw [← hA] at c0 s0
        rw [← hT] at c1 s1
        have HAA : Hid (A = l[k].1) := hA
        have HTT : Hid (T = l[k].2) := hT
        clear hA hT
        have hk0 : (0 : Int) ≤ (k : Int) := by omega
        have hk1 : (k : Int) < (l.length : Int) := by omega
        by_cases hn : Disks.fileOk (A, T)
        · rcases Nat.eq_zero_or_pos k with hz0 | hp
          · have hkd : decide (0 < k) = false := decide_eq_false (by omega)
            have HN : Hid (Disks.okAt l k) := ⟨hlt, file_is_ok HAA.out HTT.out hn, fun h => absurd h (by omega)⟩
            have HZ : Hid (k = 0) := hz0
            clear hz0
            go_wp2
            obtain ⟨W1, hW1⟩ : ∃ W1, W1 = wr.alloc (Obj.cells #[Value.string A, Value.string T] 164) := ⟨_, rfl⟩
            rw [← hW1]
            have hB1 : Below wr.heap.size wr W1 := by rw [hW1]; exact (Below.refl _ _).alloc (Nat.le_refl _) _
            have f0 : W1.cell? ⟨wr.heap.size, 0, none⟩ = some (.string A) := by rw [hW1]; exact cell_of_row _ _ 0 _ _ _ (heap_alloc_new wr _)
            have f1 : W1.cell? ⟨wr.heap.size, 1, none⟩ = some (.string T) := by rw [hW1]; exact cell_of_row _ _ 1 _ _ _ (heap_alloc_new wr _)
            have hz1 : wr.heap.size < W1.heap.size := World.block_lt_of_cell? W1 _ f0
            have hd1 : W1.cell? ⟨w.heap.size, 0, none⟩ = some (.slice (some ⟨g, off, none⟩) l.length cap) := by rw [hB1.cell (p := ⟨w.heap.size, 0, none⟩) hz]; exact hd
            have hw1 : Below w.heap.size w W1 := hbel.trans (hB1.mono hbel.size)
            have hzz : w.heap.size < W1.heap.size := Nat.lt_trans hz hz1
            clear hW1 hd c0 c1
            have NE := Abv.ne W1
            have F0 := fun x : Abv W1 => x.cell f0
            have F1 := fun x : Abv W1 => x.cell f1
            have FD := fun x : Abv W1 => x.cell hd1
            refine wp_region_above (by kernel_rfl) (by kernel_rfl) ?_
            repeat (go_big_quiet_step (first | (go_at_call 198; exact calls_above (fileOk_yes A T hn _))))
            refine wpQuiet_nil ?_
            rintro w1 ⟨⟨_, hb1⟩, rfl⟩
            go_wp2
            go_roundw
            case rel => exact ⟨k + 1, by omega, by go_num, Disks.ok_step HA.out HN.out, (hb1.cell (p := ⟨w.heap.size, 0, none⟩) hzz).trans hd1, hw1.trans (hb1.mono hw1.size), Nat.lt_of_lt_of_le hzz hb1.size⟩
            case measure => simp [intOf]; omega
          · obtain ⟨m, rfl⟩ : ∃ m, k = m + 1 := ⟨k - 1, by omega⟩
            obtain ⟨e0, _⟩ := (HF.out.kept hbel).2 m (by omega)
            obtain ⟨E, hE⟩ : ∃ E, E = l[m].1 := ⟨_, rfl⟩
            rw [← hE] at e0
            have HEE : Hid (E = l[m].1) := hE
            clear hE
            have hm1 : IntKind.i64.wrap ((m : Int) + 1 - 1) = (m : Int) := by rw [IntWalk.i64_in _ (by omega)]; omega
            have hm2 : decide ((0 : Int) < (m : Int) + 1) = true := decide_eq_true (by omega)
            have hm3 : (0 : Int) ≤ (m : Int) := by omega
            have hm4 : (m : Int) < (l.length : Int) := by omega
            have hg : g < wr.heap.size := World.block_lt_of_cell? wr _ e0
            go_wp2
            obtain ⟨W1, hW1⟩ : ∃ W1, W1 = wr.alloc (Obj.cells #[Value.string A, Value.string T] 164) := ⟨_, rfl⟩
            rw [← hW1]
            have hB1 : Below wr.heap.size wr W1 := by rw [hW1]; exact (Below.refl _ _).alloc (Nat.le_refl _) _
            have f0 : W1.cell? ⟨wr.heap.size, 0, none⟩ = some (.string A) := by rw [hW1]; exact cell_of_row _ _ 0 _ _ _ (heap_alloc_new wr _)
            have f1 : W1.cell? ⟨wr.heap.size, 1, none⟩ = some (.string T) := by rw [hW1]; exact cell_of_row _ _ 1 _ _ _ (heap_alloc_new wr _)
            have hz1 : wr.heap.size < W1.heap.size := World.block_lt_of_cell? W1 _ f0
            have hd1 : W1.cell? ⟨w.heap.size, 0, none⟩ = some (.slice (some ⟨g, off, none⟩) l.length cap) := by rw [hB1.cell (p := ⟨w.heap.size, 0, none⟩) hz]; exact hd
            have hw1 : Below w.heap.size w W1 := hbel.trans (hB1.mono hbel.size)
            have hzz : w.heap.size < W1.heap.size := Nat.lt_trans hz hz1
            clear hW1 hd c0 c1
            have e1 : W1.cell? ⟨g, off + m * 2, none⟩ = some (.string E) := by rw [hB1.cell (p := ⟨g, off + m * 2, none⟩) hg]; exact e0
            have hg1 : g < W1.heap.size := Nat.lt_of_lt_of_le hg hB1.size
            clear e0 hg
            by_cases hb : Op.bytesLess E.toList A.toList = true
            · have HN : Hid (Disks.okAt l (m + 1)) := ⟨hlt, file_is_ok HAA.out HTT.out hn, fun _ => ⟨by omega, by show Op.bytesLess _ _ = true; rw [← HAA.out]; simp only [Nat.add_sub_cancel]; rw [← HEE.out]; exact hb⟩⟩
              have NE := Abv.ne W1
              have F0 := fun x : Abv W1 => x.cell f0
              have F1 := fun x : Abv W1 => x.cell f1
              have FD := fun x : Abv W1 => x.cell hd1
              have FE := fun x : Abv W1 => x.cell e1
              refine wp_region_above (by kernel_rfl) (by kernel_rfl) ?_
              repeat (go_big_quiet_step (first | (go_at_call 198; exact calls_above (fileOk_yes A T hn _))))
              refine wpQuiet_nil ?_
              rintro w1 ⟨⟨_, hb1⟩, rfl⟩
              go_wp2
              go_roundw
              case rel => exact ⟨m + 1 + 1, by omega, by go_num, Disks.ok_step HA.out HN.out, (hb1.cell (p := ⟨w.heap.size, 0, none⟩) hzz).trans hd1, hw1.trans (hb1.mono hw1.size), Nat.lt_of_lt_of_le hzz hb1.size⟩
              case measure => simp [intOf]; omega
            · have hb' : Op.bytesLess E.toList A.toList = false := by simpa using hb
              have HN : Hid (¬ Disks.okAt l (m + 1)) := by
                show ¬ _
                rintro ⟨_, _, q⟩
                obtain ⟨_, q2⟩ := q (by omega)
                simp only [Nat.add_sub_cancel, Disks.lt] at q2
                rw [← HAA.out, ← HEE.out] at q2
                exact hb q2
              clear hb
              have NE := Abv.ne W1
              have F0 := fun x : Abv W1 => x.cell f0
              have F1 := fun x : Abv W1 => x.cell f1
              have FD := fun x : Abv W1 => x.cell hd1
              have FE := fun x : Abv W1 => x.cell e1
              refine wp_region_above (by kernel_rfl) (by kernel_rfl) ?_
              repeat (go_big_quiet_step (first | (go_at_call 198; exact calls_above (fileOk_yes A T hn _))))
              refine wpQuiet_nil ?_
              rintro w1 ⟨⟨_, hb1⟩, rfl⟩
              go_wp2
              go_ret
              exact ⟨by rw [ans_no HR.out (Disks.not_ok hlt HN.out)]; rfl, hw1.trans (hb1.mono hw1.size)⟩
        · have HN : Hid (¬ Disks.okAt l k) := by
            show ¬ _
            rintro ⟨_, q, _⟩
            exact hn (ok_is_file HAA.out HTT.out q)
          go_wp2
          obtain ⟨W1, hW1⟩ : ∃ W1, W1 = wr.alloc (Obj.cells #[Value.string A, Value.string T] 164) := ⟨_, rfl⟩
          rw [← hW1]
          have hB1 : Below wr.heap.size wr W1 := by rw [hW1]; exact (Below.refl _ _).alloc (Nat.le_refl _) _
          have f0 : W1.cell? ⟨wr.heap.size, 0, none⟩ = some (.string A) := by rw [hW1]; exact cell_of_row _ _ 0 _ _ _ (heap_alloc_new wr _)
          have f1 : W1.cell? ⟨wr.heap.size, 1, none⟩ = some (.string T) := by rw [hW1]; exact cell_of_row _ _ 1 _ _ _ (heap_alloc_new wr _)
          have hz1 : wr.heap.size < W1.heap.size := World.block_lt_of_cell? W1 _ f0
          have hd1 : W1.cell? ⟨w.heap.size, 0, none⟩ = some (.slice (some ⟨g, off, none⟩) l.length cap) := by rw [hB1.cell (p := ⟨w.heap.size, 0, none⟩) hz]; exact hd
          have hw1 : Below w.heap.size w W1 := hbel.trans (hB1.mono hbel.size)
          have hzz : w.heap.size < W1.heap.size := Nat.lt_trans hz hz1
          clear hW1 hd c0 c1
          have NE := Abv.ne W1
          have F0 := fun x : Abv W1 => x.cell f0
          have F1 := fun x : Abv W1 => x.cell f1
          have FD := fun x : Abv W1 => x.cell hd1
          refine wp_region_above (by kernel_rfl) (by kernel_rfl) ?_
          repeat (go_big_quiet_step (first | (go_at_call 198; exact calls_above (fileOk_no A T (by omega) (by omega) hn _))))
          refine wpQuiet_nil ?_
          rintro w1 ⟨⟨_, hb1⟩, rfl⟩
          go_wp2
          go_ret
          exact ⟨by rw [ans_no HR.out (Disks.not_ok hlt HN.out)]; rfl, hw1.trans (hb1.mono hw1.size)⟩
      · have hk1 : ¬ (k : Int) < (l.length : Int) := by omega
        go_wp2
        go_ret
        exact ⟨by rw [HR.out.2 ⟨by omega, fun j hj => HA.out j (by omega)⟩]; rfl, hbel⟩
end Go.Proofs.YtbcfiiilikkkeaaGreatDoor
