/- Disks copied: toFile, toFileS, toDisk, walked. Disks held against each other: eqFile, eqFileS, eqDisk at the same files, walked. What a law holds while it calls: its variables, its rows of files. Rows of raw writes in memory: four cells each; the call of the specification's PutRaws, walked. -/
import Derived.Test.YtjpokcjpogkafaaGreatDoorReader
import Derived.Test.YtjpokcjpogkafaaGreatDoorFiles
import Derived.Deep.RegionWith
import Derived.Deep.QuietTactic
import Derived.BigQuiet
import Derived.Deep.RegionHeld3
import Derived.Test.YtjpokcjpogkafaaGreatDoorPutRaw
import Derived.Test.YtjpokcjpogkafaaGreatDoorMathMan
import Derived.Deep.DeepCutAuto
namespace Go.Proofs.YtjpokcjpogkafaaGreatDoor
open Go.RowKit

set_option maxHeartbeats 1000000 in
theorem toFile_any (n t : ByteArray) (w : World) :
    Calls Tryz.prog 104 #[.agg #[.string n, .string t]] w fun e w' => e = .returned (.agg #[.string n, .string t]) ∧ Below w.heap.size w w' := by
  go_enter Tryz.func104, Tryz.ntmps104
  go_wp2
  refine bodyPost_ret (v := .agg #[.string n, .string t]) (by simp [results, Tryz.results104, go_sem]) rfl ⟨rfl, ?_⟩
  exact (((Below.refl _ _).alloc (Nat.le_refl _) _).alloc (by simp) _).alloc (by simp; omega) _

set_option maxHeartbeats 1000000 in
set_option maxRecDepth 100000 in
theorem toFileS_any {a : Option Addr} {g off cap : Nat} (l : List FileL) (hlen : l.length ≤ 1048576) (w : World) (hf : FilesAt w a g off l) :
    Calls Tryz.prog 45 #[.slice a l.length cap] w fun e w' => e = .returned (.slice (some ⟨w.heap.size, 0, none⟩) l.length l.length) ∧
      w'.ownsRow w.heap.size 89 2 (.slice (some ⟨w.heap.size, 0, none⟩) l.length l.length) l.length (cellsF l) ∧ Below w.heap.size w w' := by
  obtain ⟨i0, hi, hz0, hz1, hz2⟩ := info_parts Tryz.info89
  have HF : Hid (FilesAt w a g off l) := hf
  clear hf
  go_enter Tryz.func45, Tryz.ntmps45
  go_wp2_with (at_make; refine wpList_make_full _ rfl _ _ 35 rfl w.heap.size 89 i0 (.agg #[.string ByteArray.empty, .string ByteArray.empty]) 2 Tryz.underlying35 hi hz0 hz1 _ _ _ _ l.length rfl rfl (by omega) (by omega) ?b2 ?b3 (Nat.le_refl _) ?_)
  case b2 => rw [hz2]; omega
  case b3 => unfold maxLen; omega
  intro w0 hown0 hgrow0
  have hbel0 : Below w.heap.size w w0 := (Below.refl _ _).grown hgrow0 (Nat.le_refl _) (by simp)
  rw [made_files] at hown0
  clear hgrow0
  go_wp2
  go_loopw [4] (fun i wr => ∃ (k : Nat) (pre : List FileL), k ≤ l.length ∧ i = .int .i64 (k : Int) ∧ pre.length = l.length ∧ pre.take k = l.take k ∧
      wr.ownsRow w.heap.size 89 2 (.slice (some ⟨w.heap.size, 0, none⟩) l.length l.length) l.length (cellsF pre) ∧ Below w.heap.size w wr)
    (fun i _ => l.length - (intOf i).toNat)
  case atStart => exact ⟨0, _, Nat.zero_le _, rfl, by simp, by simp, hown0, hbel0⟩
  case round =>
    obtain ⟨k, pre, hk, rfl, hpl, hpt, hown, hbel⟩ := hrel
    have HL : Hid (pre.length = l.length) := hpl
    have HT : Hid (pre.take k = l.take k) := hpt
    clear hpl hpt hown0 hbel0
    by_cases hlt : k < l.length
    · obtain ⟨c0, c1⟩ := (HF.out.kept hbel).2 k hlt
      have ea := HF.out.1 (by omega)
      subst ea
      have hgz := HF.out.lt (by omega)
      obtain ⟨A, hA⟩ : ∃ A, A = l[k].1 := ⟨_, rfl⟩
      obtain ⟨T, hT⟩ : ∃ T, T = l[k].2 := ⟨_, rfl⟩
      rw [← hA] at c0
      rw [← hT] at c1
      have HAT : Hid (l[k] = (A, T)) := by show _ = _; rw [hA, hT]
      clear hA hT
      have hk0 : (0 : Int) ≤ (k : Int) := by omega
      have hk1 : (k : Int) < (l.length : Int) := by omega
      go_wp2_with fail
      refine (toFile_any A T wr).mono ?_
      rintro e w1 ⟨rfl, hb1⟩
      have hown1 := own_kept hown hb1
      have hbel1 : Below w.heap.size w w1 := hbel.trans (hb1.mono hbel.size)
      have hf0 := hown1.frozenAt (k * 2)
      have hf1 := hown1.frozenAt (k * 2 + 1)
      obtain ⟨u0, hu0⟩ : ∃ u0, w1.cell? ⟨w.heap.size, k * 2, none⟩ = some u0 := by
        rw [hown1.cellAt (k * 2) (by omega)]
        exact ⟨_, (cellsF_at pre k (by rw [HL.out]; exact hlt)).1⟩
      obtain ⟨u1, hu1⟩ : ∃ u1, w1.cell? ⟨w.heap.size, k * 2 + 1, none⟩ = some u1 := by
        rw [hown1.cellAt (k * 2 + 1) (by omega)]
        exact ⟨_, (cellsF_at pre k (by rw [HL.out]; exact hlt)).2⟩
      have hst := (hown1.stored (k * 2) (.string A)).1.stored (k * 2 + 1) (.string T)
      rw [← cellsF_set pre k (A, T)] at hst
      have HST : Hid (_ ∧ _) := hst
      clear hst
      go_wp2
      go_roundw
      case rel => exact ⟨k + 1, pre.set k (A, T), by omega, by go_num, by rw [List.length_set]; exact HL.out, take_set_step hlt HL.out HT.out HAT.out, HST.out.1, (hbel1.setCell (Nat.le_refl _) _).setCell (Nat.le_refl _) _⟩
      case measure => simp [intOf]; omega
    · have hk1 : ¬ (k : Int) < (l.length : Int) := by omega
      have HE : Hid (pre = l) := by
        show _ = _
        have h := HT.out
        rwa [List.take_of_length_le (by rw [HL.out]; omega), List.take_of_length_le (by omega)] at h
      go_wp2
      go_ret
      exact ⟨rfl, by rw [HE.out] at hown; exact hown, hbel⟩

set_option maxHeartbeats 1000000 in
theorem toDisk_any {a : Option Addr} {g off cap : Nat} (l : List FileL) (hlen : l.length ≤ 1048576) (w : World) (hf : FilesAt w a g off l) :
    Calls Tryz.prog 9 #[.agg #[.slice a l.length cap]] w fun e w' => ∃ g' : Nat, e = .returned (.agg #[.slice (some ⟨g', 0, none⟩) l.length l.length]) ∧ w.heap.size ≤ g' ∧
      w'.ownsRow w.heap.size 89 2 (.slice (some ⟨g', 0, none⟩) l.length l.length) l.length (cellsF l) ∧ Below w.heap.size w w' := by
  have HF : Hid (FilesAt w a g off l) := hf
  clear hf
  go_enter Tryz.func9, Tryz.ntmps9
  go_wp2_with fail
  obtain ⟨W, hW⟩ : ∃ W, W = (((w.alloc (Obj.cells #[Value.slice a l.length cap] 24)).alloc (Obj.cells #[Value.slice none 0 0] 37)).alloc (Obj.cells #[Value.slice none 0 0] 37)) := ⟨_, rfl⟩
  rw [← hW]
  have hWs : W.heap.size = w.heap.size + 3 := by rw [hW]; simp
  have hWb : Below w.heap.size w W := by rw [hW]; exact (((Below.refl _ _).alloc (Nat.le_refl _) _).alloc (by simp) _).alloc (by simp; omega) _
  have b2 : W.heap[w.heap.size + 1 + 1]? = some (.cells #[.slice none 0 0] 37 (0, 0)) := by
    rw [hW]; have := heap_alloc_new ((w.alloc (Obj.cells #[Value.slice a l.length cap] 24)).alloc (Obj.cells #[Value.slice none 0 0] 37)) (Obj.cells #[Value.slice none 0 0] 37); simpa using this
  have b1 : W.heap[w.heap.size + 1]? = some (.cells #[.slice none 0 0] 37 (0, 0)) := by
    rw [hW, Below.heap_alloc _ _ _ (by simp)]
    have := heap_alloc_new (w.alloc (Obj.cells #[Value.slice a l.length cap] 24)) (Obj.cells #[Value.slice none 0 0] 37); simpa using this
  clear hW
  refine (toFileS_any l hlen W (HF.out.kept hWb)).mono ?_
  rintro e w1 ⟨rfl, hown, hb1⟩
  rw [hWs] at hown ⊢
  rw [← hb1.block _ (by omega)] at b1 b2
  have c1 : w1.cell? ⟨w.heap.size + 1, 0, none⟩ = some (.slice none 0 0) := by simp [World.cell?, b1]
  have c2 : w1.cell? ⟨w.heap.size + 1 + 1, 0, none⟩ = some (.slice none 0 0) := by simp [World.cell?, b2]
  have f1 : w1.frozen? ⟨w.heap.size + 1, 0, none⟩ = false := by simp [World.frozen?, b1]
  have f2 : w1.frozen? ⟨w.heap.size + 1 + 1, 0, none⟩ = false := by simp [World.frozen?, b2]
  have hB : Below w.heap.size w w1 := hWb.trans (hb1.mono (by omega))
  clear b1 b2 hWb hb1
  have hr := cell_set2 (p := ⟨w.heap.size + 1 + 1, 0, none⟩) (x := .slice (some ⟨w.heap.size + 3, 0, none⟩) l.length l.length) (y := .slice (some ⟨w.heap.size + 3, 0, none⟩) l.length l.length) c1
  go_wp2
  refine bodyPost_ret (v := .agg #[.slice (some ⟨w.heap.size + 3, 0, none⟩) l.length l.length]) (by simp [results, Tryz.results9, go_sem, hr]) rfl ⟨w.heap.size + 3, rfl, by omega, ?_, ?_⟩
  · exact own_set (own_set (own_mono hown (by omega)) _ _ _ (by simp [Value.ownBlock])) _ _ _ (by simp [Value.ownBlock])
  · exact (hB.setCell (by simp; omega) _).setCell (by simp) _
end Go.Proofs.YtjpokcjpogkafaaGreatDoor
namespace Go.Proofs.YtjpokcjpogkafaaGreatDoor
open Go.RowKit

set_option maxHeartbeats 1000000 in
theorem eqFile_same (n t : ByteArray) (w : World) :
    Calls Tryz.prog 113 #[.agg #[.string n, .string t], .agg #[.string n, .string t]] w fun e w' => e = .returned (.bool true) ∧ Below w.heap.size w w' := by
  go_enter Tryz.func113, Tryz.ntmps113
  go_wp2
  go_ret
  exact ⟨rfl, ((Below.refl _ _).alloc (Nat.le_refl _) _).alloc (by simp) _⟩

set_option maxHeartbeats 1000000 in
set_option maxRecDepth 100000 in
theorem eqFileS_same {a b : Option Addr} {g off cap h off' cap' : Nat} (l : List FileL) (hlen : l.length ≤ 1048576) (w : World) (hf : FilesAt w a g off l) (hf' : FilesAt w b h off' l) :
    Calls Tryz.prog 51 #[.slice a l.length cap, .slice b l.length cap'] w fun e w' => e = .returned (.bool true) ∧ Below w.heap.size w w' := by
  have HF : Hid (FilesAt w a g off l) := hf
  have HF' : Hid (FilesAt w b h off' l) := hf'
  clear hf hf'
  go_enter Tryz.func51, Tryz.ntmps51
  go_wp2
  go_loopw [5] (fun i wr => ∃ k : Nat, k ≤ l.length ∧ i = .int .i64 (k : Int) ∧ Below w.heap.size w wr)
    (fun i _ => l.length - (intOf i).toNat)
  case atStart => exact ⟨0, Nat.zero_le _, rfl, Below.refl _ _⟩
  case round =>
    obtain ⟨k, hk, rfl, hbel⟩ := hrel
    by_cases hlt : k < l.length
    · obtain ⟨c0, c1⟩ := (HF.out.kept hbel).2 k hlt
      obtain ⟨d0, d1⟩ := (HF'.out.kept hbel).2 k hlt
      have ea := HF.out.1 (by omega)
      have eb := HF'.out.1 (by omega)
      subst ea eb
      have hgz := (HF.out.kept hbel).lt (by omega)
      have hhz := (HF'.out.kept hbel).lt (by omega)
      obtain ⟨A, hA⟩ : ∃ A, A = l[k].1 := ⟨_, rfl⟩
      obtain ⟨T, hT⟩ : ∃ T, T = l[k].2 := ⟨_, rfl⟩
      rw [← hA] at c0 d0
      rw [← hT] at c1 d1
      clear hA hT
      have hk0 : (0 : Int) ≤ (k : Int) := by omega
      have hk1 : (k : Int) < (l.length : Int) := by omega
      go_wp2
      go_region_held3 (fun w' => w'.cell? ⟨g, off + k * 2, none⟩ = some (.string A) ∧ w'.cell? ⟨g, off + k * 2 + 1, none⟩ = some (.string T) ∧ w'.cell? ⟨h, off' + k * 2, none⟩ = some (.string A) ∧ w'.cell? ⟨h, off' + k * 2 + 1, none⟩ = some (.string T)) (first | go_keep | exact ⟨(hb1.cell (p := ⟨g, off + k * 2, none⟩) hgz).trans c0, (hb1.cell (p := ⟨g, off + k * 2 + 1, none⟩) hgz).trans c1, (hb1.cell (p := ⟨h, off' + k * 2, none⟩) hhz).trans d0, (hb1.cell (p := ⟨h, off' + k * 2 + 1, none⟩) hhz).trans d1⟩) (first | (go_at_call 113; refine (eqFile_same A T _).mono ?_; rintro e w1 ⟨rfl, hb1⟩))
      all_goals
        go_wp2
        go_roundw
        case rel => exact ⟨k + 1, by omega, by go_num, (hbel.drew).trans (hb1.mono hbel.size)⟩
        case measure => simp [intOf]; omega
    · have hk1 : ¬ (k : Int) < (l.length : Int) := by omega
      go_wp2
      go_ret
      exact ⟨rfl, hbel⟩

set_option maxHeartbeats 1000000 in
theorem eqDisk_same {a b : Option Addr} {g off cap h off' cap' : Nat} (l : List FileL) (hlen : l.length ≤ 1048576) (w : World) (hf : FilesAt w a g off l) (hf' : FilesAt w b h off' l) :
    Calls Tryz.prog 13 #[.agg #[.slice a l.length cap], .agg #[.slice b l.length cap']] w fun e w' => e = .returned (.bool true) ∧ Below w.heap.size w w' := by
  have HF : Hid (FilesAt w a g off l) := hf
  have HF' : Hid (FilesAt w b h off' l) := hf'
  clear hf hf'
  go_enter Tryz.func13, Tryz.ntmps13
  go_wp2_with fail
  have hB : Below w.heap.size w ((w.alloc (Obj.cells #[Value.slice a l.length cap] 37)).alloc (Obj.cells #[Value.slice b l.length cap'] 37)) := ((Below.refl _ _).alloc (Nat.le_refl _) _).alloc (by simp) _
  refine (eqFileS_same l hlen _ (HF.out.kept hB) (HF'.out.kept hB)).mono ?_
  rintro e w1 ⟨rfl, hb1⟩
  have hB1 := hB.trans (hb1.mono hB.size)
  clear hb1 hB
  go_wp2
  go_ret
  exact ⟨rfl, hB1⟩
end Go.Proofs.YtjpokcjpogkafaaGreatDoor
namespace Go.Proofs.YtjpokcjpogkafaaGreatDoor
open Go.RowKit

structure LawSt (w : World) (bs : List (Nat × Obj)) (rows : List (Value × List FileL)) (W : World) : Prop where
  below : Below w.heap.size w W
  has : ∀ p ∈ bs, W.heap[p.1]? = some p.2
  own : ∀ p ∈ rows, W.ownsRow w.heap.size 89 2 p.1 p.2.length (cellsF p.2)
  sep : ∀ p ∈ bs, ∀ q ∈ rows, q.1.ownBlock ≠ some p.1
  apart : rows.Pairwise fun p q => p.1.ownBlock = none ∨ p.1.ownBlock ≠ q.1.ownBlock
  dist : bs.Pairwise fun p q => p.1 ≠ q.1
  up : ∀ p ∈ bs, w.heap.size ≤ p.1
theorem LawSt.bsz {w W : World} {bs : List (Nat × Obj)} {rows : List (Value × List FileL)} (h : LawSt w bs rows W) : ∀ p ∈ bs, p.1 < W.heap.size := fun p hp => (Array.getElem?_eq_some_iff.1 (h.has p hp)).1
theorem LawSt.rsz {w W : World} {bs : List (Nat × Obj)} {rows : List (Value × List FileL)} (h : LawSt w bs rows W) : ∀ q ∈ rows, ∀ k, q.1.ownBlock = some k → k < W.heap.size := fun q hq k hk => ((h.own q hq).lt k hk).2
theorem LawSt.step {w W W' : World} {bs : List (Nat × Obj)} {rows : List (Value × List FileL)} (h : LawSt w bs rows W) (hb : Below W.heap.size W W') : LawSt w bs rows W' :=
  ⟨h.below.trans (hb.mono h.below.size), fun p hp => (hb.block _ (h.bsz p hp)).trans (h.has p hp), fun p hp => own_kept (h.own p hp) hb, h.sep, h.apart, h.dist, h.up⟩
theorem LawSt.drew {w W : World} {bs : List (Nat × Obj)} {rows : List (Value × List FileL)} (h : LawSt w bs rows W) : LawSt w bs rows W.drew := ⟨h.below.drew, h.has, h.own, h.sep, h.apart, h.dist, h.up⟩
theorem LawSt.alloc {w W : World} {bs : List (Nat × Obj)} {rows : List (Value × List FileL)} (h : LawSt w bs rows W) (o : Obj) : LawSt w ((W.heap.size, o) :: bs) rows (W.alloc o) := by
  have hb : Below W.heap.size W (W.alloc o) := (Below.refl _ _).alloc (Nat.le_refl _) _
  have h2 := h.step hb
  refine ⟨h2.below, fun p hp => ?_, h2.own, fun p hp q hq => ?_, h.apart, List.Pairwise.cons (fun q hq => by have := h.bsz q hq; simp only; omega) h.dist, fun p hp => ?_⟩
  · rcases List.mem_cons.1 hp with rfl | hp
    · exact heap_alloc_new W o
    · exact h2.has p hp
  · rcases List.mem_cons.1 hp with rfl | hp
    · intro e
      have := h.rsz q hq _ e
      exact Nat.lt_irrefl _ this
    · exact h.sep p hp q hq
  · rcases List.mem_cons.1 hp with rfl | hp
    · exact h.below.size
    · exact h.up p hp
/-- A call that answers with a row of its own. -/
theorem LawSt.call {w W W' : World} {bs : List (Nat × Obj)} {rows : List (Value × List FileL)} (h : LawSt w bs rows W) (hb : Below W.heap.size W W') {v : Value} {l : List FileL} (hv : W'.ownsRow W.heap.size 89 2 v l.length (cellsF l)) : LawSt w bs ((v, l) :: rows) W' := by
  have h2 := h.step hb
  refine ⟨h2.below, h2.has, fun p hp => ?_, fun p hp q hq => ?_, List.Pairwise.cons (fun q hq => ?_) h.apart, h.dist, h.up⟩
  · rcases List.mem_cons.1 hp with rfl | hp
    · exact own_mono hv h.below.size
    · exact h2.own p hp
  · rcases List.mem_cons.1 hq with rfl | hq
    · intro e
      have h3 := (hv.lt _ e).1
      have h4 := h.bsz p hp
      omega
    · exact h.sep p hp q hq
  · cases e : v.ownBlock with
    | none => exact Or.inl rfl
    | some k =>
      right
      intro e2
      have h3 := (hv.lt _ e).1
      have h4 := h.rsz q hq k e2.symm
      omega
/-- A variable is set. -/
theorem LawSt.set {w W : World} {bs : List (Nat × Obj)} {rows : List (Value × List FileL)} {b : Nat} {x : Value} {t : TypeId} (h : LawSt w ((b, Obj.cells #[x] t (0, 0)) :: bs) rows W) (v : Value) : LawSt w ((b, .cells #[v] t (0, 0)) :: bs) rows (W.setCell ⟨b, 0, none⟩ v) := by
  have hd := (List.pairwise_cons.1 h.dist)
  refine ⟨h.below.setCell (h.up _ (List.Mem.head _)) _, fun p hp => ?_, fun p hp => own_set (h.own p hp) b 0 v (h.sep _ (List.Mem.head _) p hp), fun p hp q hq => ?_, h.apart, List.Pairwise.cons (fun q hq => hd.1 q hq) hd.2, fun p hp => ?_⟩
  · rcases List.mem_cons.1 hp with rfl | hp
    · have := heap_setCell_same W b 0 _ t v (h.has _ (List.Mem.head _))
      simpa using this
    · exact (Below.heap_setCell W ⟨b, 0, none⟩ v p.1 (fun e => hd.1 p hp e.symm)).trans (h.has p (List.mem_cons_of_mem _ hp))
  · rcases List.mem_cons.1 hp with rfl | hp
    · exact h.sep (b, Obj.cells #[x] t (0, 0)) (List.Mem.head _) q hq
    · exact h.sep p (List.mem_cons_of_mem _ hp) q hq
  · rcases List.mem_cons.1 hp with rfl | hp
    · exact h.up (b, Obj.cells #[x] t (0, 0)) (List.Mem.head _)
    · exact h.up p (List.mem_cons_of_mem _ hp)
/-- One row is marked: what else there is stays. -/
theorem LawSt.mark {w W W' : World} {bs : List (Nat × Obj)} {rows : List (Value × List FileL)} (h : LawSt w bs rows W) {v : Value} {l l' : List FileL} (hm : (v, l) ∈ rows) (hg : W.grownBy W' v.ownBlock) (hv : W'.ownsRow w.heap.size 89 2 v l'.length (cellsF l'))
    (rest : List (Value × List FileL)) (hrest : ∀ p ∈ rest, p ∈ rows ∧ (p.1.ownBlock = none ∨ p.1.ownBlock ≠ v.ownBlock)) (hpw : rest.Pairwise fun p q => p.1.ownBlock = none ∨ p.1.ownBlock ≠ q.1.ownBlock) : LawSt w bs ((v, l') :: rest) W' := by
  refine ⟨h.below.grown hg h.below.size (fun j hj => (hv.lt j hj).1), fun p hp => (hg.block _ (h.bsz p hp) (fun e => h.sep p hp _ hm e.symm)).trans (h.has p hp), fun p hp => ?_, fun p hp q hq => ?_, List.Pairwise.cons (fun q hq => ?_) hpw, h.dist, h.up⟩
  · rcases List.mem_cons.1 hp with rfl | hp
    · exact hv
    · exact (h.own p (hrest p hp).1).kept hg (hrest p hp).2
  · rcases List.mem_cons.1 hq with rfl | hq
    · exact h.sep p hp (v, l) hm
    · exact h.sep p hp q (hrest q hq).1
  · rcases (hrest q hq).2 with h1 | h1
    · cases e : v.ownBlock with
      | none => exact Or.inl rfl
      | some k => right; rw [h1]; simp
    · exact Or.inr (fun e => h1 e.symm)
theorem LawSt.cell {w W : World} {bs : List (Nat × Obj)} {rows : List (Value × List FileL)} (h : LawSt w bs rows W) {b : Nat} {x : Value} {t : TypeId} (hm : (b, Obj.cells #[x] t (0, 0)) ∈ bs) : W.cell? ⟨b, 0, none⟩ = some x := cell_of_row _ _ 0 _ _ _ (h.has _ hm)
theorem LawSt.frozen {w W : World} {bs : List (Nat × Obj)} {rows : List (Value × List FileL)} (h : LawSt w bs rows W) {b : Nat} {x : Value} {t : TypeId} (hm : (b, Obj.cells #[x] t (0, 0)) ∈ bs) : W.frozen? ⟨b, 0, none⟩ = false := frozen_of_row _ _ _ _ _ (h.has _ hm)
theorem LawSt.tail {w W : World} {bs : List (Nat × Obj)} {r : Value × List FileL} {rows : List (Value × List FileL)} (h : LawSt w bs (r :: rows) W) : LawSt w bs rows W :=
  ⟨h.below, h.has, fun p hp => h.own p (List.mem_cons_of_mem _ hp), fun p hp q hq => h.sep p hp q (List.mem_cons_of_mem _ hq), (List.pairwise_cons.1 h.apart).2, h.dist, h.up⟩
theorem LawSt.start (w : World) (x y : Obj) : LawSt w [(w.heap.size + 1, y), (w.heap.size, x)] [] ((w.alloc x).alloc y) := by
  refine ⟨((Below.refl _ _).alloc (Nat.le_refl _) _).alloc (by simp) _, fun p hp => ?_, fun p hp => (List.not_mem_nil hp).elim, fun p _ q hq => (List.not_mem_nil hq).elim, List.Pairwise.nil, by simp, fun p hp => by rcases List.mem_cons.1 hp with rfl | hp; exact Nat.le_succ _; obtain rfl := List.mem_singleton.1 hp; exact Nat.le_refl _⟩
  simp only [List.mem_cons, List.not_mem_nil, or_false] at hp
  rcases hp with rfl | rfl
  · have := heap_alloc_new (w.alloc x) y
    simpa using this
  · show ((w.alloc x).alloc y).heap[w.heap.size]? = some x
    rw [Below.heap_alloc _ _ _ (by simp)]
    exact heap_alloc_new w x
end Go.Proofs.YtjpokcjpogkafaaGreatDoor
namespace Go.Proofs.YtjpokcjpogkafaaGreatDoor
open Go.RowKit

/-- A slice at a whose elements are these raw writes. -/
def RawsAt (w : World) (a : Option Addr) (g off : Nat) (l : List Disks.RawL) : Prop :=
  (0 < l.length → a = some ⟨g, off, none⟩) ∧ ∀ j (hj : j < l.length), w.cell? ⟨g, off + j * 4, none⟩ = some (.int .i64 l[j].kind) ∧ w.cell? ⟨g, off + j * 4 + 1, none⟩ = some (.string l[j].name) ∧ w.cell? ⟨g, off + j * 4 + 2, none⟩ = some (.string l[j].to) ∧ w.cell? ⟨g, off + j * 4 + 3, none⟩ = some (.string l[j].text)
theorem RawsAt.lt {w : World} {a : Option Addr} {g off : Nat} {l : List Disks.RawL} (h : RawsAt w a g off l) (hl : 0 < l.length) : g < w.heap.size := World.block_lt_of_cell? w _ (h.2 0 hl).1
theorem RawsAt.kept {w w' : World} {a : Option Addr} {g off : Nat} {l : List Disks.RawL} (h : RawsAt w a g off l) (hb : Below w.heap.size w w') : RawsAt w' a g off l := by
  refine ⟨h.1, fun j hj => ?_⟩
  have hg := h.lt (by omega)
  rw [hb.cell (p := ⟨g, off + j * 4, none⟩) hg, hb.cell (p := ⟨g, off + j * 4 + 1, none⟩) hg, hb.cell (p := ⟨g, off + j * 4 + 2, none⟩) hg, hb.cell (p := ⟨g, off + j * 4 + 3, none⟩) hg]
  exact h.2 j hj
theorem LawSt.drop1 {w W : World} {p : Nat × Obj} {bs : List (Nat × Obj)} {rows : List (Value × List FileL)} (h : LawSt w (p :: bs) rows W) : LawSt w bs rows W :=
  ⟨h.below, fun q hq => h.has q (List.mem_cons_of_mem _ hq), h.own, fun q hq => h.sep q (List.mem_cons_of_mem _ hq), h.apart, (List.pairwise_cons.1 h.dist).2, fun q hq => h.up q (List.mem_cons_of_mem _ hq)⟩
end Go.Proofs.YtjpokcjpogkafaaGreatDoor
