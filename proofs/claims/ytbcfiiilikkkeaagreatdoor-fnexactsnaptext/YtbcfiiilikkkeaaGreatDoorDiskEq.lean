/- The calls of l03Drop and l03Put, walked. The call of l03Put, walked. How much a disk holds: szFile, szFileS, szDisk, walked. The call of the specification's PutRaw, walked. Disks copied: toFile, toFileS, toDisk, walked. Disks held against each other: eqFile, eqFileS, eqDisk at the same files, walked. -/
import Derived.Test.YtbcfiiilikkkeaaGreatDoorAt
import Derived.Deep.AppendLies
import Derived.Deep.RegionLaw
import Derived.Test.YtbcfiiilikkkeaaGreatDoorReader
import Derived.Test.YtbcfiiilikkkeaaGreatDoorFiles
import Derived.Test.YtbcfiiilikkkeaaGreatDoorMathMan
import Derived.Laws.AppendOwnNone
import Derived.Deep.RegionWith
import Derived.Deep.QuietTactic
import Derived.BigQuiet
import Derived.Deep.RegionHeld3
namespace Go.Proofs.YtbcfiiilikkkeaaGreatDoor
open Go.RowKit

/-- A list that is grown in a variable of the call's own: its block o, the block r of the result, all made ahead of b. -/
structure OutAt (o r b : Nat) (W : World) (v : Value) (pre : List FileL) : Prop where
  ob : o < b
  rb : r < b
  ne : r ≠ o
  res : W.cell? ⟨r, 0, none⟩ = some (.slice none 0 0)
  resf : W.frozen? ⟨r, 0, none⟩ = false
  out : W.cell? ⟨o, 0, none⟩ = some v
  outf : W.frozen? ⟨o, 0, none⟩ = false
  own : W.ownsRow b 164 2 v pre.length (cellsF pre)
  size : b ≤ W.heap.size
theorem OutAt.far {o r b : Nat} {W : World} {v : Value} {pre : List FileL} (h : OutAt o r b W v pre) {j : Nat} (hj : j < b) : some j ≠ v.ownBlock := fun e => by
  have := (h.own.lt j e.symm).1
  omega
theorem OutAt.step {o r b : Nat} {W w1 : World} {v v' : Value} {pre : List FileL} {A T : ByteArray} (h : OutAt o r b W v pre) (hgr : W.grownBy w1 v.ownBlock) (hown1 : w1.ownsRow b 164 2 v' (pre.length + 1) (cellsF pre ++ [.string A, .string T])) :
    OutAt o r b (w1.setCell ⟨o, 0, none⟩ v') v' (pre ++ [(A, T)]) ∧ (∀ p : Addr, p.block < b → p.block ≠ o → (w1.setCell ⟨o, 0, none⟩ v').cell? p = W.cell? p) := by
  have key : ∀ p : Addr, p.block < b → p.block ≠ o → (w1.setCell ⟨o, 0, none⟩ v').cell? p = W.cell? p ∧ (w1.setCell ⟨o, 0, none⟩ v').frozen? p = W.frozen? p := by
    intro p hp hne
    have e1 : (w1.setCell ⟨o, 0, none⟩ v').heap[p.block]? = w1.heap[p.block]? := Below.heap_setCell w1 ⟨o, 0, none⟩ v' p.block hne
    have e2 := hgr.block p.block (Nat.lt_of_lt_of_le hp h.size) (h.far hp)
    exact ⟨World.cell?_of_block (e1.trans e2), World.frozen?_of_block (e1.trans e2)⟩
  have oz : o < W.heap.size := World.block_lt_of_cell? W _ h.out
  have ho1 : w1.cell? ⟨o, 0, none⟩ = some v := hgr.cell h.out (h.far h.ob)
  refine ⟨⟨h.ob, h.rb, h.ne, (key ⟨r, 0, none⟩ h.rb h.ne).1.trans h.res, (key ⟨r, 0, none⟩ h.rb h.ne).2.trans h.resf, World.cell?_setCell_same _ _ _ ho1, ?_, ?_, ?_⟩, fun p hp hne => (key p hp hne).1⟩
  · rw [World.frozen?_setCell]
    exact (hgr.frozen_far ⟨o, 0, none⟩ oz (h.far h.ob)).trans h.outf
  · have e : cellsF pre ++ [.string A, .string T] = cellsF (pre ++ [(A, T)]) := by rw [cellsF_app]; rfl
    rw [e] at hown1
    rw [List.length_append]
    refine own_set hown1 o 0 v' fun e => ?_
    have := (hown1.lt o e).1
    have := h.ob
    omega
  · have := hgr.size
    have := h.size
    simp [World.setCell]
    omega
theorem three_0 (w : World) (x y z : Obj) : (((w.alloc x).alloc y).alloc z).heap[w.heap.size]? = some x := by
  rw [Below.heap_alloc _ _ _ (by simp; omega), Below.heap_alloc _ _ _ (by simp)]
  exact heap_alloc_new w x
theorem three_1 (w : World) (x y z : Obj) : (((w.alloc x).alloc y).alloc z).heap[w.heap.size + 1]? = some y := by
  rw [Below.heap_alloc _ _ _ (by simp)]
  have := heap_alloc_new (w.alloc x) y
  simpa using this
theorem three_2 (w : World) (x y z : Obj) : (((w.alloc x).alloc y).alloc z).heap[w.heap.size + 1 + 1]? = some z := by
  have := heap_alloc_new ((w.alloc x).alloc y) z
  simpa using this
end Go.Proofs.YtbcfiiilikkkeaaGreatDoor
namespace Go.Proofs.YtbcfiiilikkkeaaGreatDoor
open Go.RowKit

theorem OutAt.drewN {o r b : Nat} {W : World} {v : Value} {pre : List FileL} (h : OutAt o r b W v pre) (n : Nat) : OutAt o r b (W.drewN n) v pre :=
  ⟨h.ob, h.rb, h.ne, h.res, h.resf, h.out, h.outf, h.own, h.size⟩
/-- What a call of l03Put keeps: its disk and its file. -/
structure PutAt (h : Nat) (D : Value) (N X : ByteArray) (W : World) : Prop where
  d : W.cell? ⟨h, 0, none⟩ = some D
  n : W.cell? ⟨h + 1, 0, none⟩ = some (.string N)
  x : W.cell? ⟨h + 1, 1, none⟩ = some (.string X)
theorem PutAt.drewN {h : Nat} {D : Value} {N X : ByteArray} {W : World} (p : PutAt h D N X W) (n : Nat) : PutAt h D N X (W.drewN n) := ⟨p.d, p.n, p.x⟩
theorem PutAt.kept {h b : Nat} {D : Value} {N X : ByteArray} {W W' : World} (p : PutAt h D N X W) (hb : h + 4 ≤ b) (hk : ∀ q : Addr, q.block < b → q.block ≠ h + 1 + 1 + 1 → W'.cell? q = W.cell? q) : PutAt h D N X W' :=
  ⟨(hk _ (by simp; omega) (by simp; omega)).trans p.d, (hk _ (by simp; omega) (by simp)).trans p.n, (hk _ (by simp; omega) (by simp)).trans p.x⟩

end Go.Proofs.YtbcfiiilikkkeaaGreatDoor
namespace Go.Proofs.YtbcfiiilikkkeaaGreatDoor
open Go.RowKit

set_option maxHeartbeats 1000000 in
theorem szFile_any (n t : ByteArray) (hn : n.size ≤ maxLen) (ht : t.size ≤ maxLen) (left : Nat) (hl : left ≤ 1048576) (w : World) :
    Calls Tryz.prog 124 #[.agg #[.string n, .string t], .int .i64 (left : Int)] w fun e w' => ∃ x : Int, e = .returned (.int .i64 x) ∧ Left left (n.size + t.size) x ∧ Below w.heap.size w w' := by
  unfold maxLen at hn ht
  go_enter Tryz.func124, Tryz.ntmps124
  go_wp2
  · go_ret
    exact ⟨_, rfl, Or.inr ⟨by omega, rfl⟩, (Below.refl _ _).alloc (Nat.le_refl _) _⟩
  · go_ret
    exact ⟨_, rfl, Or.inr ⟨by omega, rfl⟩, (Below.refl _ _).alloc (Nat.le_refl _) _⟩
  · go_ret
    exact ⟨_, rfl, Or.inl ⟨by omega, by omega⟩, (Below.refl _ _).alloc (Nat.le_refl _) _⟩

set_option maxHeartbeats 1000000 in
set_option maxRecDepth 100000 in
theorem szFileS_any {a : Option Addr} {g off cap : Nat} (l : List FileL) (hlen : l.length ≤ maxLen) (hsz : ∀ f ∈ l, f.1.size ≤ maxLen ∧ f.2.size ≤ maxLen) (left : Nat) (hl : left ≤ 1048576) (w : World) (hf : FilesAt w a g off l) :
    Calls Tryz.prog 54 #[.slice a l.length cap, .int .i64 (left : Int)] w fun e w' => ∃ x : Int, e = .returned (.int .i64 x) ∧ Left left (tot l) x ∧ Below w.heap.size w w' := by
  have HF : Hid (FilesAt w a g off l) := hf
  have HS : Hid (∀ f ∈ l, f.1.size ≤ maxLen ∧ f.2.size ≤ maxLen) := hsz
  clear hf hsz
  unfold maxLen at hlen
  by_cases h0 : left < l.length
  · have h1 : (left : Int) - (l.length : Int) < 0 := by omega
    go_enter Tryz.func54, Tryz.ntmps54
    go_wp2
    go_ret
    exact ⟨_, rfl, Or.inr ⟨by have := tot_len l; omega, rfl⟩, Below.refl _ _⟩
  · have h1 : ¬ (left : Int) - (l.length : Int) < 0 := by omega
    go_enter Tryz.func54, Tryz.ntmps54
    go_wp2
    go_loopw [1, 5] (fun x i wr => ∃ k R : Nat, k ≤ l.length ∧ i = .int .i64 (k : Int) ∧ x = .int .i64 (R : Int) ∧ R + tot (l.take k) + (l.length - k) = left ∧ Below w.heap.size w wr)
      (fun _ i _ => l.length - (intOf i).toNat)
    case atStart => exact ⟨0, left - l.length, Nat.zero_le _, rfl, by go_num, by simp [tot]; omega, Below.refl _ _⟩
    case round =>
      obtain ⟨k, R, hk, rfl, rfl, hR, hbel⟩ := hrel
      by_cases hlt : k < l.length
      · obtain ⟨c0, c1⟩ := (HF.out.kept hbel).2 k hlt
        have ea := HF.out.1 (by omega)
        subst ea
        obtain ⟨s0, s1⟩ := HS.out l[k] (List.getElem_mem _)
        obtain ⟨A, hA⟩ : ∃ A, A = l[k].1 := ⟨_, rfl⟩
        obtain ⟨T, hT⟩ : ∃ T, T = l[k].2 := ⟨_, rfl⟩
        have HT : Hid (tot (l.take (k + 1)) = tot (l.take k) + (A.size + T.size + 1)) := by show _ = _; rw [tot_take hlt, hA, hT]
        rw [← hA] at c0 s0
        rw [← hT] at c1 s1
        clear hA hT
        have hk0 : (0 : Int) ≤ (k : Int) := by omega
        have hk1 : (k : Int) < (l.length : Int) := by omega
        have hRl : R ≤ 1048576 := by omega
        go_wp2_with fail
        refine (szFile_any A T s0 s1 R hRl wr).mono ?_
        rintro e w1 ⟨x, rfl, hx, hb1⟩
        rcases hx with ⟨hx1, hx2⟩ | ⟨hx1, hx2⟩
        · obtain ⟨Y, hY⟩ : ∃ Y : Nat, Y = R - (A.size + T.size) := ⟨_, rfl⟩
          rw [← hY] at hx2
          subst hx2
          have HY : Hid (Y = R - (A.size + T.size)) := hY
          clear hY
          have hB : Below w.heap.size w w1 := hbel.trans (hb1.mono hbel.size)
          go_wp2
          go_roundw
          case rel => exact ⟨k + 1, Y, by omega, by go_num, rfl, by rw [HT.out]; have := HY.out; omega, hB⟩
          case measure => simp [intOf]; omega
        · subst hx2
          have hB : Below w.heap.size w w1 := hbel.trans (hb1.mono hbel.size)
          have hno : ¬ tot l ≤ left := by
            have e1 := tot_app (l.take (k + 1)) (l.drop (k + 1))
            rw [List.take_append_drop] at e1
            have e2 := tot_len (l.drop (k + 1))
            rw [List.length_drop] at e2
            have := HT.out
            omega
          have HN : Hid (¬ tot l ≤ left) := hno
          clear hno
          go_wp2
          go_ret
          exact ⟨_, rfl, Or.inr ⟨HN.out, rfl⟩, hB⟩
      · have hk1 : ¬ (k : Int) < (l.length : Int) := by omega
        have HN : Hid (tot l + R = left) := by
          show _ = _
          rw [List.take_of_length_le (by omega)] at hR
          omega
        clear hR
        go_wp2
        go_ret
        exact ⟨_, rfl, Or.inl ⟨by have := HN.out; omega, by have := HN.out; omega⟩, hbel⟩

set_option maxHeartbeats 1000000 in
theorem szDisk_any {a : Option Addr} {g off cap : Nat} (l : List FileL) (hlen : l.length ≤ maxLen) (hsz : ∀ f ∈ l, f.1.size ≤ maxLen ∧ f.2.size ≤ maxLen) (left : Nat) (hl : left ≤ 1048576) (w : World) (hf : FilesAt w a g off l) :
    Calls Tryz.prog 11 #[.agg #[.slice a l.length cap], .int .i64 (left : Int)] w fun e w' => ∃ x : Int, e = .returned (.int .i64 x) ∧ Left left (tot l) x ∧ Below w.heap.size w w' := by
  have HF : Hid (FilesAt (w.alloc (.cells #[.slice a l.length cap] 24)) a g off l) := hf.kept ((Below.refl _ _).alloc (Nat.le_refl _) _)
  have HS : Hid (∀ f ∈ l, f.1.size ≤ maxLen ∧ f.2.size ≤ maxLen) := hsz
  have HL : Hid (l.length ≤ maxLen) := hlen
  clear hf hsz hlen
  go_enter Tryz.func11, Tryz.ntmps11
  go_wp2_with fail
  refine (szFileS_any l HL.out HS.out left hl _ HF.out).mono ?_
  rintro e w1 ⟨x, rfl, hx, hb1⟩
  have hB : Below w.heap.size w w1 := ((Below.refl _ _).alloc (Nat.le_refl _) _).trans (hb1.mono (by simp))
  rcases hx with ⟨hx1, hx2⟩ | ⟨hx1, hx2⟩
  · obtain ⟨Y, hY⟩ : ∃ Y : Nat, Y = left - tot l := ⟨_, rfl⟩
    rw [← hY] at hx2
    subst hx2
    have HY : Hid (Y = left - tot l) := hY
    clear hY
    go_wp2
    go_ret
    exact ⟨_, rfl, Or.inl ⟨hx1, by rw [HY.out]⟩, hB⟩
  · subst hx2
    go_wp2
    go_ret
    exact ⟨_, rfl, Or.inr ⟨hx1, rfl⟩, hB⟩
end Go.Proofs.YtbcfiiilikkkeaaGreatDoor
namespace Go.Proofs.YtbcfiiilikkkeaaGreatDoor
open Go.RowKit

theorem FilesAt.cells {w : World} {a : Option Addr} {g off : Nat} {l : List FileL} (h : FilesAt w a g off l) : ∀ j u, (cellsF l)[j]? = some u → w.cell? ((⟨g, off, none⟩ : Addr).add j) = some u := by
  intro j u hu
  rw [Addr.add_lit]
  have hj : j < l.length * 2 := by rw [← cellsF_len]; exact (List.getElem?_eq_some_iff.1 hu).1
  rcases Nat.mod_two_eq_zero_or_one j with h2 | h2
  · obtain ⟨k, rfl⟩ : ∃ k, j = k * 2 := ⟨j / 2, by omega⟩
    rw [(cellsF_at l k (by omega)).1] at hu
    rw [← Option.some.inj hu]
    exact (h.2 k (by omega)).1
  · obtain ⟨k, rfl⟩ : ∃ k, j = k * 2 + 1 := ⟨j / 2, by omega⟩
    rw [(cellsF_at l k (by omega)).2] at hu
    rw [← Option.some.inj hu]
    exact (h.2 k (by omega)).2
def rawC (r : Disks.RawL) : Obj := .cells #[.int .i64 r.kind, .string r.name, .string r.to, .string r.text] 103
/-- What a call of PutRaw keeps. -/
structure RawAt (h : Nat) (D : Value) (r : Disks.RawL) (W : World) : Prop where
  d : W.heap[h]? = some (.cells #[D] 46 (0, 0))
  r : W.heap[h + 1]? = some (rawC r)
  res : W.heap[h + 1 + 1]? = some (.cells #[.slice none 0 0] 46 (0, 0))
theorem RawAt.lt {h : Nat} {D : Value} {r : Disks.RawL} {W : World} (p : RawAt h D r W) : h + 1 + 1 < W.heap.size := (Array.getElem?_eq_some_iff.1 p.res).1
theorem RawAt.kept {h : Nat} {D : Value} {r : Disks.RawL} {W W' : World} (p : RawAt h D r W) (hb : Below W.heap.size W W') : RawAt h D r W' := by
  have := p.lt
  exact ⟨(hb.block _ (by omega)).trans p.d, (hb.block _ (by omega)).trans p.r, (hb.block _ (by omega)).trans p.res⟩
theorem RawAt.drew {h : Nat} {D : Value} {r : Disks.RawL} {W : World} (p : RawAt h D r W) : RawAt h D r W.drew := ⟨p.d, p.r, p.res⟩
theorem RawAt.c0 {h : Nat} {D : Value} {r : Disks.RawL} {W : World} (p : RawAt h D r W) : W.cell? ⟨h + 1, 0, none⟩ = some (.int .i64 r.kind) := cell_of_row _ _ 0 _ _ _ p.r
theorem RawAt.c1 {h : Nat} {D : Value} {r : Disks.RawL} {W : World} (p : RawAt h D r W) : W.cell? ⟨h + 1, 1, none⟩ = some (.string r.name) := cell_of_row _ _ 1 _ _ _ p.r
theorem RawAt.c2 {h : Nat} {D : Value} {r : Disks.RawL} {W : World} (p : RawAt h D r W) : W.cell? ⟨h + 1, 2, none⟩ = some (.string r.to) := cell_of_row _ _ 2 _ _ _ p.r
theorem RawAt.c3 {h : Nat} {D : Value} {r : Disks.RawL} {W : World} (p : RawAt h D r W) : W.cell? ⟨h + 1, 3, none⟩ = some (.string r.text) := cell_of_row _ _ 3 _ _ _ p.r
theorem RawAt.fr {h : Nat} {D : Value} {r : Disks.RawL} {W : World} (p : RawAt h D r W) : W.frozen? ⟨h + 1 + 1, 0, none⟩ = false := frozen_of_row _ _ _ _ _ p.res
theorem RawAt.start (w : World) (D : Value) (r : Disks.RawL) : RawAt w.heap.size D r (((w.alloc (.cells #[D] 46)).alloc (rawC r)).alloc (.cells #[.slice none 0 0] 46)) :=
  ⟨three_0 w _ _ _, three_1 w _ _ _, three_2 w _ _ _⟩

theorem ok_sizes {l : List FileL} (h : Disks.ok l) : ∀ f ∈ l, f.1.size ≤ 12 ∧ f.2.size ≤ 20000 := by
  intro f hf
  obtain ⟨j, hj, rfl⟩ := List.mem_iff_getElem.1 hf
  obtain ⟨_, h1, _⟩ := h.2 j hj
  exact ⟨h1.2.1, h1.2.2⟩
theorem RawAt.set {h : Nat} {D : Value} {r : Disks.RawL} {W : World} (p : RawAt h D r W) (b j : Nat) (x : Value) (hb : h + 1 + 1 < b) : RawAt h D r (W.setCell ⟨b, j, none⟩ x) :=
  ⟨(Below.heap_setCell W ⟨b, j, none⟩ x h (by simp; omega)).trans p.d, (Below.heap_setCell W ⟨b, j, none⟩ x (h + 1) (by simp; omega)).trans p.r, (Below.heap_setCell W ⟨b, j, none⟩ x (h + 1 + 1) (by simp; omega)).trans p.res⟩
end Go.Proofs.YtbcfiiilikkkeaaGreatDoor
namespace Go.Proofs.YtbcfiiilikkkeaaGreatDoor
open Go.RowKit

set_option maxHeartbeats 1000000 in
theorem toFile_any (n t : ByteArray) (w : World) :
    Calls Tryz.prog 134 #[.agg #[.string n, .string t]] w fun e w' => e = .returned (.agg #[.string n, .string t]) ∧ Below w.heap.size w w' := by
  go_enter Tryz.func134, Tryz.ntmps134
  go_wp2
  refine bodyPost_ret (v := .agg #[.string n, .string t]) (by simp [results, Tryz.results134, go_sem]) rfl ⟨rfl, ?_⟩
  exact (((Below.refl _ _).alloc (Nat.le_refl _) _).alloc (by simp) _).alloc (by simp; omega) _

set_option maxHeartbeats 1000000 in
set_option maxRecDepth 100000 in
theorem toFileS_any {a : Option Addr} {g off cap : Nat} (l : List FileL) (hlen : l.length ≤ 1048576) (w : World) (hf : FilesAt w a g off l) :
    Calls Tryz.prog 66 #[.slice a l.length cap] w fun e w' => e = .returned (.slice (some ⟨w.heap.size, 0, none⟩) l.length l.length) ∧
      w'.ownsRow w.heap.size 164 2 (.slice (some ⟨w.heap.size, 0, none⟩) l.length l.length) l.length (cellsF l) ∧ Below w.heap.size w w' := by
  obtain ⟨i0, hi, hz0, hz1, hz2⟩ := info_parts Tryz.info164
  have HF : Hid (FilesAt w a g off l) := hf
  clear hf
  go_enter Tryz.func66, Tryz.ntmps66
  go_wp2_with (at_make; refine wpList_make_full _ rfl _ _ 44 rfl w.heap.size 164 i0 (.agg #[.string ByteArray.empty, .string ByteArray.empty]) 2 Tryz.underlying44 hi hz0 hz1 _ _ _ _ l.length rfl rfl (by omega) (by omega) ?b2 ?b3 (Nat.le_refl _) ?_)
  case b2 => rw [hz2]; omega
  case b3 => unfold maxLen; omega
  intro w0 hown0 hgrow0
  have hbel0 : Below w.heap.size w w0 := (Below.refl _ _).grown hgrow0 (Nat.le_refl _) (by simp)
  rw [made_files] at hown0
  clear hgrow0
  go_wp2
  go_loopw [4] (fun i wr => ∃ (k : Nat) (pre : List FileL), k ≤ l.length ∧ i = .int .i64 (k : Int) ∧ pre.length = l.length ∧ pre.take k = l.take k ∧
      wr.ownsRow w.heap.size 164 2 (.slice (some ⟨w.heap.size, 0, none⟩) l.length l.length) l.length (cellsF pre) ∧ Below w.heap.size w wr)
    (fun i _ => l.length - (intOf i).toNat)
  case atStart => exact ⟨0, _, Nat.zero_le _, rfl, by simp, by simp, hown0, hbel0⟩
  case round =>
    obtain ⟨k, pre, hk, rfl, hpl, hpt, hown, hbel⟩ := hrel
    have HL : Hid (pre.length = l.length) := hpl
    have HT : Hid (pre.take k = l.take k) := hpt
    clear hpl hpt hown0 hbel0
    by_cases hlt : k < l.length
    · obtain ⟨c0, c1⟩ := (HF.out.kept hbel).2 k hlt
      have ea := HF.out.1 (by omega)
      subst ea
      have hgz := HF.out.lt (by omega)
      obtain ⟨A, hA⟩ : ∃ A, A = l[k].1 := ⟨_, rfl⟩
      obtain ⟨T, hT⟩ : ∃ T, T = l[k].2 := ⟨_, rfl⟩
      rw [← hA] at c0
      rw [← hT] at c1
      have HAT : Hid (l[k] = (A, T)) := by show _ = _; rw [hA, hT]
      clear hA hT
      have hk0 : (0 : Int) ≤ (k : Int) := by omega
      have hk1 : (k : Int) < (l.length : Int) := by omega
      go_wp2_with fail
      refine (toFile_any A T wr).mono ?_
      rintro e w1 ⟨rfl, hb1⟩
      have hown1 := own_kept hown hb1
      have hbel1 : Below w.heap.size w w1 := hbel.trans (hb1.mono hbel.size)
      have hf0 := hown1.frozenAt (k * 2)
      have hf1 := hown1.frozenAt (k * 2 + 1)
      obtain ⟨u0, hu0⟩ : ∃ u0, w1.cell? ⟨w.heap.size, k * 2, none⟩ = some u0 := by
        rw [hown1.cellAt (k * 2) (by omega)]
        exact ⟨_, (cellsF_at pre k (by rw [HL.out]; exact hlt)).1⟩
      obtain ⟨u1, hu1⟩ : ∃ u1, w1.cell? ⟨w.heap.size, k * 2 + 1, none⟩ = some u1 := by
        rw [hown1.cellAt (k * 2 + 1) (by omega)]
        exact ⟨_, (cellsF_at pre k (by rw [HL.out]; exact hlt)).2⟩
      have hst := (hown1.stored (k * 2) (.string A)).1.stored (k * 2 + 1) (.string T)
      rw [← cellsF_set pre k (A, T)] at hst
      have HST : Hid (_ ∧ _) := hst
      clear hst
      go_wp2
      go_roundw
      case rel => exact ⟨k + 1, pre.set k (A, T), by omega, by go_num, by rw [List.length_set]; exact HL.out, take_set_step hlt HL.out HT.out HAT.out, HST.out.1, (hbel1.setCell (Nat.le_refl _) _).setCell (Nat.le_refl _) _⟩
      case measure => simp [intOf]; omega
    · have hk1 : ¬ (k : Int) < (l.length : Int) := by omega
      have HE : Hid (pre = l) := by
        show _ = _
        have h := HT.out
        rwa [List.take_of_length_le (by rw [HL.out]; omega), List.take_of_length_le (by omega)] at h
      go_wp2
      go_ret
      exact ⟨rfl, by rw [HE.out] at hown; exact hown, hbel⟩

set_option maxHeartbeats 1000000 in
theorem toDisk_any {a : Option Addr} {g off cap : Nat} (l : List FileL) (hlen : l.length ≤ 1048576) (w : World) (hf : FilesAt w a g off l) :
    Calls Tryz.prog 15 #[.agg #[.slice a l.length cap]] w fun e w' => ∃ g' : Nat, e = .returned (.agg #[.slice (some ⟨g', 0, none⟩) l.length l.length]) ∧ w.heap.size ≤ g' ∧
      w'.ownsRow w.heap.size 164 2 (.slice (some ⟨g', 0, none⟩) l.length l.length) l.length (cellsF l) ∧ Below w.heap.size w w' := by
  have HF : Hid (FilesAt w a g off l) := hf
  clear hf
  go_enter Tryz.func15, Tryz.ntmps15
  go_wp2_with fail
  obtain ⟨W, hW⟩ : ∃ W, W = (((w.alloc (Obj.cells #[Value.slice a l.length cap] 24)).alloc (Obj.cells #[Value.slice none 0 0] 46)).alloc (Obj.cells #[Value.slice none 0 0] 46)) := ⟨_, rfl⟩
  rw [← hW]
  have hWs : W.heap.size = w.heap.size + 3 := by rw [hW]; simp
  have hWb : Below w.heap.size w W := by rw [hW]; exact (((Below.refl _ _).alloc (Nat.le_refl _) _).alloc (by simp) _).alloc (by simp; omega) _
  have b2 : W.heap[w.heap.size + 1 + 1]? = some (.cells #[.slice none 0 0] 46 (0, 0)) := by
    rw [hW]; have := heap_alloc_new ((w.alloc (Obj.cells #[Value.slice a l.length cap] 24)).alloc (Obj.cells #[Value.slice none 0 0] 46)) (Obj.cells #[Value.slice none 0 0] 46); simpa using this
  have b1 : W.heap[w.heap.size + 1]? = some (.cells #[.slice none 0 0] 46 (0, 0)) := by
    rw [hW, Below.heap_alloc _ _ _ (by simp)]
    have := heap_alloc_new (w.alloc (Obj.cells #[Value.slice a l.length cap] 24)) (Obj.cells #[Value.slice none 0 0] 46); simpa using this
  clear hW
  refine (toFileS_any l hlen W (HF.out.kept hWb)).mono ?_
  rintro e w1 ⟨rfl, hown, hb1⟩
  rw [hWs] at hown ⊢
  rw [← hb1.block _ (by omega)] at b1 b2
  have c1 : w1.cell? ⟨w.heap.size + 1, 0, none⟩ = some (.slice none 0 0) := by simp [World.cell?, b1]
  have c2 : w1.cell? ⟨w.heap.size + 1 + 1, 0, none⟩ = some (.slice none 0 0) := by simp [World.cell?, b2]
  have f1 : w1.frozen? ⟨w.heap.size + 1, 0, none⟩ = false := by simp [World.frozen?, b1]
  have f2 : w1.frozen? ⟨w.heap.size + 1 + 1, 0, none⟩ = false := by simp [World.frozen?, b2]
  have hB : Below w.heap.size w w1 := hWb.trans (hb1.mono (by omega))
  clear b1 b2 hWb hb1
  have hr := cell_set2 (p := ⟨w.heap.size + 1 + 1, 0, none⟩) (x := .slice (some ⟨w.heap.size + 3, 0, none⟩) l.length l.length) (y := .slice (some ⟨w.heap.size + 3, 0, none⟩) l.length l.length) c1
  go_wp2
  refine bodyPost_ret (v := .agg #[.slice (some ⟨w.heap.size + 3, 0, none⟩) l.length l.length]) (by simp [results, Tryz.results15, go_sem, hr]) rfl ⟨w.heap.size + 3, rfl, by omega, ?_, ?_⟩
  · exact own_set (own_set (own_mono hown (by omega)) _ _ _ (by simp [Value.ownBlock])) _ _ _ (by simp [Value.ownBlock])
  · exact (hB.setCell (by simp; omega) _).setCell (by simp) _
end Go.Proofs.YtbcfiiilikkkeaaGreatDoor
namespace Go.Proofs.YtbcfiiilikkkeaaGreatDoor
open Go.RowKit

set_option maxHeartbeats 1000000 in
theorem eqFile_same (n t : ByteArray) (w : World) :
    Calls Tryz.prog 147 #[.agg #[.string n, .string t], .agg #[.string n, .string t]] w fun e w' => e = .returned (.bool true) ∧ Below w.heap.size w w' := by
  go_enter Tryz.func147, Tryz.ntmps147
  go_wp2
  go_ret
  exact ⟨rfl, ((Below.refl _ _).alloc (Nat.le_refl _) _).alloc (by simp) _⟩

set_option maxHeartbeats 1000000 in
set_option maxRecDepth 100000 in
theorem eqFileS_same {a b : Option Addr} {g off cap h off' cap' : Nat} (l : List FileL) (hlen : l.length ≤ 1048576) (w : World) (hf : FilesAt w a g off l) (hf' : FilesAt w b h off' l) :
    Calls Tryz.prog 78 #[.slice a l.length cap, .slice b l.length cap'] w fun e w' => e = .returned (.bool true) ∧ Below w.heap.size w w' := by
  have HF : Hid (FilesAt w a g off l) := hf
  have HF' : Hid (FilesAt w b h off' l) := hf'
  clear hf hf'
  go_enter Tryz.func78, Tryz.ntmps78
  go_wp2
  go_loopw [5] (fun i wr => ∃ k : Nat, k ≤ l.length ∧ i = .int .i64 (k : Int) ∧ Below w.heap.size w wr)
    (fun i _ => l.length - (intOf i).toNat)
  case atStart => exact ⟨0, Nat.zero_le _, rfl, Below.refl _ _⟩
  case round =>
    obtain ⟨k, hk, rfl, hbel⟩ := hrel
    by_cases hlt : k < l.length
    · obtain ⟨c0, c1⟩ := (HF.out.kept hbel).2 k hlt
      obtain ⟨d0, d1⟩ := (HF'.out.kept hbel).2 k hlt
      have ea := HF.out.1 (by omega)
      have eb := HF'.out.1 (by omega)
      subst ea eb
      have hgz := (HF.out.kept hbel).lt (by omega)
      have hhz := (HF'.out.kept hbel).lt (by omega)
      obtain ⟨A, hA⟩ : ∃ A, A = l[k].1 := ⟨_, rfl⟩
      obtain ⟨T, hT⟩ : ∃ T, T = l[k].2 := ⟨_, rfl⟩
      rw [← hA] at c0 d0
      rw [← hT] at c1 d1
      clear hA hT
      have hk0 : (0 : Int) ≤ (k : Int) := by omega
      have hk1 : (k : Int) < (l.length : Int) := by omega
      go_wp2
      go_region_held3 (fun w' => w'.cell? ⟨g, off + k * 2, none⟩ = some (.string A) ∧ w'.cell? ⟨g, off + k * 2 + 1, none⟩ = some (.string T) ∧ w'.cell? ⟨h, off' + k * 2, none⟩ = some (.string A) ∧ w'.cell? ⟨h, off' + k * 2 + 1, none⟩ = some (.string T)) (first | go_keep | exact ⟨(hb1.cell (p := ⟨g, off + k * 2, none⟩) hgz).trans c0, (hb1.cell (p := ⟨g, off + k * 2 + 1, none⟩) hgz).trans c1, (hb1.cell (p := ⟨h, off' + k * 2, none⟩) hhz).trans d0, (hb1.cell (p := ⟨h, off' + k * 2 + 1, none⟩) hhz).trans d1⟩) (first | (go_at_call 147; refine (eqFile_same A T _).mono ?_; rintro e w1 ⟨rfl, hb1⟩))
      all_goals
        go_wp2
        go_roundw
        case rel => exact ⟨k + 1, by omega, by go_num, (hbel.drew).trans (hb1.mono hbel.size)⟩
        case measure => simp [intOf]; omega
    · have hk1 : ¬ (k : Int) < (l.length : Int) := by omega
      go_wp2
      go_ret
      exact ⟨rfl, hbel⟩

set_option maxHeartbeats 1000000 in
theorem eqDisk_same {a b : Option Addr} {g off cap h off' cap' : Nat} (l : List FileL) (hlen : l.length ≤ 1048576) (w : World) (hf : FilesAt w a g off l) (hf' : FilesAt w b h off' l) :
    Calls Tryz.prog 21 #[.agg #[.slice a l.length cap], .agg #[.slice b l.length cap']] w fun e w' => e = .returned (.bool true) ∧ Below w.heap.size w w' := by
  have HF : Hid (FilesAt w a g off l) := hf
  have HF' : Hid (FilesAt w b h off' l) := hf'
  clear hf hf'
  go_enter Tryz.func21, Tryz.ntmps21
  go_wp2_with fail
  have hB : Below w.heap.size w ((w.alloc (Obj.cells #[Value.slice a l.length cap] 46)).alloc (Obj.cells #[Value.slice b l.length cap'] 46)) := ((Below.refl _ _).alloc (Nat.le_refl _) _).alloc (by simp) _
  refine (eqFileS_same l hlen _ (HF.out.kept hB) (HF'.out.kept hB)).mono ?_
  rintro e w1 ⟨rfl, hb1⟩
  have hB1 := hB.trans (hb1.mono hB.size)
  clear hb1 hB
  go_wp2
  go_ret
  exact ⟨rfl, hB1⟩
end Go.Proofs.YtbcfiiilikkkeaaGreatDoor
