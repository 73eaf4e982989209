/- The calls of l03At, l03Text and of the specification's FileAt, walked. The calls of l03Drop and l03Put, walked. -/
import Derived.Test.YtahpoemmlpbgdaaGreatDiskOk
import Derived.Deep.AppendLies
import Derived.Deep.RegionLaw
namespace Go.Proofs.YtahpoemmlpbgdaaGreat
open Go.RowKit

set_option maxHeartbeats 1000000 in
set_option maxRecDepth 100000 in
theorem l03At_is {a : Option Addr} {g off cap : Nat} (l : List FileL) (hlen : l.length ≤ 1048576) (n : ByteArray) (x : Int) (hx : (Disks.None l n ∧ x = -1) ∨ ∃ k : Nat, Disks.At l n k ∧ x = (k : Int)) (w : World) (hf : FilesAt w a g off l) :
    Calls Tryz.prog 35 #[.agg #[.slice a l.length cap], .string n] w fun e w' => e = .returned (.int .i64 x) ∧ Below w.heap.size w w' := by
  have HF : Hid (FilesAt w a g off l) := hf
  have HX : Hid ((Disks.None l n ∧ x = -1) ∨ ∃ k : Nat, Disks.At l n k ∧ x = (k : Int)) := hx
  clear hf hx
  go_enter Tryz.func35, Tryz.ntmps35
  go_wp2
  go_loopw [5] (fun i wr => ∃ k : Nat, k ≤ l.length ∧ i = .int .i64 (k : Int) ∧ (∀ j (hj : j < k) (hl : j < l.length), Disks.nameIs n l[j] = false) ∧ wr.cell? ⟨w.heap.size, 0, none⟩ = some (.slice a l.length cap) ∧ Below w.heap.size w wr)
    (fun i _ => l.length - (intOf i).toNat)
  case atStart => exact ⟨0, Nat.zero_le _, rfl, fun j hj => absurd hj (Nat.not_lt_zero _), cell_of_row _ _ _ _ _ _ (heap_alloc_new w _), (Below.refl _ _).alloc (Nat.le_refl _) _⟩
  case round =>
    obtain ⟨k, hk, rfl, hall, hd, hbel⟩ := hrel
    have HA : Hid (∀ j (hj : j < k) (hl : j < l.length), Disks.nameIs n l[j] = false) := hall
    clear hall
    by_cases hlt : k < l.length
    · obtain ⟨c0, c1⟩ := (HF.out.kept hbel).2 k hlt
      have ea := HF.out.1 (by omega)
      subst ea
      obtain ⟨A, hA⟩ : ∃ A, A = l[k].1 := ⟨_, rfl⟩
      rw [← hA] at c0
      have HAA : Hid (A = l[k].1) := hA
      clear hA c1
      have hk0 : (0 : Int) ≤ (k : Int) := by omega
      have hk1 : (k : Int) < (l.length : Int) := by omega
      by_cases hb : (A.toList == n.toList) = true
      · have HK : Hid (x = (k : Int)) := by
          show _ = _
          have hat : Disks.At l n k := ⟨hlt, by unfold Disks.nameIs; rw [← HAA.out]; exact hb, fun j hj => HA.out j hj (by omega)⟩
          rcases HX.out with ⟨h1, _⟩ | ⟨k', h1, h2⟩
          · have := h1 k hlt
            unfold Disks.nameIs at this
            rw [← HAA.out, hb] at this
            cases this
          · rw [h2, Disks.at_unique hat h1]
        go_wp2
        go_ret
        exact ⟨by rw [HK.out]; rfl, hbel⟩
      · have hb' : (A.toList == n.toList) = false := by simpa using hb
        have HN : Hid (Disks.nameIs n l[k] = false) := by show _ = _; unfold Disks.nameIs; rw [← HAA.out]; exact hb'
        go_wp2
        go_roundw
        case rel => exact ⟨k + 1, by omega, by go_num, fun j hj hl => by
                                                        rcases Nat.lt_succ_iff_lt_or_eq.1 hj with h1 | h1
                                                        · exact HA.out j h1 hl
                                                        · subst h1; exact HN.out, hd, hbel⟩
        case measure => simp [intOf]; omega
    · have hk1 : ¬ (k : Int) < (l.length : Int) := by omega
      have HK : Hid (x = -1) := by
        show _ = _
        rcases HX.out with ⟨_, h1⟩ | ⟨k', ⟨h0, h1, _⟩, _⟩
        · exact h1
        · have := HA.out k' (by omega) h0
          rw [h1] at this
          cases this
      go_wp2
      go_ret
      exact ⟨by rw [HK.out]; rfl, hbel⟩

set_option maxHeartbeats 1000000 in
set_option maxRecDepth 100000 in
theorem l03Text_is {a : Option Addr} {g off cap : Nat} (l : List FileL) (hlen : l.length ≤ 1048576) (n t : ByteArray) (ht : Disks.TextIs l n t) (w : World) (hf : FilesAt w a g off l) :
    Calls Tryz.prog 72 #[.agg #[.slice a l.length cap], .string n] w fun e w' => e = .returned (.string t) ∧ Below w.heap.size w w' := by
  have HF : Hid (FilesAt w a g off l) := hf
  clear hf
  have hB : Below w.heap.size w (w.alloc (Obj.cells #[Value.slice a l.length cap] 41)) := (Below.refl _ _).alloc (Nat.le_refl _) _
  have HB : Hid (Below w.heap.size w (w.alloc (Obj.cells #[Value.slice a l.length cap] 41))) := hB
  have hd0 : (w.alloc (Obj.cells #[Value.slice a l.length cap] 41)).cell? ⟨w.heap.size, 0, none⟩ = some (.slice a l.length cap) := cell_of_row _ _ _ _ _ _ (heap_alloc_new w _)
  have hz0 := World.block_lt_of_cell? _ _ hd0
  have HD : Hid (_ = _) := hd0
  have HZ : Hid (_ < _) := hz0
  clear hB hd0 hz0
  rcases ht with ⟨h1, rfl⟩ | ⟨k, hk, h1, rfl⟩
  · go_enter Tryz.func72, Tryz.ntmps72
    go_wp2_with fail
    refine (l03At_is l hlen n (-1) (Or.inl ⟨h1, rfl⟩) _ (HF.out.kept HB.out)).mono ?_
    rintro e w1 ⟨rfl, hb1⟩
    have hB1 := HB.out.trans (hb1.mono HB.out.size)
    go_wp2
    go_ret
    exact ⟨rfl, hB1⟩
  · obtain ⟨T, hT⟩ : ∃ T, T = l[k].2 := ⟨_, rfl⟩
    rw [← hT]
    have HT : Hid (T = l[k].2) := hT
    clear hT
    go_enter Tryz.func72, Tryz.ntmps72
    go_wp2_with fail
    refine (l03At_is l hlen n (k : Int) (Or.inr ⟨k, h1, rfl⟩) _ (HF.out.kept HB.out)).mono ?_
    rintro e w1 ⟨rfl, hb1⟩
    have hB1 := HB.out.trans (hb1.mono HB.out.size)
    have hd1 : w1.cell? ⟨w.heap.size, 0, none⟩ = some (.slice a l.length cap) := (hb1.cell (p := ⟨w.heap.size, 0, none⟩) HZ.out).trans HD.out
    obtain ⟨_, c1⟩ := (HF.out.kept hB1).2 k hk
    have ea := HF.out.1 (by omega)
    subst ea
    rw [← HT.out] at c1
    have hk0 : (0 : Int) ≤ (k : Int) := by omega
    have hk1 : (k : Int) < (l.length : Int) := by omega
    clear hb1
    go_wp2
    go_ret
    exact ⟨rfl, hB1⟩

def fileTuple_pk : Option ByteArray → Value
  | none => .tuple #[.string ⟨#[]⟩, .bool false]
  | some t => .tuple #[.string t, .bool true]

set_option maxHeartbeats 1000000 in
set_option maxRecDepth 100000 in
theorem specFileAt_is {a : Option Addr} {g off cap : Nat} (l : List FileL) (hlen : l.length ≤ 1048576) (hsz : ∀ f ∈ l, f.1.size ≤ 1048576 ∧ f.2.size ≤ 1048576) (n : ByteArray) (o : Option ByteArray) (ho : Disks.FileIs l n o) (w : World) (hf : FilesAt w a g off l) :
    Calls Tryz.prog 12 #[.agg #[.slice a l.length cap], .string n] w fun e w' => e = .returned (fileTuple_pk o) ∧ Below w.heap.size w w' := by
  have HF : Hid (FilesAt w a g off l) := hf
  have HS : Hid (∀ f ∈ l, f.1.size ≤ 1048576 ∧ f.2.size ≤ 1048576) := hsz
  clear hf hsz
  have hB : Below w.heap.size w (w.alloc (Obj.cells #[Value.slice a l.length cap] 41)) := (Below.refl _ _).alloc (Nat.le_refl _) _
  have HB : Hid (Below w.heap.size w (w.alloc (Obj.cells #[Value.slice a l.length cap] 41))) := hB
  have hd0 : (w.alloc (Obj.cells #[Value.slice a l.length cap] 41)).cell? ⟨w.heap.size, 0, none⟩ = some (.slice a l.length cap) := cell_of_row _ _ _ _ _ _ (heap_alloc_new w _)
  have hz0 := World.block_lt_of_cell? _ _ hd0
  have HD : Hid (_ = _) := hd0
  have HZ : Hid (_ < _) := hz0
  clear hB hd0 hz0
  obtain ⟨x, hx⟩ : ∃ x : Int, (Disks.None l n ∧ x = -1) ∨ ∃ k : Nat, Disks.At l n k ∧ x = (k : Int) := by
    rcases Disks.at_or_none l n with h | ⟨k, h⟩
    · exact ⟨-1, Or.inl ⟨h, rfl⟩⟩
    · exact ⟨k, Or.inr ⟨k, h, rfl⟩⟩
  have HX : Hid ((Disks.None l n ∧ x = -1) ∨ ∃ k : Nat, Disks.At l n k ∧ x = (k : Int)) := hx
  have HO : Hid (Disks.FileIs l n o) := ho
  clear hx ho
  go_enter Tryz.func12, Tryz.ntmps12
  go_wp2_with fail
  refine (l03At_is l hlen n x HX.out _ (HF.out.kept HB.out)).mono ?_
  rintro e w1 ⟨rfl, hb1⟩
  have hB1 := HB.out.trans (hb1.mono HB.out.size)
  have hd1 : w1.cell? ⟨w.heap.size, 0, none⟩ = some (.slice a l.length cap) := (hb1.cell (p := ⟨w.heap.size, 0, none⟩) HZ.out).trans HD.out
  have hz1 := World.block_lt_of_cell? _ _ hd1
  clear hb1 HD HZ HB
  by_cases hok : Disks.ok l
  · have HOK : Hid (Disks.ok l) := hok
    clear hok
    go_wp2_with fail
    refine (specDiskOk_any true l hlen w1 (HF.out.kept hB1) HS.out ⟨fun _ => HOK.out, fun _ => rfl⟩).mono ?_
    rintro e w2 ⟨rfl, hb2⟩
    have hB2 := hB1.trans (hb2.mono hB1.size)
    have hd2 : w2.cell? ⟨w.heap.size, 0, none⟩ = some (.slice a l.length cap) := (hb2.cell (p := ⟨w.heap.size, 0, none⟩) hz1).trans hd1
    clear hb2 hB1 hd1 hz1
    rcases HX.out with ⟨h1, h2⟩ | ⟨k, h1, h2⟩
    · subst h2
      have HE : Hid (o = none) := by
        show _ = _
        have h := HO.out
        cases o with
        | none => rfl
        | some t =>
          obtain ⟨_, k, hk, ⟨_, h3, _⟩, _⟩ := h
          have := h1 k hk
          rw [h3] at this
          cases this
      clear h1
      go_wp2
      go_ret2
      exact ⟨by rw [HE.out]; rfl, hB2⟩
    · subst h2
      obtain ⟨hk, _⟩ := id h1
      obtain ⟨T, hT⟩ : ∃ T, T = l[k].2 := ⟨_, rfl⟩
      have HE : Hid (o = some T) := by
        show _ = _
        have h := HO.out
        cases o with
        | none =>
          rcases h with h | h
          · exact absurd HOK.out h
          · obtain ⟨_, h3, _⟩ := h1
            have := h k hk
            rw [h3] at this
            cases this
        | some t =>
          obtain ⟨_, k', hk', h3, h4⟩ := h
          have := Disks.at_unique h1 h3
          subst this
          rw [h4, hT]
      have HT : Hid (T = l[k].2) := hT
      clear hT h1
      obtain ⟨_, c1⟩ := (HF.out.kept hB2).2 k hk
      have ea := HF.out.1 (by omega)
      subst ea
      rw [← HT.out] at c1
      have hk0 : (0 : Int) ≤ (k : Int) := by omega
      have hk1 : (k : Int) < (l.length : Int) := by omega
      go_wp2
      go_ret2
      exact ⟨by rw [HE.out]; rfl, hB2⟩
  · have HNK : Hid (¬ Disks.ok l) := hok
    have HE : Hid (o = none) := by
      show _ = _
      have h := HO.out
      cases o with
      | none => rfl
      | some t => exact absurd h.1 hok
    clear hok
    go_wp2_with fail
    refine (specDiskOk_any false l hlen w1 (HF.out.kept hB1) HS.out ⟨fun h => (by cases h), fun h => absurd h HNK.out⟩).mono ?_
    rintro e w2 ⟨rfl, hb2⟩
    have hB2 := hB1.trans (hb2.mono hB1.size)
    clear hb2 hB1
    go_wp2
    go_ret2
    exact ⟨by rw [HE.out]; rfl, hB2⟩
end Go.Proofs.YtahpoemmlpbgdaaGreat
namespace Go.Proofs.YtahpoemmlpbgdaaGreat
open Go.RowKit

theorem two_strings (a b : ByteArray) : ∀ u ∈ [Value.string a, Value.string b], u.oneCell' = true := by
  intro u hu
  simp only [List.mem_cons, List.not_mem_nil, or_false] at hu
  rcases hu with rfl | rfl <;> rfl

/-- A list that is grown in a variable of the call's own: its block o, the block r of the result, all made ahead of b. -/
structure OutAt (o r b : Nat) (W : World) (v : Value) (pre : List FileL) : Prop where
  ob : o < b
  rb : r < b
  ne : r ≠ o
  res : W.cell? ⟨r, 0, none⟩ = some (.slice none 0 0)
  resf : W.frozen? ⟨r, 0, none⟩ = false
  out : W.cell? ⟨o, 0, none⟩ = some v
  outf : W.frozen? ⟨o, 0, none⟩ = false
  own : W.ownsRow b 38 2 v pre.length (cellsF pre)
  size : b ≤ W.heap.size
theorem OutAt.far {o r b : Nat} {W : World} {v : Value} {pre : List FileL} (h : OutAt o r b W v pre) {j : Nat} (hj : j < b) : some j ≠ v.ownBlock := fun e => by
  have := (h.own.lt j e.symm).1
  omega
theorem OutAt.step {o r b : Nat} {W w1 : World} {v v' : Value} {pre : List FileL} {A T : ByteArray} (h : OutAt o r b W v pre) (hgr : W.grownBy w1 v.ownBlock) (hown1 : w1.ownsRow b 38 2 v' (pre.length + 1) (cellsF pre ++ [.string A, .string T])) :
    OutAt o r b (w1.setCell ⟨o, 0, none⟩ v') v' (pre ++ [(A, T)]) ∧ (∀ p : Addr, p.block < b → p.block ≠ o → (w1.setCell ⟨o, 0, none⟩ v').cell? p = W.cell? p) := by
  have key : ∀ p : Addr, p.block < b → p.block ≠ o → (w1.setCell ⟨o, 0, none⟩ v').cell? p = W.cell? p ∧ (w1.setCell ⟨o, 0, none⟩ v').frozen? p = W.frozen? p := by
    intro p hp hne
    have e1 : (w1.setCell ⟨o, 0, none⟩ v').heap[p.block]? = w1.heap[p.block]? := Below.heap_setCell w1 ⟨o, 0, none⟩ v' p.block hne
    have e2 := hgr.block p.block (Nat.lt_of_lt_of_le hp h.size) (h.far hp)
    exact ⟨World.cell?_of_block (e1.trans e2), World.frozen?_of_block (e1.trans e2)⟩
  have oz : o < W.heap.size := World.block_lt_of_cell? W _ h.out
  have ho1 : w1.cell? ⟨o, 0, none⟩ = some v := hgr.cell h.out (h.far h.ob)
  refine ⟨⟨h.ob, h.rb, h.ne, (key ⟨r, 0, none⟩ h.rb h.ne).1.trans h.res, (key ⟨r, 0, none⟩ h.rb h.ne).2.trans h.resf, World.cell?_setCell_same _ _ _ ho1, ?_, ?_, ?_⟩, fun p hp hne => (key p hp hne).1⟩
  · rw [World.frozen?_setCell]
    exact (hgr.frozen_far ⟨o, 0, none⟩ oz (h.far h.ob)).trans h.outf
  · have e : cellsF pre ++ [.string A, .string T] = cellsF (pre ++ [(A, T)]) := by rw [cellsF_app]; rfl
    rw [e] at hown1
    rw [List.length_append]
    refine own_set hown1 o 0 v' fun e => ?_
    have := (hown1.lt o e).1
    have := h.ob
    omega
  · have := hgr.size
    have := h.size
    simp [World.setCell]
    omega
theorem three_0 (w : World) (x y z : Obj) : (((w.alloc x).alloc y).alloc z).heap[w.heap.size]? = some x := by
  rw [Below.heap_alloc _ _ _ (by simp; omega), Below.heap_alloc _ _ _ (by simp)]
  exact heap_alloc_new w x
theorem three_1 (w : World) (x y z : Obj) : (((w.alloc x).alloc y).alloc z).heap[w.heap.size + 1]? = some y := by
  rw [Below.heap_alloc _ _ _ (by simp)]
  have := heap_alloc_new (w.alloc x) y
  simpa using this
theorem three_2 (w : World) (x y z : Obj) : (((w.alloc x).alloc y).alloc z).heap[w.heap.size + 1 + 1]? = some z := by
  have := heap_alloc_new ((w.alloc x).alloc y) z
  simpa using this
theorem outStart_d (w : World) (d : Value) (t : TypeId) : (((w.alloc (.cells #[d] t)).alloc (.cells #[.slice none 0 0] t)).alloc (.cells #[.slice none 0 0] t)).cell? ⟨w.heap.size, 0, none⟩ = some d :=
  cell_of_row _ _ _ _ _ _ (three_0 w _ _ _)
theorem outStart (w : World) (d : Value) (t : TypeId) : OutAt (w.heap.size + 1 + 1) (w.heap.size + 1) (w.heap.size + 3) (((w.alloc (.cells #[d] t)).alloc (.cells #[.slice none 0 0] t)).alloc (.cells #[.slice none 0 0] t)) (.slice none 0 0) [] where
  ob := by omega
  rb := by omega
  ne := by omega
  res := cell_of_row _ _ _ _ _ _ (three_1 w _ _ _)
  resf := frozen_of_row _ _ _ _ _ (three_1 w _ _ _)
  out := cell_of_row _ _ _ _ _ _ (three_2 w _ _ _)
  outf := frozen_of_row _ _ _ _ _ (three_2 w _ _ _)
  own := World.ownsRow_nil _ _ _ _
  size := by simp
theorem filter_step {p : FileL → Bool} {l : List FileL} {k : Nat} (hk : k < l.length) : (l.take (k + 1)).filter p = (l.take k).filter p ++ (if p l[k] then [l[k]] else []) := by
  rw [List.take_succ_eq_append_getElem hk, List.filter_append]
  congr 1
  rw [List.filter_cons, List.filter_nil]

set_option maxHeartbeats 4000000 in
set_option maxRecDepth 100000 in
theorem l03Drop_is {a : Option Addr} {g off cap : Nat} (l : List FileL) (hlen : l.length ≤ 1048576) (n : ByteArray) (w : World) (hf : FilesAt w a g off l) :
    Calls Tryz.prog 73 #[.agg #[.slice a l.length cap], .string n] w fun e w' => ∃ v : Value, e = .returned (.agg #[v]) ∧ w'.ownsRow w.heap.size 38 2 v (l.filter fun f => !Disks.nameIs n f).length (cellsF (l.filter fun f => !Disks.nameIs n f)) ∧ Below w.heap.size w w' := by
  obtain ⟨i0, hi, hz0, hz1, hz2⟩ := info_parts Tryz.info38
  have HF : Hid (FilesAt w a g off l) := hf
  clear hf
  go_enter Tryz.func73, Tryz.ntmps73
  go_wp2
  go_loopw [6] (fun i wr => ∃ (k : Nat) (v : Value) (pre : List FileL), k ≤ l.length ∧ i = .int .i64 (k : Int) ∧ pre = (l.take k).filter (fun f => !Disks.nameIs n f) ∧ pre.length ≤ k ∧ wr.cell? ⟨w.heap.size, 0, none⟩ = some (.slice a l.length cap) ∧
      OutAt (w.heap.size + 1 + 1) (w.heap.size + 1) (w.heap.size + 3) wr v pre ∧ Below w.heap.size w wr)
    (fun i _ => l.length - (intOf i).toNat)
  case atStart =>
    refine ⟨0, .slice none 0 0, [], Nat.zero_le _, rfl, rfl, Nat.zero_le _, ?_, ?_, ?_⟩
    · exact outStart_d w _ 41
    · exact outStart w _ 41
    · exact (((Below.refl _ _).alloc (Nat.le_refl _) _).alloc (by simp) _).alloc (by simp; omega) _
  case round =>
    obtain ⟨k, v, pre, hk, rfl, hpre, hpk, hd, hout, hbel⟩ := hrel
    have HOUT : Hid (OutAt (w.heap.size + 1 + 1) (w.heap.size + 1) (w.heap.size + 3) wr v pre) := hout
    have ho := hout.out
    clear hout
    by_cases hlt : k < l.length
    · obtain ⟨c0, c1⟩ := (HF.out.kept hbel).2 k hlt
      have hgz := (HF.out.kept hbel).lt (by omega)
      have ea := HF.out.1 (by omega)
      subst ea
      obtain ⟨A, hA⟩ : ∃ A, A = l[k].1 := ⟨_, rfl⟩
      obtain ⟨T, hT⟩ : ∃ T, T = l[k].2 := ⟨_, rfl⟩
      rw [← hA] at c0
      rw [← hT] at c1
      have HAA : Hid (l[k] = (A, T)) := by show _ = _; rw [hA, hT]
      have HP : Hid (pre = (l.take k).filter (fun f => !Disks.nameIs n f)) := hpre
      clear hA hT hpre
      have hk0 : (0 : Int) ≤ (k : Int) := by omega
      have hk1 : (k : Int) < (l.length : Int) := by omega
      by_cases hb : (A.toList == n.toList) = true
      · go_wp2
        go_roundw
        case rel =>
          refine ⟨k + 1, v, pre, by omega, by go_num, ?_, by omega, hd, HOUT.out, hbel⟩
          rw [filter_step hlt, ← HP.out, HAA.out, if_neg (by simp [Disks.nameIs, hb])]
          simp
        case measure => simp [intOf]; omega
      · have hb' : (A.toList == n.toList) = false := by simpa using hb
        have h63 : pre.length + 1 ≤ maxLen := by unfold maxLen; omega
        have hby : (pre.length + 1) * 32 ≤ 140737488355328 := by omega
        have hbs : w.heap.size + 3 ≤ (wr.alloc (Obj.cells #[Value.string A, Value.string T] 38)).drew.heap.size := by have := HOUT.out.size; simp; omega
        have HGA : Hid (wr.grownBy ((wr.alloc (Obj.cells #[Value.string A, Value.string T] 38)).drew) v.ownBlock) := grown_drew (World.grownBy_alloc wr _ _)
        have hoA : (wr.alloc (Obj.cells #[Value.string A, Value.string T] 38)).cell? ⟨w.heap.size + 1 + 1, 0, none⟩ = some v := (World.cell?_alloc_lt wr _ _ (World.block_lt_of_cell? wr _ ho)).trans ho
        go_wp2
        go_region_law (refine step_append_lies _ (by rfl) _ _ _ (by rfl) (w.heap.size + 3) 38 i0 _ 2 32 Tryz.underlying39 hi hz0 hz1 hz2 rfl (Nat.zero_lt_succ _) v pre.length (cellsF pre) (by rfl) ((HOUT.out.own.alloc _).drew) ⟨wr.heap.size, 0, none⟩ 1 1 [.string A, .string T] (by rfl) (by rfl) (World.news_of_block (cs := #[.string A, .string T]) (t := 38) (fr := (0, 0)) (heap_alloc_new wr _)) (two_strings _ _) (Nat.zero_lt_succ _) h63 hby hbs (wr.heap.size + 1) (Array.size_push ..) ?_; intro g2 cap2 w1 hown1 hgrow hat hlt2; have hgr := HGA.out.trans hgrow; have ho1 := hgr.cell ho (HOUT.out.far HOUT.out.ob); have hof1 := (hgr.frozen_far ⟨w.heap.size + 1 + 1, 0, none⟩ (World.block_lt_of_cell? wr _ ho) (HOUT.out.far HOUT.out.ob)).trans HOUT.out.outf)
        all_goals
          have hst := HOUT.out.step hgr hown1
          have HST : Hid (_ ∧ _) := hst
          have hB1 : Below w.heap.size w w1 := hbel.grown hgr hbel.size (fun j hj => by have := (HOUT.out.own.lt j hj).1; omega)
          clear hst hgr hgrow hown1
          go_wp2
          go_roundw
          case rel =>
            refine ⟨k + 1, _, pre ++ [(A, T)], by omega, by go_num, ?_, by simp; omega, ?_, HST.out.1, hB1.setCell (by simp; omega) _⟩
            · rw [filter_step hlt, ← HP.out, HAA.out, if_pos (by simp [Disks.nameIs, hb'])]
            · rw [HST.out.2 _ (by simp) (by simp; omega)]; exact hd
          case measure => simp [intOf]; omega
    · have hk1 : ¬ (k : Int) < (l.length : Int) := by omega
      have HP : Hid (pre = l.filter (fun f => !Disks.nameIs n f)) := by show _ = _; rw [hpre, List.take_of_length_le (by omega)]
      clear hpre
      obtain ⟨va, vc, rfl⟩ := own_slice HOUT.out.own
      have hr := HOUT.out.res
      have hrf := HOUT.out.resf
      have hof := HOUT.out.outf
      have hres := World.cell?_setCell_same wr _ (.slice va pre.length vc) hr
      go_wp2
      refine bodyPost_ret (v := .agg #[.slice va pre.length vc]) (by simp [results, Tryz.results73, go_sem, hres]) rfl ⟨_, rfl, ?_, hbel.setCell (by simp) _⟩
      rw [← HP.out]
      exact own_set (own_mono HOUT.out.own (by omega)) _ _ _ (fun e => by have := (HOUT.out.own.lt _ e).1; omega)
end Go.Proofs.YtahpoemmlpbgdaaGreat
