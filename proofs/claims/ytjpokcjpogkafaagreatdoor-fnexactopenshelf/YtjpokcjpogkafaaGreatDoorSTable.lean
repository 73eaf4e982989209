/- Lists of raw writes in memory, 4 cells each; measured, copied, held against each other, marked. Made by program. Plain facts on shelves: a batch added is done to the map; cut anywhere, the shelf comes back as it was, or as it would be; no program is named here. A map of spots in memory, read as an ascending list; spots put into it one by one. -/
import Derived.Test.YtjpokcjpogkafaaGreatDoorReader
import Derived.Test.YtjpokcjpogkafaaGreatDoorRaws
import Derived.Test.YtjpokcjpogkafaaGreatDoorPutRaw
import Derived.Test.YtjpokcjpogkafaaGreatDoorProg
import Derived.WalkKit
import Derived.WalkSpells
import Derived.WalkLawsBesides
import Derived.Laws.IdiomStrings
import Derived.Laws.BytesArg
import Derived.Laws.BitsAllLaws
import Derived.BigQuiet
import Derived.Laws.AppendOwnNone
import Derived.Deep.RegionHeld3
import Derived.Deep.DeepCutAuto
import Derived.Test.YtjpokcjpogkafaaGreatDoorReadLaw
import Derived.Test.YtjpokcjpogkafaaGreatDoorMathMan
import Derived.Test.YtjpokcjpogkafaaGreatDoorFiles
import Derived.Test.YtjpokcjpogkafaaGreatDoorReadBatch
import Derived.Maps.RangeWalk
import Derived.Sort.KeysCollected
namespace Go.Proofs.YtjpokcjpogkafaaGreatDoor
open Go.RowKit
set_option linter.unusedVariables false
set_option linter.unusedSimpArgs false

def cellsRaw (l : List Disks.RawL) : List Value := l.flatMap fun r => [.int .i64 r.kind, .string r.name, .string r.to, .string r.text]
theorem cellsRaw_len : ∀ l : List Disks.RawL, (cellsRaw l).length = l.length * 4
  | [] => rfl
  | r :: l => by have := cellsRaw_len l; simp only [cellsRaw, List.flatMap_cons, List.length_append, List.length_cons, List.length_nil] at *; omega
theorem cellsRaw_at : ∀ (l : List Disks.RawL) (j : Nat) (hj : j < l.length), (cellsRaw l)[j * 4]? = some (.int .i64 l[j].kind) ∧ (cellsRaw l)[j * 4 + 1]? = some (.string l[j].name) ∧ (cellsRaw l)[j * 4 + 2]? = some (.string l[j].to) ∧ (cellsRaw l)[j * 4 + 3]? = some (.string l[j].text)
  | r :: l, 0, _ => ⟨rfl, rfl, rfl, rfl⟩
  | r :: l, j + 1, hj => by
    have := cellsRaw_at l j (by simpa using hj)
    simpa [cellsRaw, Nat.add_mul, Nat.add_assoc] using this
theorem cellsRaw_set : ∀ (l : List Disks.RawL) (j : Nat) (r : Disks.RawL), cellsRaw (l.set j r) = ((((cellsRaw l).set (j * 4) (.int .i64 r.kind)).set (j * 4 + 1) (.string r.name)).set (j * 4 + 2) (.string r.to)).set (j * 4 + 3) (.string r.text)
  | [], j, r => by simp [cellsRaw]
  | x :: l, 0, r => by simp [cellsRaw]
  | x :: l, j + 1, r => by
    have := cellsRaw_set l j r
    simp only [cellsRaw, List.set_cons_succ, List.flatMap_cons, List.cons_append, List.nil_append, Nat.add_mul] at *
    rw [this]
theorem cellsRaw_own {w : World} {base : Nat} {e : TypeId} {g n cap : Nat} {l : List Disks.RawL} (hn : l.length = n) (h : w.ownsRow base e 4 (.slice (some ⟨g, 0, none⟩) n cap) n (cellsRaw l)) : RawsAt w (some ⟨g, 0, none⟩) g 0 l := by
  refine ⟨fun _ => rfl, fun j hj => ?_⟩
  rw [Nat.zero_add, h.cellAt (j * 4) (by omega), h.cellAt (j * 4 + 1) (by omega), h.cellAt (j * 4 + 2) (by omega), h.cellAt (j * 4 + 3) (by omega)]
  exact cellsRaw_at l j hj
theorem cellsRaw_slice {w : World} {base : Nat} {v : Value} {l : List Disks.RawL} (h : w.ownsRow base 86 4 v l.length (cellsRaw l)) : ∃ a g cap, v = .slice a l.length cap ∧ RawsAt w a g 0 l := by
  rcases h.2 with ⟨h1, h2⟩ | ⟨g, cap, cur, h1, _⟩
  · exact ⟨none, 0, 0, by rw [h1, h2], fun q => by omega, fun j hj => by omega⟩
  · subst h1; exact ⟨_, g, cap, rfl, cellsRaw_own rfl h⟩
theorem Tryz.info86 : (Tryz.prog.info? 86).map (fun i => (i.zero, i.size, i.bytes)) = some (some (.agg #[.int .i64 0, .string ByteArray.empty, .string ByteArray.empty, .string ByteArray.empty]), 4, 56) := by kernel_rfl
set_option maxHeartbeats 2000000 in
set_option maxRecDepth 100000 in
theorem eqRaw1_same (r : Disks.RawL) (w : World) : Calls Tryz.prog 50 #[rawV r, rawV r] w fun e w' => e = .returned (.bool true) ∧ Below w.heap.size w w' := by
  obtain ⟨F0, F1, F2, F3⟩ := r
  unfold rawV
  go_enter Tryz.func50, Tryz.ntmps50
  go_wp2
  go_ret
  exact ⟨rfl, ((Below.refl _ _).alloc (Nat.le_refl _) _).alloc (by simp) _⟩
set_option maxHeartbeats 2000000 in
set_option maxRecDepth 100000 in
theorem eqRawS_same {a b : Option Addr} {g off cap h off' cap' : Nat} (l : List Disks.RawL) (hlen : l.length ≤ 1048576) (w : World) (hf : RawsAt w a g off l) (hf' : RawsAt w b h off' l) :
    Calls Tryz.prog 12 #[.slice a l.length cap, .slice b l.length cap'] w fun e w' => e = .returned (.bool true) ∧ Below w.heap.size w w' := by
  have HF : Hid (RawsAt w a g off l) := hf
  have HF' : Hid (RawsAt w b h off' l) := hf'
  clear hf hf'
  go_enter Tryz.func12, Tryz.ntmps12
  go_wp2
  go_loopw [5] (fun i wr => ∃ k : Nat, k ≤ l.length ∧ i = .int .i64 (k : Int) ∧ Below w.heap.size w wr)
    (fun i _ => l.length - (intOf i).toNat)
  case atStart => exact ⟨0, Nat.zero_le _, rfl, Below.refl _ _⟩
  case round =>
    obtain ⟨k, hk, rfl, hbel⟩ := hrel
    by_cases hlt : k < l.length
    · have hcc := (HF.out.kept hbel).2 k hlt
      have hdd := (HF'.out.kept hbel).2 k hlt
      have ea := HF.out.1 (by omega)
      have eb := HF'.out.1 (by omega)
      subst ea eb
      obtain ⟨F0, hF0⟩ : ∃ F0, F0 = l[k].kind := ⟨_, rfl⟩
      obtain ⟨F1, hF1⟩ : ∃ F1, F1 = l[k].name := ⟨_, rfl⟩
      obtain ⟨F2, hF2⟩ : ∃ F2, F2 = l[k].to := ⟨_, rfl⟩
      obtain ⟨F3, hF3⟩ : ∃ F3, F3 = l[k].text := ⟨_, rfl⟩
      have HEL : Hid (l[k] = ⟨F0, F1, F2, F3⟩) := by show _ = _; rw [hF0, hF1, hF2, hF3]
      simp only [← hF0, ← hF1, ← hF2, ← hF3] at hcc hdd
      obtain ⟨c0, c1, c2, c3⟩ := hcc
      obtain ⟨d0, d1, d2, d3⟩ := hdd
      clear hF0 hF1 hF2 hF3
      have hk0 : (0 : Int) ≤ (k : Int) := by omega
      have hk1 : (k : Int) < (l.length : Int) := by omega
      go_wp2
      have NE := Abv.ne wr
      have C0 := fun x : Abv wr => x.cell c0
      have D0 := fun x : Abv wr => x.cell d0
      have C1 := fun x : Abv wr => x.cell c1
      have D1 := fun x : Abv wr => x.cell d1
      have C2 := fun x : Abv wr => x.cell c2
      have D2 := fun x : Abv wr => x.cell d2
      have C3 := fun x : Abv wr => x.cell c3
      have D3 := fun x : Abv wr => x.cell d3
      refine wp_region_above (by kernel_rfl) (by kernel_rfl) ?_
      repeat (go_big_quiet_step (first | (go_at_call 50; exact calls_above (eqRaw1_same ⟨F0, F1, F2, F3⟩ _))))
      refine wpQuiet_nil ?_
      rintro w1 ⟨⟨_, hb1⟩, rfl⟩
      clear NE C0 D0 C1 D1 C2 D2 C3 D3
      go_wp2
      go_roundw
      case rel => exact ⟨k + 1, by omega, by go_num, hbel.trans (hb1.mono hbel.size)⟩
      case measure => simp [intOf]; omega
    · have hk1 : ¬ (k : Int) < (l.length : Int) := by omega
      go_wp2
      go_ret
      exact ⟨rfl, hbel⟩
theorem RawsAt.cellsAll {w : World} {a : Option Addr} {g off : Nat} {l : List Disks.RawL} (h : RawsAt w a g off l) : ∀ j u, (cellsRaw l)[j]? = some u → w.cell? ((⟨g, off, none⟩ : Addr).add j) = some u := by
  intro j u hu
  rw [Addr.add_lit]
  have hj : j < l.length * 4 := by rw [← cellsRaw_len]; exact (List.getElem?_eq_some_iff.1 hu).1
  obtain ⟨k, i, hi, rfl⟩ : ∃ k i, i < 4 ∧ j = k * 4 + i := ⟨j / 4, j % 4, by omega, by omega⟩
  have h1 := cellsRaw_at l k (by omega)
  have h2 := h.2 k (by omega)
  have h3 : i = 0 ∨ i = 1 ∨ i = 2 ∨ i = 3 := by omega
  rcases h3 with rfl | rfl | rfl | rfl
  · rw [show k * 4 + 0 = k * 4 from by omega, h1.1] at hu
    rw [← Option.some.inj hu]
    simpa [Nat.add_assoc] using h2.1
  · rw [h1.2.1] at hu
    rw [← Option.some.inj hu]
    simpa [Nat.add_assoc] using h2.2.1
  · rw [h1.2.2.1] at hu
    rw [← Option.some.inj hu]
    simpa [Nat.add_assoc] using h2.2.2.1
  · rw [h1.2.2.2] at hu
    rw [← Option.some.inj hu]
    simpa [Nat.add_assoc] using h2.2.2.2
theorem cellsRaw_one {l : List Disks.RawL} : ∀ u ∈ cellsRaw l, u.oneCell' = true := by
  intro u hu
  unfold cellsRaw at hu
  obtain ⟨r, _, hr⟩ := List.mem_flatMap.1 hu
  simp only [List.mem_cons, List.not_mem_nil, or_false] at hr
  rcases hr with rfl | rfl | rfl | rfl <;> rfl
/-- 'append(x, y...)' onto a row of the call's own. -/
theorem wpList_appendRaw {w : World} {ops : Array Oper} {rest : List Oper} {o : Oper} {act : Act} {Q : Exit → Act → World → Prop} (hgd : o.guard = none) (s x : Operand)
    (ho : o.op = .call { callee := .builtin .append, args := #[s, x], argTypes := #[32, 32] }) (base : Nat) (v : Value) (n : Nat) (xs : List Value) (hs : act.eval s = v) (hown : w.ownsRow base 86 4 v n xs)
    (a : Option Addr) (g off cap : Nat) (l : List Disks.RawL) (hx : act.eval x = .slice a l.length cap) (hf : RawsAt w a g off l) (hnil : a = none → cap = 0) (h63 : n + l.length ≤ 2097152) (hbase : base ≤ w.heap.size)
    (h : ∀ v' w', w'.ownsRow base 86 4 v' (n + l.length) (xs ++ cellsRaw l) → w.grownBy w' v.ownBlock → wpList Tryz.prog ops Q rest (act.put o.dst v') w') : wpList Tryz.prog ops Q (o :: rest) act w := by
  obtain ⟨i0, hi, hz0, hz1, hz2⟩ := info_parts Tryz.info86
  cases a with
  | none =>
    have hl : l = [] := by
      cases l with
      | nil => rfl
      | cons f r => have := hf.1 (by simp); cases this
    subst hl
    rw [hnil rfl] at hx
    refine wpList_append_own_none hgd s x 32 ho base 86 i0 4 Tryz.underlying32 hi v n xs hs hown hx ?_
    refine h v w ?_ (World.grownBy.refl _ _)
    simpa [cellsRaw] using hown
  | some ad =>
    have had : 0 < l.length → ad = ⟨g, off, none⟩ := fun hp => Option.some.inj (hf.1 hp)
    refine wpList_append_own w hgd s x 32 ho base 86 i0 (.agg #[.int .i64 0, .string ByteArray.empty, .string ByteArray.empty, .string ByteArray.empty]) 4 56 Tryz.underlying32 hi hz0 hz1 hz2 rfl (by decide) v n xs hs hown ad l.length cap (cellsRaw l) hx (cellsRaw_len l) ?_ cellsRaw_one (by unfold maxLen; omega) (by omega) hbase ?_
    · intro j u hu
      have hp : 0 < l.length := by
        have := (List.getElem?_eq_some_iff.1 hu).1
        rw [cellsRaw_len] at this
        omega
      rw [had hp]
      exact hf.cellsAll j u hu
    · intro v' w' h1 h2 _
      exact h v' w' h1 h2
/-- Marked ones: from k on, 4 numbers each. -/
def markRaw1 (m : Nat) : Disks.RawL := ⟨((m : Nat) : Int), mk_pk (m + 1), mk_pk (m + 2), mk_pk (m + 3)⟩
def marksRaw (k n : Nat) : List Disks.RawL := (List.range n).map fun i => markRaw1 (k + 4 * i)
theorem marksRaw_len (k n : Nat) : (marksRaw k n).length = n := by simp [marksRaw]
theorem marksRaw_at (k n j : Nat) (hj : j < (marksRaw k n).length) : (marksRaw k n)[j] = markRaw1 (k + 4 * j) := by simp [marksRaw]
theorem markText_at_pk (M i : Nat) (x : Int) (hx : x = ((M + i : Nat) : Int)) (h0 : 0 < M) (hk : M + i ≤ 1000000000) (w : World) :
    Calls Tryz.prog 55 #[.int .i64 x] w fun e w' => e = .returned (.string (mk_pk (M + i))) ∧ Below w.heap.size w w' := by
  rw [hx]; exact markText_is_pk (M + i) (by omega) hk w
set_option maxHeartbeats 2000000 in
set_option maxRecDepth 100000 in
theorem markRawS_is {B g cap : Nat} (l : List Disks.RawL) (hlen : l.length ≤ 1048576) (k : Nat) (h0 : 0 < k) (hk : k ≤ 100000000) (w : World) (hA : w.ownsRow B 86 4 (.slice (some ⟨g, 0, none⟩) l.length cap) l.length (cellsRaw l)) :
    Calls Tryz.prog 16 #[.slice (some ⟨g, 0, none⟩) l.length cap, .int .i64 (k : Int)] w fun e w' => e = .returned (.int .i64 ((k + 4 * l.length : Nat) : Int)) ∧ w'.ownsRow B 86 4 (.slice (some ⟨g, 0, none⟩) l.length cap) l.length (cellsRaw (marksRaw k l.length)) ∧ w.grownBy w' (some g) := by
  go_enter Tryz.func16, Tryz.ntmps16
  go_wp2
  go_loopw [1, 5] (fun x i wr => ∃ (j : Nat) (pre : List Disks.RawL), j ≤ l.length ∧ i = .int .i64 (j : Int) ∧ x = .int .i64 ((k + 4 * j : Nat) : Int) ∧ pre.length = l.length ∧ pre.take j = (marksRaw k l.length).take j ∧
      wr.ownsRow B 86 4 (.slice (some ⟨g, 0, none⟩) l.length cap) l.length (cellsRaw pre) ∧ w.grownBy wr (some g)) (fun _ i _ => l.length - (intOf i).toNat)
  case atStart => exact ⟨0, l, Nat.zero_le _, rfl, rfl, rfl, by simp, hA, World.grownBy.refl _ _⟩
  case round =>
    obtain ⟨j, pre, hj, rfl, rfl, hpl, hpt, hown, hgr⟩ := hrel
    have HL : Hid (pre.length = l.length) := hpl
    have HT : Hid (pre.take j = (marksRaw k l.length).take j) := hpt
    clear hpl hpt hA
    by_cases hlt : j < l.length
    · have hk0 : (0 : Int) ≤ (j : Int) := by omega
      have hk1 : (j : Int) < (l.length : Int) := by omega
      obtain ⟨M, hM⟩ : ∃ M : Nat, M = k + 4 * j := ⟨_, rfl⟩
      have hMb : 0 < M ∧ M ≤ 900000000 := by omega
      have HM : Hid (M = k + 4 * j) := hM
      rw [← hM]
      clear hM
      have hw0 := hown
      have hgw0 := hgr
      have hf0 := hw0.frozenAt (j * 4)
      obtain ⟨u0, hu0⟩ := own_cell_ex (q := j * 4) hw0 (by omega) (by simp only [List.length_set, cellsRaw_len, HL.out])
      have hs0 := (hw0.stored (j * 4) (.int .i64 ((M + 0 : Nat) : Int)))
      have hgs0 := (hgw0.trans (hw0.stored (j * 4) (.int .i64 ((M + 0 : Nat) : Int))).2)
      have HS0 : Hid _ := hs0.1
      have HG0 : Hid _ := hgs0
      clear hown hgr
      clear hs0 hgs0 hw0 hgw0
      go_wp2_with fail
      refine (markText_at_pk M 1 _ (by omega) (by omega) (by omega) _).mono ?_
      rintro e w1 ⟨rfl, hb1⟩
      have hw1 := own_kept HS0.out hb1
      have hgw1 := HG0.out.trans (own_below'_pk hb1)
      clear hb1
      have hf1 := hw1.frozenAt (j * 4 + 1)
      obtain ⟨u1, hu1⟩ := own_cell_ex (q := j * 4 + 1) hw1 (by omega) (by simp only [List.length_set, cellsRaw_len, HL.out])
      have hs1 := (hw1.stored (j * 4 + 1) (.string (mk_pk (M + 1))))
      have hgs1 := (hgw1.trans (hw1.stored (j * 4 + 1) (.string (mk_pk (M + 1)))).2)
      have HS1 : Hid _ := hs1.1
      have HG1 : Hid _ := hgs1
      clear hs1 hgs1 hw1 hgw1
      go_wp2_with fail
      refine (markText_at_pk M 2 _ (by omega) (by omega) (by omega) _).mono ?_
      rintro e w2 ⟨rfl, hb2⟩
      have hw2 := own_kept HS1.out hb2
      have hgw2 := HG1.out.trans (own_below'_pk hb2)
      clear hb2
      have hf2 := hw2.frozenAt (j * 4 + 2)
      obtain ⟨u2, hu2⟩ := own_cell_ex (q := j * 4 + 2) hw2 (by omega) (by simp only [List.length_set, cellsRaw_len, HL.out])
      have hs2 := (hw2.stored (j * 4 + 2) (.string (mk_pk (M + 2))))
      have hgs2 := (hgw2.trans (hw2.stored (j * 4 + 2) (.string (mk_pk (M + 2)))).2)
      have HS2 : Hid _ := hs2.1
      have HG2 : Hid _ := hgs2
      clear hs2 hgs2 hw2 hgw2
      go_wp2_with fail
      refine (markText_at_pk M 3 _ (by omega) (by omega) (by omega) _).mono ?_
      rintro e w3 ⟨rfl, hb3⟩
      have hw3 := own_kept HS2.out hb3
      have hgw3 := HG2.out.trans (own_below'_pk hb3)
      clear hb3
      have hf3 := hw3.frozenAt (j * 4 + 3)
      obtain ⟨u3, hu3⟩ := own_cell_ex (q := j * 4 + 3) hw3 (by omega) (by simp only [List.length_set, cellsRaw_len, HL.out])
      have hs3 := (hw3.stored (j * 4 + 3) (.string (mk_pk (M + 3))))
      have hgs3 := (hgw3.trans (hw3.stored (j * 4 + 3) (.string (mk_pk (M + 3)))).2)
      have HS3 : Hid _ := hs3.1
      have HG3 : Hid _ := hgs3
      clear hs3 hgs3 hw3 hgw3
      go_wp2
      go_roundw
      case rel =>
        have e := cellsRaw_set pre j (markRaw1 M)
        refine ⟨j + 1, pre.set j (markRaw1 M), by omega, by go_num, ?_, by rw [List.length_set]; exact HL.out, ?_, ?_, HG3.out⟩
        · refine congrArg (Value.int .i64) ?_
          have := HM.out
          omega
        · refine take_set_step (by rw [marksRaw_len]; exact hlt) (by rw [marksRaw_len]; exact HL.out) HT.out ?_
          rw [marksRaw_at, ← HM.out]
        · rw [e]; exact HS3.out
      case measure => simp [intOf]; omega
    · have hk1 : ¬ (j : Int) < (l.length : Int) := by omega
      have HE : Hid (pre = marksRaw k l.length ∧ j = l.length) := by
        have h := HT.out
        rw [List.take_of_length_le (by rw [HL.out]; omega), List.take_of_length_le (by rw [marksRaw_len]; omega)] at h
        exact ⟨h, by omega⟩
      go_wp2
      go_ret
      refine ⟨by rw [← HE.out.2]; rfl, by rw [← HE.out.1]; exact hown, hgr⟩
set_option maxHeartbeats 2000000 in
set_option maxRecDepth 100000 in
theorem markRawS_nil (k : Nat) (w : World) : Calls Tryz.prog 16 #[.slice none 0 0, .int .i64 (k : Int)] w fun e w' => e = .returned (.int .i64 (k : Int)) ∧ w = w' := by
  go_enter Tryz.func16, Tryz.ntmps16
  go_wp2
  refine wp_loop_rounds 1 ?_
  rw [rounds_succ]
  go_wp2
  go_ret
  exact ⟨rfl, rfl⟩
theorem markRawS_own {B : Nat} {v : Value} (l : List Disks.RawL) (hlen : l.length ≤ 1048576) (k : Nat) (h0 : 0 < k) (hk : k ≤ 100000000) (w : World) (hA : w.ownsRow B 86 4 v l.length (cellsRaw l)) :
    Calls Tryz.prog 16 #[v, .int .i64 (k : Int)] w fun e w' => e = .returned (.int .i64 ((k + 4 * l.length : Nat) : Int)) ∧ w'.ownsRow B 86 4 v l.length (cellsRaw (marksRaw k l.length)) ∧ w.grownBy w' v.ownBlock := by
  rcases hA.2 with ⟨h1, h2⟩ | ⟨g, cap, cur, h1, _⟩
  · subst h1
    have hl : l = [] := List.length_eq_zero_iff.1 h2
    subst hl
    refine (markRawS_nil k w).mono ?_
    rintro e w' ⟨rfl, rfl⟩
    exact ⟨rfl, World.ownsRow_nil _ _ _ _, World.grownBy.refl _ _⟩
  · subst h1
    exact markRawS_is l hlen k h0 hk w hA
end Go.Proofs.YtjpokcjpogkafaaGreatDoor
namespace Go.Proofs.YtjpokcjpogkafaaGreatDoor
set_option linter.unusedVariables false
namespace Shelves
open Go
open Batches (by_ by_inj lt)
open Scan (segEnd segSpots segStamp Full valAt by_len)
open Disks (fileAt textOf RawL nameIs run putRaw rawOut)
theorem app_bytes (n : Int) (l : List FileL) (f : List UInt8) : textOf l (segName n) ++ (⟨f.toArray⟩ : ByteArray) = ⟨(textAt l n ++ f).toArray⟩ := by
  apply by_inj
  show (textOf l (segName n) ++ (⟨f.toArray⟩ : ByteArray)).data.toList = textAt l n ++ f
  rw [ByteArray.data_append]
  simp [textAt, by_]
end Shelves
end Go.Proofs.YtjpokcjpogkafaaGreatDoor
namespace Go.Proofs.YtjpokcjpogkafaaGreatDoor
open Go.RowKit Go.Maps
set_option linter.unusedVariables false

def sdat (c : SpotL) : DataW Unit := .agg [.lit (.string (Batches.by_ c.key)), .lit (.int .i64 c.seg), .lit (.int .i64 c.pos), .lit (.int .i64 c.size)]
theorem sdat_inj {c d : SpotL} (h : sdat c = sdat d) : c = d := by
  obtain ⟨A, S, P, Z⟩ := c
  obtain ⟨A', S', P', Z'⟩ := d
  unfold sdat at h
  simp only [DataW.agg.injEq, List.cons.injEq, DataW.lit.injEq, Lit.string.injEq, Lit.int.injEq, and_true, true_and] at h
  obtain ⟨h1, h2, h3, h4⟩ := h
  rw [Batches.by_inj h1, h2, h3, h4]
def spotOf' : List Value → Option (DataW Unit × List MemPlace)
  | [.string k, .int .i64 s, .int .i64 p, .int .i64 z] => some (sdat ⟨k, s, p, z⟩, [])
  | _ => none
/-- How a spot in a map reads. -/
def spotElem : Value → Option (DataW Unit × List MemPlace)
  | .agg cs => spotOf' cs.toList
  | _ => none
theorem spotElem_mk (c : SpotL) : spotElem (spotV c) = some (sdat c, []) := rfl
theorem spotOf_inv {l : List Value} {z : DataW Unit × List MemPlace} (h : spotOf' l = some z) : ∃ c : SpotL, l = [.string c.key, .int .i64 c.seg, .int .i64 c.pos, .int .i64 c.size] ∧ z = (sdat c, []) := by
  unfold spotOf' at h
  split at h
  · rename_i k s p z
    cases h; exact ⟨⟨k, s, p, z⟩, rfl, rfl⟩
  · cases h
theorem spotElem_inv {v : Value} {z : DataW Unit × List MemPlace} (h : spotElem v = some z) : ∃ c : SpotL, v = spotV c ∧ z = (sdat c, []) := by
  cases v <;> simp only [spotElem, reduceCtorEq] at h
  rename_i cs
  obtain ⟨c, h1, h2⟩ := spotOf_inv h
  exact ⟨c, by unfold spotV; rw [← Array.toArray_toList (xs := cs), h1], h2⟩
structure STabIs (l : List SpotL) (D : DataW Unit) : Prop where
  has : ∀ n : ByteArray, Maps.has D (.string (Batches.by_ n)) = true ↔ ∃ c ∈ l, c.key = n
  elem : ∀ c ∈ l, ∀ z, D.atKey (.string (Batches.by_ c.key)) z = sdat c
theorem stab_nil : STabIs [] (.map []) := ⟨fun n => ⟨fun h => (by cases h), fun ⟨c, hc, _⟩ => (List.not_mem_nil hc).elim⟩, fun _ hf => (List.not_mem_nil hf).elim⟩
theorem skey_ne {a b : ByteArray} (h : a ≠ b) : (Lit.string (Batches.by_ a)) ≠ .string (Batches.by_ b) := fun e => h (Batches.by_inj (by simpa using e))
theorem stab_put {l : List SpotL} {D : DataW Unit} (h : STabIs l D) (hD : IsMap D) (x : SpotL) (hx : x.size ≠ -1) : STabIs (Dirs.put1 l x) (D.put (.string (Batches.by_ x.key)) (sdat x)) := by
  refine ⟨fun n => ?_, fun e he z => ?_⟩
  · by_cases hn : n = x.key
    · rw [hn, has_put_same hD (show WideAt.IsKeyLit (.string _) from trivial)]
      exact ⟨fun _ => ⟨x, Dirs.put1_mem.2 (Or.inr ⟨hx, rfl⟩), rfl⟩, fun _ => rfl⟩
    · rw [has_put_other (skey_ne hn), h.has]
      constructor
      · rintro ⟨e, he, q⟩; exact ⟨e, Dirs.put1_mem.2 (Or.inl ⟨he, by rw [q]; exact hn⟩), q⟩
      · rintro ⟨e, he, q⟩
        rcases Dirs.put1_mem.1 he with ⟨he, _⟩ | ⟨_, rfl⟩
        · exact ⟨e, he, q⟩
        · exact absurd q.symm hn
  · rcases Dirs.put1_mem.1 he with ⟨he, hne⟩ | ⟨_, rfl⟩
    · rw [atKey_put_other (skey_ne hne)]; exact h.elem e he z
    · exact atKey_put_same hD (show WideAt.IsKeyLit (.string _) from trivial) _ _
theorem stab_del {l : List SpotL} {D : DataW Unit} (h : STabIs l D) (x : SpotL) (hx : x.size = -1) : STabIs (Dirs.put1 l x) (D.del (.string (Batches.by_ x.key))) := by
  have hm : ∀ y, y ∈ Dirs.put1 l x ↔ y ∈ l ∧ y.key ≠ x.key := fun y => by rw [Dirs.put1_mem]; exact ⟨fun q => by rcases q with q | ⟨q, _⟩; exact q; exact absurd hx q, Or.inl⟩
  refine ⟨fun n => ?_, fun e he z => ?_⟩
  · by_cases hn : n = x.key
    · rw [hn, has_del_same]
      constructor
      · intro q; cases q
      · rintro ⟨e, he, q⟩; exact absurd q ((hm e).1 he).2
    · rw [has_del_other (skey_ne hn), h.has]
      constructor
      · rintro ⟨e, he, q⟩; exact ⟨e, (hm e).2 ⟨he, by rw [q]; exact hn⟩, q⟩
      · rintro ⟨e, he, q⟩; exact ⟨e, ((hm e).1 he).1, q⟩
  · obtain ⟨he, hne⟩ := (hm e).1 he
    rw [atKey_del_other (skey_ne hne)]; exact h.elem e he z
theorem sown_tight {w : World} {k : TypeId} {R : Value → Option (DataW Unit × List MemPlace)} {b n : Nat} {D : DataW Unit} (h : w.ownsMap Tryz.prog k R b n D) : w.ownsMap Tryz.prog k R b (Maps.size D) D := by
  obtain ⟨es, clock, hb, F, hs, rfl⟩ := h
  exact ⟨es, clock, hb, F, by simp [Maps.size, length_sorted], rfl⟩
theorem strK : Keyed Tryz.prog 9 := string_keyed Tryz.underlying9
/-- Block b is a map of just these spots, by their keys. -/
def STable (w : World) (b : Nat) (l : List SpotL) : Prop := ∃ D, w.ownsMap Tryz.prog 9 spotElem b (Maps.size D) D ∧ STabIs l D
theorem STable.lt {w : World} {b : Nat} {l : List SpotL} (h : STable w b l) : b < w.heap.size := by obtain ⟨D, h, _⟩ := h; exact h.lt
theorem STable.kept {w w' : World} {b : Nat} {l : List SpotL} {row : Option Nat} (h : STable w b l) (hg : w.grownBy w' row) (hne : some b ≠ row) : STable w' b l := by
  obtain ⟨D, h1, h2⟩ := h; exact ⟨D, h1.kept hg hne, h2⟩
theorem STable.below {w w' : World} {b : Nat} {l : List SpotL} (h : STable w b l) (hb : Below w.heap.size w w') : STable w' b l :=
  h.kept (row := none) ⟨hb.os, hb.tape, hb.output, hb.size, fun k hk _ => hb.block k hk⟩ (by simp)
theorem STable.set {w : World} {b : Nat} {l : List SpotL} (h : STable w b l) {a : Addr} (ha : b ≠ a.block) (u : Value) : STable (w.setCell a u) b l := by
  obtain ⟨D, h1, h2⟩ := h; exact ⟨D, h1.setCell ha u, h2⟩
theorem STable.alloc {w : World} {b : Nat} {l : List SpotL} (h : STable w b l) (o : Obj) : STable (w.alloc o) b l := by
  obtain ⟨D, h1, h2⟩ := h; exact ⟨D, h1.alloc o, h2⟩
theorem stab_keys {w : World} {b n : Nat} {l : List SpotL} {D : DataW Unit} (ha : Dirs.asc l) (h1 : w.ownsMap Tryz.prog 9 spotElem b n D) (h2 : STabIs l D) : (l.map fun f => Batches.by_ f.key).Perm (strKeys D) := by
  obtain ⟨es, hD, hpw, _⟩ := h1.entries strK
  obtain ⟨es', hD', hko⟩ := h1.keysOf
  obtain rfl : es = es' := by rw [hD] at hD'; simpa using hD'
  subst hD
  refine perm_strKeys hpw (fun p hp => by obtain ⟨v, hv⟩ := hko p hp; obtain ⟨x, _, hx, _⟩ := Maps.keyOf_str Tryz.underlying9 hv; exact ⟨x, hx⟩) (Dirs.asc_nodup ha) (fun x => ?_)
  have e := h2.has ⟨x.toArray⟩
  have ek : Batches.by_ ⟨x.toArray⟩ = x := by simp [Batches.by_]
  rw [ek] at e
  rw [e, List.mem_map]
  exact ⟨fun ⟨f, hf, q⟩ => ⟨f, hf, by rw [← q] at ek; exact Batches.by_inj (by rw [ek, q])⟩, fun ⟨f, hf, q⟩ => ⟨f, hf, by rw [q, ek]⟩⟩
theorem stab_size {w : World} {b n : Nat} {l : List SpotL} {D : DataW Unit} (ha : Dirs.asc l) (h1 : w.ownsMap Tryz.prog 9 spotElem b n D) (h2 : STabIs l D) : Maps.size D = l.length := by
  have := (stab_keys ha h1 h2).length_eq
  obtain ⟨es, hD, _⟩ := h1.entries strK
  subst hD
  simpa [strKeys, Maps.size] using this.symm
set_option maxRecDepth 100000 in
theorem zero56 (w : World) : (zeroValue 135).run Tryz.prog w = .ok (spotV ⟨⟨#[]⟩, 0, 0, 0⟩) w := by kernel_rfl
theorem skeyS {n : ByteArray} (h : n.size ≤ maxLen) : keyOf Tryz.prog 9 (.string n) = some (.string (Batches.by_ n)) := by
  have := WideMaps.keyOf_string_mk (P := Tryz.prog) Tryz.underlying9 h
  simpa [Batches.by_, ByteArray.toList_eq] using this
/-- 't[n]' of a key that is there -/
theorem stab_get {w : World} {b : Nat} {l : List SpotL} (hT : STable w b l) {c : SpotL} (hc : c ∈ l) (hn : c.key.size ≤ maxLen) : (Instr.lookup 267 (.map (some b)) (.string c.key) false).run Tryz.prog w = .ok (spotV c) w := by
  obtain ⟨D, hown, ht⟩ := hT
  have e2 := ht.elem c hc (sdat ⟨⟨#[]⟩, 0, 0, 0⟩)
  obtain ⟨v, ps, hrun, hv⟩ := hown.lookup strK Tryz.underlying267 (zero56 w) (spotElem_mk _) (skeyS hn)
  obtain ⟨d, rfl, hv2⟩ := spotElem_inv hv
  rw [e2] at hv2
  have := sdat_inj (congrArg Prod.fst hv2)
  subst this
  exact hrun
section
variable {ops : Array Oper} {rest : List Oper} {o : Oper} {a : Act} {Q : Exit → Act → World → Prop}
/-- 't[n] = f' -/
theorem wpList_put_stab (w : World) (hg : o.guard = none) (m x v : Operand) (hop : o.op = Op.mapUpdate 267 m x v) (b : Nat) (l : List SpotL) (ha : Dirs.asc l) (hl : l.length ≤ 4194304) (c : SpotL) (hn : c.key.size ≤ maxLen) (hs : c.size ≠ -1) (hT : STable w b l) (hm : a.eval m = .map (some b)) (hx : a.eval x = .string c.key)
    (hv : a.eval v = spotV c)
    (hK : ∀ w', STable w' b (Dirs.put1 l c) → w.grownBy w' (some b) → wpList Tryz.prog ops Q rest (a.put o.dst undef) w') : wpList Tryz.prog ops Q (o :: rest) a w := by
  obtain ⟨D, hown, ht⟩ := hT
  have hsz := stab_size ha hown ht
  refine wpList_mapUpdate_in w hg m x v 267 hop 9 135 strK Tryz.underlying267 spotElem b (Maps.size D) D hm hown (by rw [hsz]; unfold maxLen; omega) (.string c.key) (spotV c) (.string (Batches.by_ c.key)) hx hv (skeyS hn) (sdat c) [] (spotElem_mk _) fun w' h1 h2 => ?_
  exact hK w' ⟨_, sown_tight h1, stab_put ht hown.isMap c hs⟩ h2.grown
/-- 'delete(t, n)' -/
theorem wpList_del_stab (w : World) (hg : o.guard = none) (m x : Operand) (hop : o.op = Op.call { callee := Callee.builtin Builtin.delete, args := #[m, x], argTypes := #[267, 9] }) (b : Nat) (l : List SpotL) (c : SpotL) (hn : c.key.size ≤ maxLen) (hs : c.size = -1) (hT : STable w b l) (hm : a.eval m = .map (some b)) (hx : a.eval x = .string c.key)
    (hK : ∀ w', STable w' b (Dirs.put1 l c) → w.grownBy w' (some b) → wpList Tryz.prog ops Q rest (a.put o.dst (.tuple #[])) w') : wpList Tryz.prog ops Q (o :: rest) a w := by
  obtain ⟨D, hown, ht⟩ := hT
  refine wpList_delete_own w hg m x 267 9 hop 135 strK Tryz.underlying267 spotElem b (Maps.size D) D hm hown (.string c.key) (.string (Batches.by_ c.key)) hx (skeyS hn) fun w' h1 h2 => ?_
  exact hK w' ⟨_, sown_tight h1, stab_del ht c hs⟩ h2.grown
end
/-- A new map. -/
theorem stable_made (w : World) : STable (w.alloc (.map #[] 0)) w.heap.size [] := ⟨.map [], sown_tight (World.ownsMap_made w Tryz.prog 9 spotElem), stab_nil⟩
theorem make_stab (n : Int) (w : World) : (Instr.makeMap 267 (some (.int .i64 n))).run Tryz.prog w = .ok (.map (some w.heap.size)) (w.alloc (.map #[] 0)) := by
  simp [Instr.makeMap, run_underlying Tryz.underlying267, Result.andThen, go_sem]
theorem cell_grown {w w' : World} {b : Nat} (h : w.grownBy w' (some b)) {p : Addr} (hp : p.block < w.heap.size) (hne : b ≠ p.block) : w'.cell? p = w.cell? p := World.cell?_of_block (w := w) (h.block p.block hp (fun e => hne (by simpa using e.symm)))
theorem SpotAt.grown {w w' : World} {a : Option Addr} {g off b : Nat} {l : List SpotL} (h : SpotAt w a g off l) (hg : w.grownBy w' (some b)) (hne : 0 < l.length → b ≠ g) : SpotAt w' a g off l := by
  refine ⟨h.1, fun j hj => ?_⟩
  have hgl := h.lt (by omega)
  have hn := hne (by omega)
  obtain ⟨h0, h1, h2, h3⟩ := h.2 j hj
  exact ⟨(cell_grown hg (p := ⟨g, _, none⟩) hgl hn).trans h0, (cell_grown hg (p := ⟨g, _, none⟩) hgl hn).trans h1, (cell_grown hg (p := ⟨g, _, none⟩) hgl hn).trans h2, (cell_grown hg (p := ⟨g, _, none⟩) hgl hn).trans h3⟩
set_option maxHeartbeats 2000000 in
set_option maxRecDepth 100000 in
theorem take_is {a : Option Addr} {g off cap : Nat} (l xs : List SpotL) (hasc : Dirs.asc l) (hlen : l.length + xs.length ≤ 4194304) (hsz : ∀ c ∈ xs, smallSpot 2097152 c) (b : Nat) (w : World) (hT : STable w b l) (hf : SpotAt w a g off xs) (hne : 0 < xs.length → b ≠ g) :
    Calls Tryz.prog 203 #[.map (some b), .slice a xs.length cap] w fun e w' => e = .returned (.tuple #[]) ∧ STable w' b (Dirs.more l xs) ∧ w.grownBy w' (some b) := by
  have HF : Hid (SpotAt w a g off xs) := hf
  have HS : Hid (∀ c ∈ xs, smallSpot 2097152 c) := hsz
  have HA : Hid (Dirs.asc l) := hasc
  have HT : Hid (STable w b l) := hT
  have HNE : Hid (0 < xs.length → b ≠ g) := hne
  clear hf hsz hasc hT hne
  go_enter Tryz.func203, Tryz.ntmps203
  go_wp2_with fail
  go_loopw [8] (fun i wr => ∃ k : Nat, k ≤ xs.length ∧ i = .int .i64 (k : Int) ∧ Hid (STable wr b (Dirs.more l (xs.take k))) ∧ w.grownBy wr (some b))
    (fun i _ => xs.length - (intOf i).toNat)
  case atStart => exact ⟨0, Nat.zero_le _, rfl, by show STable w b _; rw [List.take_zero]; exact HT.out, World.grownBy.refl _ _⟩
  case round =>
    obtain ⟨k, hk, rfl, TR, hgr⟩ := hrel
    by_cases hlt : k < xs.length
    · obtain ⟨c0, c1, c2, c3⟩ := (HF.out.grown hgr HNE.out).2 k hlt
      have ea := HF.out.1 (by omega)
      subst ea
      have s0 := HS.out xs[k] (List.getElem_mem _)
      have HAA0 : Hid (∃ c, c = xs[k] ∧ xs[k] = c) := ⟨_, rfl, rfl⟩
      obtain ⟨c, hc, hc'⟩ := HAA0.out
      rw [← hc] at c0 c1 c2 c3 s0
      have HST : Hid (Dirs.more l (xs.take (k + 1)) = Dirs.put1 (Dirs.more l (xs.take k)) c) := by show _ = _; rw [Dirs.more_take hlt, hc']
      clear HAA0 hc hc'
      have HM : Hid (Dirs.asc (Dirs.more l (xs.take k))) := Dirs.asc_more _ _ HA.out
      have hml : (Dirs.more l (xs.take k)).length ≤ 4194304 := Nat.le_trans (Dirs.more_take_len k) hlen
      obtain ⟨A, G, P, Z⟩ := c
      simp only at c0 c1 c2 c3
      unfold smallSpot at s0
      simp only at s0
      have hk0 : (0 : Int) ≤ (k : Int) := by omega
      have hk1 : (k : Int) < (xs.length : Int) := by omega
      have hA := heap_alloc_new wr (Obj.cells #[Value.string A, Value.int .i64 G, Value.int .i64 P, Value.int .i64 Z] 135)
      by_cases hz : Z = -1
      · subst hz
        go_wp2_with (first | (at_delete; refine wpList_del_stab _ rfl _ _ rfl b (Dirs.more l (xs.take k)) ⟨A, G, P, -1⟩ (by show A.size ≤ _; unfold maxLen; omega) rfl (TR.out.alloc _) (by rfl) (by rfl) ?_; intro w4 T4 g4) | fail)
        have T5 : Hid (STable w4 b (Dirs.more l (xs.take (k + 1)))) := by show STable w4 b _; rw [HST.out]; exact T4
        have hg5 : w.grownBy w4 (some b) := (hgr.trans (grown_alloc _ _)).trans g4
        clear T4 g4
        go_wp2
        go_roundw
        case rel => exact ⟨k + 1, by omega, by go_num, T5, hg5⟩
        case measure => simp [intOf]; omega
      · go_wp2_with (first | (at_mapUpdate; refine wpList_put_stab _ rfl _ _ _ rfl b (Dirs.more l (xs.take k)) HM.out hml ⟨A, G, P, Z⟩ (by show A.size ≤ _; unfold maxLen; omega) hz (TR.out.alloc _) (by rfl) (by rfl) (by rfl) ?_; intro w4 T4 g4) | fail)
        have T5 : Hid (STable w4 b (Dirs.more l (xs.take (k + 1)))) := by show STable w4 b _; rw [HST.out]; exact T4
        have hg5 : w.grownBy w4 (some b) := (hgr.trans (grown_alloc _ _)).trans g4
        clear T4 g4
        go_wp2
        go_roundw
        case rel => exact ⟨k + 1, by omega, by go_num, T5, hg5⟩
        case measure => simp [intOf]; omega
    · have hk1 : ¬ (k : Int) < (xs.length : Int) := by omega
      have T5 : Hid (STable wr b (Dirs.more l xs)) := by
        have := TR.out
        rw [List.take_of_length_le (by omega)] at this
        exact this
      go_wp2
      go_end0
      exact ⟨rfl, T5.out, hgr⟩
end Go.Proofs.YtjpokcjpogkafaaGreatDoor
