/- Lists of spots in memory, 4 cells each; measured, copied, held against each other, marked. Made by program. The calls of the program's (*textReader).spot and (*textReader).dir, walked. The call of the program's (*textReader).batch, walked. -/
import Derived.Test.YtjpokcjpogkafaaGreatDoorReader
import Derived.Test.YtjpokcjpogkafaaGreatDoorMathDir
import Derived.Laws.AppendOwnNone
import Derived.Deep.RegionHeld3
import Derived.Deep.DeepCutAuto
import Derived.Test.YtjpokcjpogkafaaGreatDoorSpecCur
import Derived.Deep.AppendLies
import Derived.Deep.RegionLaw
namespace Go.Proofs.YtjpokcjpogkafaaGreatDoor
open Go.RowKit
set_option linter.unusedVariables false
set_option linter.unusedSimpArgs false

def spotV (r : SpotL) : Value := .agg #[.string r.key, .int .i64 r.seg, .int .i64 r.pos, .int .i64 r.size]
/-- A slice at a whose elements are these. -/
def SpotAt (w : World) (a : Option Addr) (g off : Nat) (l : List SpotL) : Prop :=
  (0 < l.length → a = some ⟨g, off, none⟩) ∧ ∀ j (hj : j < l.length), w.cell? ⟨g, off + j * 4, none⟩ = some (.string l[j].key) ∧ w.cell? ⟨g, off + j * 4 + 1, none⟩ = some (.int .i64 l[j].seg) ∧ w.cell? ⟨g, off + j * 4 + 2, none⟩ = some (.int .i64 l[j].pos) ∧ w.cell? ⟨g, off + j * 4 + 3, none⟩ = some (.int .i64 l[j].size)
theorem SpotAt.lt {w : World} {a : Option Addr} {g off : Nat} {l : List SpotL} (h : SpotAt w a g off l) (hl : 0 < l.length) : g < w.heap.size := World.block_lt_of_cell? w _ (h.2 0 hl).1
theorem SpotAt.kept {w w' : World} {a : Option Addr} {g off : Nat} {l : List SpotL} (h : SpotAt w a g off l) (hb : Below w.heap.size w w') : SpotAt w' a g off l := by
  refine ⟨h.1, fun j hj => ?_⟩
  have hg := h.lt (by omega)
  rw [hb.cell (p := ⟨g, off + j * 4, none⟩) hg, hb.cell (p := ⟨g, off + j * 4 + 1, none⟩) hg, hb.cell (p := ⟨g, off + j * 4 + 2, none⟩) hg, hb.cell (p := ⟨g, off + j * 4 + 3, none⟩) hg]
  exact h.2 j hj
def cellsSpot (l : List SpotL) : List Value := l.flatMap fun r => [.string r.key, .int .i64 r.seg, .int .i64 r.pos, .int .i64 r.size]
theorem cellsSpot_len : ∀ l : List SpotL, (cellsSpot l).length = l.length * 4
  | [] => rfl
  | r :: l => by have := cellsSpot_len l; simp only [cellsSpot, List.flatMap_cons, List.length_append, List.length_cons, List.length_nil] at *; omega
theorem cellsSpot_app (l m : List SpotL) : cellsSpot (l ++ m) = cellsSpot l ++ cellsSpot m := by simp [cellsSpot]
theorem cellsSpot_at : ∀ (l : List SpotL) (j : Nat) (hj : j < l.length), (cellsSpot l)[j * 4]? = some (.string l[j].key) ∧ (cellsSpot l)[j * 4 + 1]? = some (.int .i64 l[j].seg) ∧ (cellsSpot l)[j * 4 + 2]? = some (.int .i64 l[j].pos) ∧ (cellsSpot l)[j * 4 + 3]? = some (.int .i64 l[j].size)
  | r :: l, 0, _ => ⟨rfl, rfl, rfl, rfl⟩
  | r :: l, j + 1, hj => by
    have := cellsSpot_at l j (by simpa using hj)
    simpa [cellsSpot, Nat.add_mul, Nat.add_assoc] using this
theorem cellsSpot_set : ∀ (l : List SpotL) (j : Nat) (r : SpotL), cellsSpot (l.set j r) = ((((cellsSpot l).set (j * 4) (.string r.key)).set (j * 4 + 1) (.int .i64 r.seg)).set (j * 4 + 2) (.int .i64 r.pos)).set (j * 4 + 3) (.int .i64 r.size)
  | [], j, r => by simp [cellsSpot]
  | x :: l, 0, r => by simp [cellsSpot]
  | x :: l, j + 1, r => by
    have := cellsSpot_set l j r
    simp only [cellsSpot, List.set_cons_succ, List.flatMap_cons, List.cons_append, List.nil_append, Nat.add_mul] at *
    rw [this]
theorem cellsSpot_own {w : World} {base : Nat} {e : TypeId} {g n cap : Nat} {l : List SpotL} (hn : l.length = n) (h : w.ownsRow base e 4 (.slice (some ⟨g, 0, none⟩) n cap) n (cellsSpot l)) : SpotAt w (some ⟨g, 0, none⟩) g 0 l := by
  refine ⟨fun _ => rfl, fun j hj => ?_⟩
  rw [Nat.zero_add, h.cellAt (j * 4) (by omega), h.cellAt (j * 4 + 1) (by omega), h.cellAt (j * 4 + 2) (by omega), h.cellAt (j * 4 + 3) (by omega)]
  exact cellsSpot_at l j hj
theorem cellsSpot_slice {w : World} {base : Nat} {v : Value} {l : List SpotL} (h : w.ownsRow base 135 4 v l.length (cellsSpot l)) : ∃ a g cap, v = .slice a l.length cap ∧ SpotAt w a g 0 l := by
  rcases h.2 with ⟨h1, h2⟩ | ⟨g, cap, cur, h1, _⟩
  · exact ⟨none, 0, 0, by rw [h1, h2], fun q => by omega, fun j hj => by omega⟩
  · subst h1; exact ⟨_, g, cap, rfl, cellsSpot_own rfl h⟩
def smallSpot (B : Nat) (r : SpotL) : Prop := r.key.size ≤ B
theorem Tryz.info135 : (Tryz.prog.info? 135).map (fun i => (i.zero, i.size, i.bytes)) = some (some (.agg #[.string ByteArray.empty, .int .i64 0, .int .i64 0, .int .i64 0]), 4, 40) := by kernel_rfl
set_option maxHeartbeats 2000000 in
set_option maxRecDepth 100000 in
theorem eqSpot1_same (r : SpotL) (w : World) : Calls Tryz.prog 112 #[spotV r, spotV r] w fun e w' => e = .returned (.bool true) ∧ Below w.heap.size w w' := by
  obtain ⟨F0, F1, F2, F3⟩ := r
  unfold spotV
  go_enter Tryz.func112, Tryz.ntmps112
  go_wp2
  go_ret
  exact ⟨rfl, ((Below.refl _ _).alloc (Nat.le_refl _) _).alloc (by simp) _⟩
set_option maxHeartbeats 2000000 in
set_option maxRecDepth 100000 in
theorem eqSpotS_same {a b : Option Addr} {g off cap h off' cap' : Nat} (l : List SpotL) (hlen : l.length ≤ 1048576) (w : World) (hf : SpotAt w a g off l) (hf' : SpotAt w b h off' l) :
    Calls Tryz.prog 49 #[.slice a l.length cap, .slice b l.length cap'] w fun e w' => e = .returned (.bool true) ∧ Below w.heap.size w w' := by
  have HF : Hid (SpotAt w a g off l) := hf
  have HF' : Hid (SpotAt w b h off' l) := hf'
  clear hf hf'
  go_enter Tryz.func49, Tryz.ntmps49
  go_wp2
  go_loopw [5] (fun i wr => ∃ k : Nat, k ≤ l.length ∧ i = .int .i64 (k : Int) ∧ Below w.heap.size w wr)
    (fun i _ => l.length - (intOf i).toNat)
  case atStart => exact ⟨0, Nat.zero_le _, rfl, Below.refl _ _⟩
  case round =>
    obtain ⟨k, hk, rfl, hbel⟩ := hrel
    by_cases hlt : k < l.length
    · have hcc := (HF.out.kept hbel).2 k hlt
      have hdd := (HF'.out.kept hbel).2 k hlt
      have ea := HF.out.1 (by omega)
      have eb := HF'.out.1 (by omega)
      subst ea eb
      obtain ⟨F0, hF0⟩ : ∃ F0, F0 = l[k].key := ⟨_, rfl⟩
      obtain ⟨F1, hF1⟩ : ∃ F1, F1 = l[k].seg := ⟨_, rfl⟩
      obtain ⟨F2, hF2⟩ : ∃ F2, F2 = l[k].pos := ⟨_, rfl⟩
      obtain ⟨F3, hF3⟩ : ∃ F3, F3 = l[k].size := ⟨_, rfl⟩
      have HEL : Hid (l[k] = ⟨F0, F1, F2, F3⟩) := by show _ = _; rw [hF0, hF1, hF2, hF3]
      simp only [← hF0, ← hF1, ← hF2, ← hF3] at hcc hdd
      obtain ⟨c0, c1, c2, c3⟩ := hcc
      obtain ⟨d0, d1, d2, d3⟩ := hdd
      clear hF0 hF1 hF2 hF3
      have hk0 : (0 : Int) ≤ (k : Int) := by omega
      have hk1 : (k : Int) < (l.length : Int) := by omega
      go_wp2
      have NE := Abv.ne wr
      have C0 := fun x : Abv wr => x.cell c0
      have D0 := fun x : Abv wr => x.cell d0
      have C1 := fun x : Abv wr => x.cell c1
      have D1 := fun x : Abv wr => x.cell d1
      have C2 := fun x : Abv wr => x.cell c2
      have D2 := fun x : Abv wr => x.cell d2
      have C3 := fun x : Abv wr => x.cell c3
      have D3 := fun x : Abv wr => x.cell d3
      refine wp_region_above (by kernel_rfl) (by kernel_rfl) ?_
      repeat (go_big_quiet_step (first | (go_at_call 112; exact calls_above (eqSpot1_same ⟨F0, F1, F2, F3⟩ _))))
      refine wpQuiet_nil ?_
      rintro w1 ⟨⟨_, hb1⟩, rfl⟩
      clear NE C0 D0 C1 D1 C2 D2 C3 D3
      go_wp2
      go_roundw
      case rel => exact ⟨k + 1, by omega, by go_num, hbel.trans (hb1.mono hbel.size)⟩
      case measure => simp [intOf]; omega
    · have hk1 : ¬ (k : Int) < (l.length : Int) := by omega
      go_wp2
      go_ret
      exact ⟨rfl, hbel⟩
theorem SpotAt.cellsAll {w : World} {a : Option Addr} {g off : Nat} {l : List SpotL} (h : SpotAt w a g off l) : ∀ j u, (cellsSpot l)[j]? = some u → w.cell? ((⟨g, off, none⟩ : Addr).add j) = some u := by
  intro j u hu
  rw [Addr.add_lit]
  have hj : j < l.length * 4 := by rw [← cellsSpot_len]; exact (List.getElem?_eq_some_iff.1 hu).1
  obtain ⟨k, i, hi, rfl⟩ : ∃ k i, i < 4 ∧ j = k * 4 + i := ⟨j / 4, j % 4, by omega, by omega⟩
  have h1 := cellsSpot_at l k (by omega)
  have h2 := h.2 k (by omega)
  have h3 : i = 0 ∨ i = 1 ∨ i = 2 ∨ i = 3 := by omega
  rcases h3 with rfl | rfl | rfl | rfl
  · rw [show k * 4 + 0 = k * 4 from by omega, h1.1] at hu
    rw [← Option.some.inj hu]
    simpa [Nat.add_assoc] using h2.1
  · rw [h1.2.1] at hu
    rw [← Option.some.inj hu]
    simpa [Nat.add_assoc] using h2.2.1
  · rw [h1.2.2.1] at hu
    rw [← Option.some.inj hu]
    simpa [Nat.add_assoc] using h2.2.2.1
  · rw [h1.2.2.2] at hu
    rw [← Option.some.inj hu]
    simpa [Nat.add_assoc] using h2.2.2.2
theorem cellsSpot_one {l : List SpotL} : ∀ u ∈ cellsSpot l, u.oneCell' = true := by
  intro u hu
  unfold cellsSpot at hu
  obtain ⟨r, _, hr⟩ := List.mem_flatMap.1 hu
  simp only [List.mem_cons, List.not_mem_nil, or_false] at hr
  rcases hr with rfl | rfl | rfl | rfl <;> rfl
/-- 'append(x, y...)' onto a row of the call's own. -/
theorem wpList_appendSpot {w : World} {ops : Array Oper} {rest : List Oper} {o : Oper} {act : Act} {Q : Exit → Act → World → Prop} (hgd : o.guard = none) (s x : Operand)
    (ho : o.op = .call { callee := .builtin .append, args := #[s, x], argTypes := #[29, 29] }) (base : Nat) (v : Value) (n : Nat) (xs : List Value) (hs : act.eval s = v) (hown : w.ownsRow base 135 4 v n xs)
    (a : Option Addr) (g off cap : Nat) (l : List SpotL) (hx : act.eval x = .slice a l.length cap) (hf : SpotAt w a g off l) (hnil : a = none → cap = 0) (h63 : n + l.length ≤ 2097152) (hbase : base ≤ w.heap.size)
    (h : ∀ v' w', w'.ownsRow base 135 4 v' (n + l.length) (xs ++ cellsSpot l) → w.grownBy w' v.ownBlock → wpList Tryz.prog ops Q rest (act.put o.dst v') w') : wpList Tryz.prog ops Q (o :: rest) act w := by
  obtain ⟨i0, hi, hz0, hz1, hz2⟩ := info_parts Tryz.info135
  cases a with
  | none =>
    have hl : l = [] := by
      cases l with
      | nil => rfl
      | cons f r => have := hf.1 (by simp); cases this
    subst hl
    rw [hnil rfl] at hx
    refine wpList_append_own_none hgd s x 29 ho base 135 i0 4 Tryz.underlying29 hi v n xs hs hown hx ?_
    refine h v w ?_ (World.grownBy.refl _ _)
    simpa [cellsSpot] using hown
  | some ad =>
    have had : 0 < l.length → ad = ⟨g, off, none⟩ := fun hp => Option.some.inj (hf.1 hp)
    refine wpList_append_own w hgd s x 29 ho base 135 i0 (.agg #[.string ByteArray.empty, .int .i64 0, .int .i64 0, .int .i64 0]) 4 40 Tryz.underlying29 hi hz0 hz1 hz2 rfl (by decide) v n xs hs hown ad l.length cap (cellsSpot l) hx (cellsSpot_len l) ?_ cellsSpot_one (by unfold maxLen; omega) (by omega) hbase ?_
    · intro j u hu
      have hp : 0 < l.length := by
        have := (List.getElem?_eq_some_iff.1 hu).1
        rw [cellsSpot_len] at this
        omega
      rw [had hp]
      exact hf.cellsAll j u hu
    · intro v' w' h1 h2 _
      exact h v' w' h1 h2
/-- Marked ones: from k on, 4 numbers each. -/
def markSpot1 (m : Nat) : SpotL := ⟨mk (m), ((m + 1 : Nat) : Int), ((m + 2 : Nat) : Int), ((m + 3 : Nat) : Int)⟩
def marksSpot (k n : Nat) : List SpotL := (List.range n).map fun i => markSpot1 (k + 4 * i)
theorem marksSpot_len (k n : Nat) : (marksSpot k n).length = n := by simp [marksSpot]
theorem marksSpot_at (k n j : Nat) (hj : j < (marksSpot k n).length) : (marksSpot k n)[j] = markSpot1 (k + 4 * j) := by simp [marksSpot]
set_option maxHeartbeats 2000000 in
set_option maxRecDepth 100000 in
theorem markSpotS_is {B g cap : Nat} (l : List SpotL) (hlen : l.length ≤ 1048576) (k : Nat) (h0 : 0 < k) (hk : k ≤ 100000000) (w : World) (hA : w.ownsRow B 135 4 (.slice (some ⟨g, 0, none⟩) l.length cap) l.length (cellsSpot l)) :
    Calls Tryz.prog 54 #[.slice (some ⟨g, 0, none⟩) l.length cap, .int .i64 (k : Int)] w fun e w' => e = .returned (.int .i64 ((k + 4 * l.length : Nat) : Int)) ∧ w'.ownsRow B 135 4 (.slice (some ⟨g, 0, none⟩) l.length cap) l.length (cellsSpot (marksSpot k l.length)) ∧ w.grownBy w' (some g) := by
  go_enter Tryz.func54, Tryz.ntmps54
  go_wp2
  go_loopw [1, 5] (fun x i wr => ∃ (j : Nat) (pre : List SpotL), j ≤ l.length ∧ i = .int .i64 (j : Int) ∧ x = .int .i64 ((k + 4 * j : Nat) : Int) ∧ pre.length = l.length ∧ pre.take j = (marksSpot k l.length).take j ∧
      wr.ownsRow B 135 4 (.slice (some ⟨g, 0, none⟩) l.length cap) l.length (cellsSpot pre) ∧ w.grownBy wr (some g)) (fun _ i _ => l.length - (intOf i).toNat)
  case atStart => exact ⟨0, l, Nat.zero_le _, rfl, rfl, rfl, by simp, hA, World.grownBy.refl _ _⟩
  case round =>
    obtain ⟨j, pre, hj, rfl, rfl, hpl, hpt, hown, hgr⟩ := hrel
    have HL : Hid (pre.length = l.length) := hpl
    have HT : Hid (pre.take j = (marksSpot k l.length).take j) := hpt
    clear hpl hpt hA
    by_cases hlt : j < l.length
    · have hk0 : (0 : Int) ≤ (j : Int) := by omega
      have hk1 : (j : Int) < (l.length : Int) := by omega
      obtain ⟨M, hM⟩ : ∃ M : Nat, M = k + 4 * j := ⟨_, rfl⟩
      have hMb : 0 < M ∧ M ≤ 900000000 := by omega
      have HM : Hid (M = k + 4 * j) := hM
      rw [← hM]
      clear hM
      go_wp2_with fail
      refine (markText_at M 0 _ (by omega) (by omega) (by omega) _).mono ?_
      rintro e w0 ⟨rfl, hb0⟩
      have hw0 := own_kept hown hb0
      have hgw0 := hgr.trans (own_below' hb0)
      clear hb0
      have hf0 := hw0.frozenAt (j * 4)
      obtain ⟨u0, hu0⟩ := own_cell_ex (q := j * 4) hw0 (by omega) (by simp only [List.length_set, cellsSpot_len, HL.out])
      have hf1 := hw0.frozenAt (j * 4 + 1)
      obtain ⟨u1, hu1⟩ := own_cell_ex (q := j * 4 + 1) hw0 (by omega) (by simp only [List.length_set, cellsSpot_len, HL.out])
      have hf2 := hw0.frozenAt (j * 4 + 2)
      obtain ⟨u2, hu2⟩ := own_cell_ex (q := j * 4 + 2) hw0 (by omega) (by simp only [List.length_set, cellsSpot_len, HL.out])
      have hf3 := hw0.frozenAt (j * 4 + 3)
      obtain ⟨u3, hu3⟩ := own_cell_ex (q := j * 4 + 3) hw0 (by omega) (by simp only [List.length_set, cellsSpot_len, HL.out])
      have hs0 := ((((hw0.stored (j * 4) (.string (mk (M + 0)))).1.stored (j * 4 + 1) (.int .i64 ((M + 1 : Nat) : Int))).1.stored (j * 4 + 2) (.int .i64 ((M + 2 : Nat) : Int))).1.stored (j * 4 + 3) (.int .i64 ((M + 3 : Nat) : Int)))
      have hgs0 := ((((hgw0.trans (hw0.stored (j * 4) (.string (mk (M + 0)))).2).trans ((hw0.stored (j * 4) (.string (mk (M + 0)))).1.stored (j * 4 + 1) (.int .i64 ((M + 1 : Nat) : Int))).2).trans (((hw0.stored (j * 4) (.string (mk (M + 0)))).1.stored (j * 4 + 1) (.int .i64 ((M + 1 : Nat) : Int))).1.stored (j * 4 + 2) (.int .i64 ((M + 2 : Nat) : Int))).2).trans ((((hw0.stored (j * 4) (.string (mk (M + 0)))).1.stored (j * 4 + 1) (.int .i64 ((M + 1 : Nat) : Int))).1.stored (j * 4 + 2) (.int .i64 ((M + 2 : Nat) : Int))).1.stored (j * 4 + 3) (.int .i64 ((M + 3 : Nat) : Int))).2)
      have HS0 : Hid _ := hs0.1
      have HG0 : Hid _ := hgs0
      clear hown hgr
      clear hs0 hgs0 hw0 hgw0
      go_wp2
      go_roundw
      case rel =>
        have e := cellsSpot_set pre j (markSpot1 M)
        refine ⟨j + 1, pre.set j (markSpot1 M), by omega, by go_num, ?_, by rw [List.length_set]; exact HL.out, ?_, ?_, HG0.out⟩
        · refine congrArg (Value.int .i64) ?_
          have := HM.out
          omega
        · refine take_set_step (by rw [marksSpot_len]; exact hlt) (by rw [marksSpot_len]; exact HL.out) HT.out ?_
          rw [marksSpot_at, ← HM.out]
        · rw [e]; exact HS0.out
      case measure => simp [intOf]; omega
    · have hk1 : ¬ (j : Int) < (l.length : Int) := by omega
      have HE : Hid (pre = marksSpot k l.length ∧ j = l.length) := by
        have h := HT.out
        rw [List.take_of_length_le (by rw [HL.out]; omega), List.take_of_length_le (by rw [marksSpot_len]; omega)] at h
        exact ⟨h, by omega⟩
      go_wp2
      go_ret
      refine ⟨by rw [← HE.out.2]; rfl, by rw [← HE.out.1]; exact hown, hgr⟩
set_option maxHeartbeats 2000000 in
set_option maxRecDepth 100000 in
theorem markSpotS_nil (k : Nat) (w : World) : Calls Tryz.prog 54 #[.slice none 0 0, .int .i64 (k : Int)] w fun e w' => e = .returned (.int .i64 (k : Int)) ∧ w = w' := by
  go_enter Tryz.func54, Tryz.ntmps54
  go_wp2
  refine wp_loop_rounds 1 ?_
  rw [rounds_succ]
  go_wp2
  go_ret
  exact ⟨rfl, rfl⟩
theorem markSpotS_own {B : Nat} {v : Value} (l : List SpotL) (hlen : l.length ≤ 1048576) (k : Nat) (h0 : 0 < k) (hk : k ≤ 100000000) (w : World) (hA : w.ownsRow B 135 4 v l.length (cellsSpot l)) :
    Calls Tryz.prog 54 #[v, .int .i64 (k : Int)] w fun e w' => e = .returned (.int .i64 ((k + 4 * l.length : Nat) : Int)) ∧ w'.ownsRow B 135 4 v l.length (cellsSpot (marksSpot k l.length)) ∧ w.grownBy w' v.ownBlock := by
  rcases hA.2 with ⟨h1, h2⟩ | ⟨g, cap, cur, h1, _⟩
  · subst h1
    have hl : l = [] := List.length_eq_zero_iff.1 h2
    subst hl
    refine (markSpotS_nil k w).mono ?_
    rintro e w' ⟨rfl, rfl⟩
    exact ⟨rfl, World.ownsRow_nil _ _ _ _, World.grownBy.refl _ _⟩
  · subst h1
    exact markSpotS_is l hlen k h0 hk w hA
end Go.Proofs.YtjpokcjpogkafaaGreatDoor
namespace Go.Proofs.YtjpokcjpogkafaaGreatDoor
open Go.RowKit
set_option linter.unusedVariables false

theorem spotAt_new (w : World) (c : SpotL) : SpotAt (w.alloc (Obj.cells #[.string c.key, .int .i64 c.seg, .int .i64 c.pos, .int .i64 c.size] 135)) (some ⟨w.heap.size, 0, none⟩) w.heap.size 0 [c] := by
  have h := heap_alloc_new w (Obj.cells #[.string c.key, .int .i64 c.seg, .int .i64 c.pos, .int .i64 c.size] 135)
  refine ⟨fun _ => rfl, fun j hj => ?_⟩
  obtain rfl : j = 0 := by simpa using hj
  exact ⟨cell_of_row _ _ 0 _ _ _ h, cell_of_row _ _ 1 _ _ _ h, cell_of_row _ _ 2 _ _ _ h, cell_of_row _ _ 3 _ _ _ h⟩
theorem ownSpot_snoc {w : World} {B : Nat} {v : Value} {pre : List SpotL} {c : SpotL} (h : w.ownsRow B 135 4 v (pre.length + 1) (cellsSpot pre ++ [.string c.key, .int .i64 c.seg, .int .i64 c.pos, .int .i64 c.size])) : w.ownsRow B 135 4 v (pre ++ [c]).length (cellsSpot (pre ++ [c])) := by
  rw [cellsSpot_app, List.length_append]
  exact h
/-- What dir holds: the reader, the spots read so far. -/
structure DSt (w : World) (rb : Nat) (t : ByteArray) (a : Nat) (v : Value) (pre : List SpotL) (W : World) : Prop where
  rd : Rd W rb t a
  own : W.ownsRow w.heap.size 135 4 v pre.length (cellsSpot pre)
  grown : w.grownBy W (some rb)
  up : rb < w.heap.size
section
variable {w W W' : World} {rb a a' : Nat} {t : ByteArray} {v : Value} {pre : List SpotL}
theorem DSt.call (h : DSt w rb t a v pre W) (hr : Rd W' rb t a') (hg : W.grownBy W' (some rb)) : DSt w rb t a' v pre W' :=
  ⟨hr, h.own.kept hg (Or.inr (own_not h.own h.rd.1 (by decide))), h.grown.trans hg, h.up⟩
theorem DSt.alloc (h : DSt w rb t a v pre W) (o : Obj) : DSt w rb t a v pre (W.alloc o) :=
  h.call (h.rd.below ((Below.refl _ _).alloc (Nat.le_refl _) _)) (grown_alloc _ _)
theorem DSt.app (h : DSt w rb t a v pre W) {v' : Value} {c : SpotL} (hg : W.grownBy W' v.ownBlock) (hown : W'.ownsRow w.heap.size 135 4 v' (pre.length + 1) (cellsSpot pre ++ [.string c.key, .int .i64 c.seg, .int .i64 c.pos, .int .i64 c.size])) : DSt w rb t a v' (pre ++ [c]) W' := by
  refine ⟨⟨?_, h.rd.2⟩, ownSpot_snoc hown, h.grown.andThen hg (fun r e => Or.inl (h.own.lt r e).1), h.up⟩
  exact (hg.block rb h.rd.lt (fun e => own_not h.own h.rd.1 (by decide) e.symm)).trans h.rd.1
end
end Go.Proofs.YtjpokcjpogkafaaGreatDoor
namespace Go.Proofs.YtjpokcjpogkafaaGreatDoor
open Go.RowKit
set_option linter.unusedVariables false

/-- What batch holds: the reader, the variable b, the result's, the changes read so far. -/
structure BSt (w : World) (rb bb : Nat) (t : ByteArray) (st : Int) (a : Nat) (v : Value) (pre : List ChangeL) (W : World) : Prop where
  rd : Rd W rb t a
  blk : W.heap[bb]? = some (.cells #[.int .i64 st, v] 60 (0, 0))
  res : W.heap[w.heap.size]? = some (.cells #[.int .i64 0, .slice none 0 0] 60 (0, 0))
  own : W.ownsRow w.heap.size 145 3 v pre.length (cellsChange pre)
  grown : w.grownBy W (some rb)
  up : rb < w.heap.size ∧ w.heap.size < bb
section
variable {w W W' : World} {rb bb a a' : Nat} {t : ByteArray} {st : Int} {v : Value} {pre : List ChangeL}
theorem BSt.call (h : BSt w rb bb t st a v pre W) (hr : Rd W' rb t a') (hg : W.grownBy W' (some rb)) : BSt w rb bb t st a' v pre W' :=
  have hu := h.up
  ⟨hr, grown_keep h.blk hg (by omega), grown_keep h.res hg (by omega), h.own.kept hg (Or.inr (own_not h.own h.rd.1 (by decide))), h.grown.trans hg, hu⟩
theorem BSt.drew (h : BSt w rb bb t st a v pre W) : BSt w rb bb t st a v pre W.drew := ⟨h.rd, h.blk, h.res, h.own, grown_drew h.grown, h.up⟩
theorem BSt.alloc (h : BSt w rb bb t st a v pre W) (o : Obj) : BSt w rb bb t st a v pre (W.alloc o) :=
  h.call (h.rd.below ((Below.refl _ _).alloc (Nat.le_refl _) _)) (grown_alloc _ _)
theorem BSt.c1 (h : BSt w rb bb t st a v pre W) : W.cell? ⟨bb, 1, none⟩ = some v := cell_of_row _ _ 1 _ _ _ h.blk
theorem BSt.f1 (h : BSt w rb bb t st a v pre W) : W.frozen? ⟨bb, 1, none⟩ = false := frozen_of_row _ _ _ _ _ h.blk
/-- An append to its own row. -/
theorem BSt.app (h : BSt w rb bb t st a v pre W) {v' : Value} {c : ChangeL} (hg : W.grownBy W' v.ownBlock) (hown : W'.ownsRow w.heap.size 145 3 v' (pre.length + 1) (cellsChange pre ++ [.string c.key, .string c.value, .bool c.gone])) :
    BSt w rb bb t st a v' (pre ++ [c]) (W'.setCell ⟨bb, 1, none⟩ v') := by
  have hu := h.up
  have e1 : ∀ {q : Nat} {cs : Array Value} {ty : TypeId}, W.heap[q]? = some (.cells cs ty (0, 0)) → 145 ≠ ty → W'.heap[q]? = some (.cells cs ty (0, 0)) := fun {q cs ty} hq hne =>
    (hg.block q (Array.getElem?_eq_some_iff.1 hq).1 (fun e => own_not h.own hq hne e.symm)).trans hq
  have hb' := e1 h.blk (by decide)
  have hblk : (W'.setCell ⟨bb, 1, none⟩ v').heap[bb]? = some (.cells #[.int .i64 st, v'] 60 (0, 0)) := by
    have := heap_setCell_same W' bb 1 _ 60 v' hb'
    simpa using this
  have hown' : W'.ownsRow w.heap.size 145 3 v' (pre ++ [c]).length (cellsChange (pre ++ [c])) := by
    rw [cellsChange_app, List.length_append]; exact hown
  refine ⟨⟨set_far (e1 h.rd.1 (by decide)) (by omega) _ _, h.rd.2⟩, hblk, set_far (e1 h.res (by decide)) (by omega) _ _, own_set hown' _ _ _ (own_not hown' hb' (by decide)), ?_, hu⟩
  have h1 : w.grownBy W' (some rb) := h.grown.andThen hg (fun r e => Or.inl (h.own.lt r e).1)
  exact grown_new h1 (by omega) _ _
end
theorem change_news (c : ChangeL) : ∀ u ∈ [Value.string c.key, .string c.value, .bool c.gone], u.oneCell' = true := by
  intro u hu
  simp at hu
  rcases hu with rfl | rfl | rfl <;> rfl
theorem rdMany_next {t : ByteArray} {m a e : Nat} {l : List ChangeL} (h : Batches.rdMany t (m + 1) a = some (l, e)) : ∃ c a1 r, Batches.rdOne t a = some (c, a1) ∧ Batches.rdMany t m a1 = some (r, e) ∧ l = c :: r := by
  rw [Batches.rdMany] at h
  split at h
  · cases h
  · rename_i c a1 h1
    split at h
    · cases h
    · rename_i r a2 h2
      simp only [Option.some.injEq, Prod.mk.injEq] at h
      obtain ⟨rfl, rfl⟩ := h
      exact ⟨c, a1, r, h1, h2, rfl⟩
theorem rdMany_torn {t : ByteArray} {m a : Nat} (h : Batches.rdMany t (m + 1) a = none) : Batches.rdOne t a = none ∨ ∃ c a1, Batches.rdOne t a = some (c, a1) ∧ Batches.rdMany t m a1 = none := by
  rw [Batches.rdMany] at h
  split at h
  · rename_i h1; exact Or.inl h1
  · rename_i c a1 h1
    split at h
    · rename_i h2; exact Or.inr ⟨c, a1, h1, h2⟩
    · cases h

set_option maxHeartbeats 1000000 in
set_option maxRecDepth 100000 in
theorem batch_some {rb : Nat} {t : ByteArray} {st a1 n a2 e : Nat} {l : List ChangeL} (hs : t.size ≤ 1048576) (w : World) (hr : Rd w rb t 0)
    (h1 : Words.rd t.data.toList 0 = some (st, a1)) (h2 : Words.rd t.data.toList a1 = some (n, a2)) (hn : n ≤ 60) (h3 : Batches.rdMany t n a2 = some (l, e)) :
    Calls Tryz.prog 244 #[.pointer (some ⟨rb, 0, none⟩)] w fun en w' => ∃ v, en = .returned (.agg #[.int .i64 (st : Int), v]) ∧ w'.ownsRow w.heap.size 145 3 v l.length (cellsChange l) ∧ Rd w' rb t e ∧ w.grownBy w' (some rb) := by
  obtain ⟨i0, hi, hz0, hz1, hz2⟩ := info_parts Tryz.info145
  have hlt := hr.lt
  have HR : Hid (Rd (w.alloc (Obj.cells #[Value.int IntKind.i64 0, Value.slice none 0 0] 60)) rb t 0) := hr.below ((Below.refl _ _).alloc (Nat.le_refl _) _)
  have HZ : Hid ((w.alloc (Obj.cells #[Value.int IntKind.i64 0, Value.slice none 0 0] 60)).heap[w.heap.size]? = some (Obj.cells #[Value.int IntKind.i64 0, Value.slice none 0 0] 60 (0, 0))) := heap_alloc_new w _
  have HG : Hid (w.grownBy (w.alloc (Obj.cells #[Value.int IntKind.i64 0, Value.slice none 0 0] 60)) (some rb)) := grown_alloc _ _
  have H1 : Hid (_ = _) := h1
  have H2 : Hid (_ = _) := h2
  have H3 : Hid (_ = _) := h3
  have HC : Hid (∀ wx : World, (callFunc 259 #[.pointer (some ⟨rb, 0, none⟩)]).run Tryz.prog wx = .ok (.enter 259 #[.pointer (some ⟨rb, 0, none⟩)]) wx) := fun _ => by kernel_rfl
  clear hr h1 h2 h3
  go_enter Tryz.func244, Tryz.ntmps244
  go_wp2_with fail
  refine (number_some hs _ HR.out H1.out).mono ?_
  rintro en w1 ⟨rfl, hr1, hg1⟩
  have hz1 := (HG.out.trans hg1).size
  have hzz : w.heap.size < w1.heap.size := by have := hg1.size; simp at this; omega
  have HS1 : Hid (BSt w rb w1.heap.size t (st : Int) a1 (.slice none 0 0) [] (w1.alloc (Obj.cells #[Value.int IntKind.i64 ↑st, Value.slice none 0 0] 60))) :=
    ⟨hr1.below ((Below.refl _ _).alloc (Nat.le_refl _) _), heap_alloc_new w1 _, ((Below.refl _ _).alloc (Nat.le_refl _) _ : Below w1.heap.size w1 _).block _ hzz |>.trans (grown_keep HZ.out hg1 (by omega)), World.ownsRow_nil _ _ _ _, (HG.out.trans hg1).trans (grown_alloc _ _), hlt, hzz⟩
  obtain ⟨bb, hbb⟩ : ∃ bb, bb = w1.heap.size := ⟨_, rfl⟩
  rw [← hbb] at HS1
  clear hr1 hg1 hz1 HR HZ HG
  go_wp2_with fail
  rw [← hbb]
  refine (count_some hs _ HS1.out.rd H2.out hn).mono ?_
  rintro en w2 ⟨rfl, hr2, hg2⟩
  have HS2 : Hid (BSt w rb bb t (st : Int) a2 (.slice none 0 0) [] w2) := HS1.out.call hr2 hg2
  clear hr2 hg2 HS1 hbb hzz
  go_wp2
  go_loopw [9] (fun i wr => ∃ (k a' : Nat) (v : Value) (pre rest : List ChangeL), k ≤ n ∧ i = .int .i64 (k : Int) ∧ pre.length = k ∧ pre ++ rest = l ∧ Batches.rdMany t (n - k) a' = some (rest, e) ∧ BSt w rb bb t (st : Int) a' v pre wr)
    (fun i _ => n - (intOf i).toNat)
  case atStart => exact ⟨0, a2, _, [], l, Nat.zero_le _, rfl, rfl, rfl, H3.out, HS2.out⟩
  case round =>
    obtain ⟨k, a', v, pre, rest, hk, rfl, hpl0, hpr, hrd, hst⟩ := hrel
    have HS : Hid (BSt w rb bb t (st : Int) a' v pre wr) := hst
    have HP : Hid (pre ++ rest = l) := hpr
    have HM : Hid (Batches.rdMany t (n - k) a' = some (rest, e)) := hrd
    have HPL : Hid (pre.length = k) := hpl0
    clear hst hpr hrd hpl0
    by_cases hlt : k < n
    · obtain ⟨c, a1', r, hone, hmany, hrest⟩ := rdMany_next (m := n - k - 1) (by rw [show n - k - 1 + 1 = n - k by omega]; exact HM.out)
      have HO : Hid (_ = _) := hone
      have HM1 : Hid (Batches.rdMany t (n - (k + 1)) a1' = some (r, e)) := by rw [show n - (k + 1) = n - k - 1 by omega]; exact hmany
      have HP1 : Hid ((pre ++ [c]) ++ r = l) := by show _ = _; rw [← HP.out, hrest]; simp
      clear hone hmany hrest HM HP
      obtain ⟨va, vc, rfl⟩ := own_slice HS.out.own
      have hu := HS.out.up
      have cB := HS.out.c1
      have hnB := own_not HS.out.own HS.out.blk (by decide)
      have hpl : pre.length + 1 ≤ maxLen := by have := HPL.out; unfold maxLen; omega
      have hby : (pre.length + 1) * 40 ≤ 140737488355328 := by have := HPL.out; omega
      have hk1 : (k : Int) < (n : Int) := by omega
      go_wp2_with fail
      go_region_law (first | (refine step_call (by rfl) 259 _ _ (by rfl) (.pointer (some ⟨rb, 0, none⟩)) (by rfl) (changeV c) _ HC.out (change_some hs _ (HS.out.drew.rd) HO.out) ?_; rintro wa ⟨hra, hga⟩; have HSa : Hid (BSt w rb bb t (st : Int) a1' (.slice va pre.length vc) pre wa) := HS.out.drew.call hra hga; have cRa := HSa.out.c1; have cRb := fun o => (HSa.out.alloc o).c1; clear hra hga; unfold changeV) | (refine step_append_lies _ (by rfl) _ _ _ (by rfl) w.heap.size 145 i0 _ 3 40 Tryz.underlying58 hi hz0 hz1 hz2 rfl (Nat.zero_lt_succ _) _ pre.length (cellsChange pre) (by rfl) ((HSa.out.alloc _).own) ⟨wa.heap.size, 0, none⟩ 1 1 [.string c.key, .string c.value, .bool c.gone] (by rfl) (by rfl) (World.news_of_block (cs := #[.string c.key, .string c.value, .bool c.gone]) (t := 145) (fr := (0, 0)) (heap_alloc_new wa _)) (change_news c) (Nat.zero_lt_succ _) hpl hby (by have h2 := HSa.out.grown.size; simp; omega) (wa.heap.size + 1) (Array.size_push ..) ?_; intro g2 cap2 w8 hown8 hgrow hat hlt8; have hB8 := grown_keep' (HSa.out.alloc _).blk hgrow hnB; have cR8 := cell_of_row _ _ 1 _ _ _ hB8; have fR8 := frozen_of_row _ _ 1 _ _ hB8))
      all_goals
        have HS9 : Hid (BSt w rb bb t (st : Int) a1' (.slice (some ⟨g2, 0, none⟩) (pre.length + 1) cap2) (pre ++ [c]) (w8.setCell ⟨bb, 1, none⟩ (.slice (some ⟨g2, 0, none⟩) (pre.length + 1) cap2))) := (HSa.out.alloc _).app hgrow hown8
        clear hown8 hgrow hat hlt8 hB8
        go_wp2
        go_roundw
        case rel => exact ⟨k + 1, a1', _, pre ++ [c], r, by omega, by go_num, by have := HPL.out; simp; omega, HP1.out, HM1.out, HS9.out⟩
        case measure => simp [intOf]; omega
    · have hk1 : ¬ (k : Int) < (n : Int) := by omega
      have HE : Hid (rest = [] ∧ a' = e) := by
        have h := HM.out
        rw [show n - k = 0 by omega, Batches.rdMany] at h
        simp only [Option.some.injEq, Prod.mk.injEq] at h
        exact ⟨h.1.symm, h.2⟩
      obtain ⟨va, vc, rfl⟩ := own_slice HS.out.own
      have hu := HS.out.up
      have b0 := cell_of_row _ _ 0 _ _ _ HS.out.blk
      have b1 := cell_of_row _ _ 1 _ _ _ HS.out.blk
      have r0 := cell_of_row _ _ 0 _ _ _ HS.out.res
      have r1 := cell_of_row _ _ 1 _ _ _ HS.out.res
      have fr0 := frozen_of_row _ _ 0 _ _ HS.out.res
      have fr1 := frozen_of_row _ _ 1 _ _ HS.out.res
      simp at b0 b1 r0 r1
      go_wp2
      obtain ⟨l0, l1⟩ := two_cell HS.out.res (.int .i64 (st : Int)) (.slice va pre.length vc)
      have hpe : pre = l := by rw [← HP.out, HE.out.1]; simp
      refine bodyPost_ret (v := .agg #[.int .i64 (st : Int), .slice va pre.length vc]) (by simp [results, Tryz.results244, go_sem, l0, l1]) rfl ⟨.slice va pre.length vc, rfl, ?_, ?_, ?_⟩
      · rw [← hpe]
        exact own_set (own_set HS.out.own _ _ _ (own_not HS.out.own HS.out.res (by decide))) _ _ _ (own_not HS.out.own HS.out.res (by decide))
      · rw [← HE.out.2]
        exact (HS.out.rd.setNew (k := w.heap.size) (by omega) 0 _).setNew (k := w.heap.size) (by omega) 1 _
      · exact grown_new (grown_new HS.out.grown (k := w.heap.size) (Nat.le_refl _) 0 _) (k := w.heap.size) (Nat.le_refl _) 1 _
set_option maxHeartbeats 1000000 in
set_option maxRecDepth 100000 in
theorem batch_torn {rb : Nat} {t : ByteArray} {st a1 n a2 : Nat} (hs : t.size ≤ 1048576) (w : World) (hr : Rd w rb t 0)
    (h1 : Words.rd t.data.toList 0 = some (st, a1)) (h2 : Words.rd t.data.toList a1 = some (n, a2)) (hn : n ≤ 60) (h3 : Batches.rdMany t n a2 = none) :
    Calls Tryz.prog 244 #[.pointer (some ⟨rb, 0, none⟩)] w fun en w' => en = .panicked thrown ∧ w.grownBy w' (some rb) := by
  obtain ⟨i0, hi, hz0, hz1, hz2⟩ := info_parts Tryz.info145
  have hlt := hr.lt
  have HR : Hid (Rd (w.alloc (Obj.cells #[Value.int IntKind.i64 0, Value.slice none 0 0] 60)) rb t 0) := hr.below ((Below.refl _ _).alloc (Nat.le_refl _) _)
  have HZ : Hid ((w.alloc (Obj.cells #[Value.int IntKind.i64 0, Value.slice none 0 0] 60)).heap[w.heap.size]? = some (Obj.cells #[Value.int IntKind.i64 0, Value.slice none 0 0] 60 (0, 0))) := heap_alloc_new w _
  have HG : Hid (w.grownBy (w.alloc (Obj.cells #[Value.int IntKind.i64 0, Value.slice none 0 0] 60)) (some rb)) := grown_alloc _ _
  have H1 : Hid (_ = _) := h1
  have H2 : Hid (_ = _) := h2
  have H3 : Hid (_ = _) := h3
  have HC : Hid (∀ wx : World, (callFunc 259 #[.pointer (some ⟨rb, 0, none⟩)]).run Tryz.prog wx = .ok (.enter 259 #[.pointer (some ⟨rb, 0, none⟩)]) wx) := fun _ => by kernel_rfl
  clear hr h1 h2 h3
  go_enter Tryz.func244, Tryz.ntmps244
  go_wp2_with fail
  refine (number_some hs _ HR.out H1.out).mono ?_
  rintro en w1 ⟨rfl, hr1, hg1⟩
  have hz1 := (HG.out.trans hg1).size
  have hzz : w.heap.size < w1.heap.size := by have := hg1.size; simp at this; omega
  have HS1 : Hid (BSt w rb w1.heap.size t (st : Int) a1 (.slice none 0 0) [] (w1.alloc (Obj.cells #[Value.int IntKind.i64 ↑st, Value.slice none 0 0] 60))) :=
    ⟨hr1.below ((Below.refl _ _).alloc (Nat.le_refl _) _), heap_alloc_new w1 _, ((Below.refl _ _).alloc (Nat.le_refl _) _ : Below w1.heap.size w1 _).block _ hzz |>.trans (grown_keep HZ.out hg1 (by omega)), World.ownsRow_nil _ _ _ _, (HG.out.trans hg1).trans (grown_alloc _ _), hlt, hzz⟩
  obtain ⟨bb, hbb⟩ : ∃ bb, bb = w1.heap.size := ⟨_, rfl⟩
  rw [← hbb] at HS1
  clear hr1 hg1 hz1 HR HZ HG
  go_wp2_with fail
  rw [← hbb]
  refine (count_some hs _ HS1.out.rd H2.out hn).mono ?_
  rintro en w2 ⟨rfl, hr2, hg2⟩
  have HS2 : Hid (BSt w rb bb t (st : Int) a2 (.slice none 0 0) [] w2) := HS1.out.call hr2 hg2
  clear hr2 hg2 HS1 hbb hzz
  go_wp2
  go_loopw [9] (fun i wr => ∃ (k a' : Nat) (v : Value) (pre : List ChangeL), k ≤ n ∧ i = .int .i64 (k : Int) ∧ pre.length = k ∧ Batches.rdMany t (n - k) a' = none ∧ BSt w rb bb t (st : Int) a' v pre wr)
    (fun i _ => n - (intOf i).toNat)
  case atStart => exact ⟨0, a2, _, [], Nat.zero_le _, rfl, rfl, H3.out, HS2.out⟩
  case round =>
    obtain ⟨k, a', v, pre, hk, rfl, hpl0, hrd, hst⟩ := hrel
    have HS : Hid (BSt w rb bb t (st : Int) a' v pre wr) := hst
    have HM : Hid (Batches.rdMany t (n - k) a' = none) := hrd
    have HPL : Hid (pre.length = k) := hpl0
    clear hst hrd hpl0
    have hlt : k < n := by
      rcases Nat.lt_or_ge k n with h | h
      · exact h
      · have := HM.out
        rw [show n - k = 0 by omega, Batches.rdMany] at this
        cases this
    rcases rdMany_torn (m := n - k - 1) (by rw [show n - k - 1 + 1 = n - k by omega]; exact HM.out) with hone | ⟨c, a1', hone, hmany⟩
    · have HO : Hid (Batches.rdOne t a' = none) := hone
      clear hone
      obtain ⟨va, vc, rfl⟩ := own_slice HS.out.own
      have hk1 : (k : Int) < (n : Int) := by omega
      go_wp2_with fail
      refine wp_region_held_drew (S := fun w' => w'.cell? ⟨bb, 1, none⟩ = some (.slice va pre.length vc)) (by kernel_rfl) HS.out.drew.c1 (fun hSw => ?_)
      refine wpAnyH_take (i := 0) (v := .pointer (some ⟨bb, 1, none⟩)) rfl (by kernel_rfl) (by kernel_rfl) (by kernel_rfl) (fun _ _ _ h => h) (Or.inl ⟨by rfl, fun w hw => by go_simp⟩) hSw ?_
      refine wpAnyH_take (i := 1) (v := .slice va pre.length vc) rfl (by kernel_rfl) (by kernel_rfl) (by kernel_rfl) (fun _ _ _ h => h) (Or.inl ⟨by rfl, fun w hw => by dsimp only at hw; go_simp⟩) hSw ?_
      refine wpAnyH_take (i := 2) (v := .pointer (some ⟨rb, 0, none⟩)) rfl (by kernel_rfl) (by kernel_rfl) (by kernel_rfl) (fun _ _ _ h => h) (Or.inl ⟨by rfl, fun w hw => by go_simp⟩) hSw ?_
      refine wpAnyH_ready (rs := [3]) (by kernel_rfl) (by simp) ?_
      refine AllReadyH.cons rfl (fun K hK => ?_) AllReadyH.nil
      refine step_panic (by rfl) 259 _ _ (by rfl) (.pointer (some ⟨rb, 0, none⟩)) (by rfl) thrown _ HC.out (change_none hs _ HS.out.drew.rd HO.out) ?_
      intro w9 hg9
      exact ⟨rfl, rfl, HS.out.drew.grown.trans hg9⟩
    · have HO : Hid (_ = _) := hone
      have HM1 : Hid (Batches.rdMany t (n - (k + 1)) a1' = none) := by rw [show n - (k + 1) = n - k - 1 by omega]; exact hmany
      clear hone hmany HM
      obtain ⟨va, vc, rfl⟩ := own_slice HS.out.own
      have hu := HS.out.up
      have cB := HS.out.c1
      have hnB := own_not HS.out.own HS.out.blk (by decide)
      have hpl : pre.length + 1 ≤ maxLen := by have := HPL.out; unfold maxLen; omega
      have hby : (pre.length + 1) * 40 ≤ 140737488355328 := by have := HPL.out; omega
      have hk1 : (k : Int) < (n : Int) := by omega
      go_wp2_with fail
      go_region_law (first | (refine step_call (by rfl) 259 _ _ (by rfl) (.pointer (some ⟨rb, 0, none⟩)) (by rfl) (changeV c) _ HC.out (change_some hs _ (HS.out.drew.rd) HO.out) ?_; rintro wa ⟨hra, hga⟩; have HSa : Hid (BSt w rb bb t (st : Int) a1' (.slice va pre.length vc) pre wa) := HS.out.drew.call hra hga; have cRa := HSa.out.c1; have cRb := fun o => (HSa.out.alloc o).c1; clear hra hga; unfold changeV) | (refine step_append_lies _ (by rfl) _ _ _ (by rfl) w.heap.size 145 i0 _ 3 40 Tryz.underlying58 hi hz0 hz1 hz2 rfl (Nat.zero_lt_succ _) _ pre.length (cellsChange pre) (by rfl) ((HSa.out.alloc _).own) ⟨wa.heap.size, 0, none⟩ 1 1 [.string c.key, .string c.value, .bool c.gone] (by rfl) (by rfl) (World.news_of_block (cs := #[.string c.key, .string c.value, .bool c.gone]) (t := 145) (fr := (0, 0)) (heap_alloc_new wa _)) (change_news c) (Nat.zero_lt_succ _) hpl hby (by have h2 := HSa.out.grown.size; simp; omega) (wa.heap.size + 1) (Array.size_push ..) ?_; intro g2 cap2 w8 hown8 hgrow hat hlt8; have hB8 := grown_keep' (HSa.out.alloc _).blk hgrow hnB; have cR8 := cell_of_row _ _ 1 _ _ _ hB8; have fR8 := frozen_of_row _ _ 1 _ _ hB8))
      all_goals
        have HS9 : Hid (BSt w rb bb t (st : Int) a1' (.slice (some ⟨g2, 0, none⟩) (pre.length + 1) cap2) (pre ++ [c]) (w8.setCell ⟨bb, 1, none⟩ (.slice (some ⟨g2, 0, none⟩) (pre.length + 1) cap2))) := (HSa.out.alloc _).app hgrow hown8
        clear hown8 hgrow hat hlt8 hB8
        go_wp2
        go_roundw
        case rel => exact ⟨k + 1, a1', _, pre ++ [c], by omega, by go_num, by have := HPL.out; simp; omega, HM1.out, HS9.out⟩
        case measure => simp [intOf]; omega
set_option maxHeartbeats 1000000 in
theorem batch_over {rb : Nat} {t : ByteArray} {st a1 n a2 : Nat} (hs : t.size ≤ 1048576) (w : World) (hr : Rd w rb t 0) (h1 : Words.rd t.data.toList 0 = some (st, a1)) (h2 : Words.rd t.data.toList a1 = some (n, a2)) (hn : ¬ n ≤ 60) :
    Calls Tryz.prog 244 #[.pointer (some ⟨rb, 0, none⟩)] w fun en w' => en = .panicked thrown ∧ w.grownBy w' (some rb) := by
  have hlt := hr.lt
  have HR : Hid (Rd (w.alloc (Obj.cells #[Value.int IntKind.i64 0, Value.slice none 0 0] 60)) rb t 0) := hr.below ((Below.refl _ _).alloc (Nat.le_refl _) _)
  have HZ : Hid ((w.alloc (Obj.cells #[Value.int IntKind.i64 0, Value.slice none 0 0] 60)).heap[w.heap.size]? = some (Obj.cells #[Value.int IntKind.i64 0, Value.slice none 0 0] 60 (0, 0))) := heap_alloc_new w _
  have HG : Hid (w.grownBy (w.alloc (Obj.cells #[Value.int IntKind.i64 0, Value.slice none 0 0] 60)) (some rb)) := grown_alloc _ _
  have H1 : Hid (_ = _) := h1
  have H2 : Hid (_ = _) := h2
  clear hr h1 h2
  go_enter Tryz.func244, Tryz.ntmps244
  go_wp2_with fail
  refine (number_some hs _ HR.out H1.out).mono ?_
  rintro en w1 ⟨rfl, hr1, hg1⟩
  have hz1 := (HG.out.trans hg1).size
  have hzz : w.heap.size < w1.heap.size := by have := hg1.size; simp at this; omega
  have HS1 : Hid (BSt w rb w1.heap.size t (st : Int) a1 (.slice none 0 0) [] (w1.alloc (Obj.cells #[Value.int IntKind.i64 ↑st, Value.slice none 0 0] 60))) :=
    ⟨hr1.below ((Below.refl _ _).alloc (Nat.le_refl _) _), heap_alloc_new w1 _, ((Below.refl _ _).alloc (Nat.le_refl _) _ : Below w1.heap.size w1 _).block _ hzz |>.trans (grown_keep HZ.out hg1 (by omega)), World.ownsRow_nil _ _ _ _, (HG.out.trans hg1).trans (grown_alloc _ _), hlt, hzz⟩
  obtain ⟨bb, hbb⟩ : ∃ bb, bb = w1.heap.size := ⟨_, rfl⟩
  rw [← hbb] at HS1
  clear hr1 hg1 hz1 HR HZ HG
  go_wp2_with fail
  rw [← hbb]
  refine (count_over hs _ HS1.out.rd H2.out hn).mono ?_
  rintro en w2 ⟨rfl, hg2⟩
  exact ⟨rfl, rfl, HS1.out.grown.trans hg2⟩
set_option maxHeartbeats 1000000 in
theorem batch_nocount {rb : Nat} {t : ByteArray} {st a1 : Nat} (hs : t.size ≤ 1048576) (w : World) (hr : Rd w rb t 0) (h1 : Words.rd t.data.toList 0 = some (st, a1)) (h2 : Words.rd t.data.toList a1 = none) :
    Calls Tryz.prog 244 #[.pointer (some ⟨rb, 0, none⟩)] w fun en w' => en = .panicked thrown ∧ w.grownBy w' (some rb) := by
  have hlt := hr.lt
  have HR : Hid (Rd (w.alloc (Obj.cells #[Value.int IntKind.i64 0, Value.slice none 0 0] 60)) rb t 0) := hr.below ((Below.refl _ _).alloc (Nat.le_refl _) _)
  have HZ : Hid ((w.alloc (Obj.cells #[Value.int IntKind.i64 0, Value.slice none 0 0] 60)).heap[w.heap.size]? = some (Obj.cells #[Value.int IntKind.i64 0, Value.slice none 0 0] 60 (0, 0))) := heap_alloc_new w _
  have HG : Hid (w.grownBy (w.alloc (Obj.cells #[Value.int IntKind.i64 0, Value.slice none 0 0] 60)) (some rb)) := grown_alloc _ _
  have H1 : Hid (_ = _) := h1
  have H2 : Hid (_ = _) := h2
  clear hr h1 h2
  go_enter Tryz.func244, Tryz.ntmps244
  go_wp2_with fail
  refine (number_some hs _ HR.out H1.out).mono ?_
  rintro en w1 ⟨rfl, hr1, hg1⟩
  have hz1 := (HG.out.trans hg1).size
  have hzz : w.heap.size < w1.heap.size := by have := hg1.size; simp at this; omega
  have HS1 : Hid (BSt w rb w1.heap.size t (st : Int) a1 (.slice none 0 0) [] (w1.alloc (Obj.cells #[Value.int IntKind.i64 ↑st, Value.slice none 0 0] 60))) :=
    ⟨hr1.below ((Below.refl _ _).alloc (Nat.le_refl _) _), heap_alloc_new w1 _, ((Below.refl _ _).alloc (Nat.le_refl _) _ : Below w1.heap.size w1 _).block _ hzz |>.trans (grown_keep HZ.out hg1 (by omega)), World.ownsRow_nil _ _ _ _, (HG.out.trans hg1).trans (grown_alloc _ _), hlt, hzz⟩
  obtain ⟨bb, hbb⟩ : ∃ bb, bb = w1.heap.size := ⟨_, rfl⟩
  rw [← hbb] at HS1
  clear hr1 hg1 hz1 HR HZ HG
  go_wp2_with fail
  rw [← hbb]
  refine (count_none hs _ HS1.out.rd H2.out).mono ?_
  rintro en w2 ⟨rfl, hg2⟩
  exact ⟨rfl, rfl, HS1.out.grown.trans hg2⟩
set_option maxHeartbeats 1000000 in
theorem batch_nostamp {rb : Nat} {t : ByteArray} (hs : t.size ≤ 1048576) (w : World) (hr : Rd w rb t 0) (h1 : Words.rd t.data.toList 0 = none) :
    Calls Tryz.prog 244 #[.pointer (some ⟨rb, 0, none⟩)] w fun en w' => en = .panicked thrown ∧ w.grownBy w' (some rb) := by
  have hlt := hr.lt
  have HR : Hid (Rd (w.alloc (Obj.cells #[Value.int IntKind.i64 0, Value.slice none 0 0] 60)) rb t 0) := hr.below ((Below.refl _ _).alloc (Nat.le_refl _) _)
  have HZ : Hid ((w.alloc (Obj.cells #[Value.int IntKind.i64 0, Value.slice none 0 0] 60)).heap[w.heap.size]? = some (Obj.cells #[Value.int IntKind.i64 0, Value.slice none 0 0] 60 (0, 0))) := heap_alloc_new w _
  have HG : Hid (w.grownBy (w.alloc (Obj.cells #[Value.int IntKind.i64 0, Value.slice none 0 0] 60)) (some rb)) := grown_alloc _ _
  have H1 : Hid (_ = _) := h1
  clear hr h1
  go_enter Tryz.func244, Tryz.ntmps244
  go_wp2_with fail
  refine (number_none hs _ HR.out H1.out).mono ?_
  rintro en w1 ⟨rfl, hg1⟩
  exact ⟨rfl, rfl, HG.out.trans hg1⟩
end Go.Proofs.YtjpokcjpogkafaaGreatDoor
