/- Lists of raw writes in memory, 4 cells each; measured, copied, held against each other, marked. Made by program. -/
import Derived.Test.YtdpbmaedpdbppaaKit
import Derived.Test.YtdpbmaedpdbppaaMarkA
import Derived.Test.YtdpbmaedpdbppaaRawL
import Derived.Test.YtdpbmaedpdbppaaLEn
import Derived.Laws.AppendOwnNone
import Derived.Deep.RegionHeld3
import Derived.Deep.DeepCutAuto
namespace Go.Proofs.Ytdpbmaedpdbppaa
open Go.RowKit
set_option linter.unusedVariables false
set_option linter.unusedSimpArgs false

def rwV (r : RawL) : Value := .agg #[.int .i64 r.kind, .string r.name, .string r.to, .string r.text]
/-- A slice at a whose elements are these. -/
def RwAt (w : World) (a : Option Addr) (g off : Nat) (l : List RawL) : Prop :=
  (0 < l.length → a = some ⟨g, off, none⟩) ∧ ∀ j (hj : j < l.length), w.cell? ⟨g, off + j * 4, none⟩ = some (.int .i64 l[j].kind) ∧ w.cell? ⟨g, off + j * 4 + 1, none⟩ = some (.string l[j].name) ∧ w.cell? ⟨g, off + j * 4 + 2, none⟩ = some (.string l[j].to) ∧ w.cell? ⟨g, off + j * 4 + 3, none⟩ = some (.string l[j].text)
theorem RwAt.lt {w : World} {a : Option Addr} {g off : Nat} {l : List RawL} (h : RwAt w a g off l) (hl : 0 < l.length) : g < w.heap.size := World.block_lt_of_cell? w _ (h.2 0 hl).1
theorem RwAt.kept {w w' : World} {a : Option Addr} {g off : Nat} {l : List RawL} (h : RwAt w a g off l) (hb : Below w.heap.size w w') : RwAt w' a g off l := by
  refine ⟨h.1, fun j hj => ?_⟩
  have hg := h.lt (by omega)
  rw [hb.cell (p := ⟨g, off + j * 4, none⟩) hg, hb.cell (p := ⟨g, off + j * 4 + 1, none⟩) hg, hb.cell (p := ⟨g, off + j * 4 + 2, none⟩) hg, hb.cell (p := ⟨g, off + j * 4 + 3, none⟩) hg]
  exact h.2 j hj
def cellsRw (l : List RawL) : List Value := l.flatMap fun r => [.int .i64 r.kind, .string r.name, .string r.to, .string r.text]
theorem cellsRw_len : ∀ l : List RawL, (cellsRw l).length = l.length * 4
  | [] => rfl
  | r :: l => by have := cellsRw_len l; simp only [cellsRw, List.flatMap_cons, List.length_append, List.length_cons, List.length_nil] at *; omega
theorem cellsRw_app (l m : List RawL) : cellsRw (l ++ m) = cellsRw l ++ cellsRw m := by simp [cellsRw]
theorem cellsRw_at : ∀ (l : List RawL) (j : Nat) (hj : j < l.length), (cellsRw l)[j * 4]? = some (.int .i64 l[j].kind) ∧ (cellsRw l)[j * 4 + 1]? = some (.string l[j].name) ∧ (cellsRw l)[j * 4 + 2]? = some (.string l[j].to) ∧ (cellsRw l)[j * 4 + 3]? = some (.string l[j].text)
  | r :: l, 0, _ => ⟨rfl, rfl, rfl, rfl⟩
  | r :: l, j + 1, hj => by
    have := cellsRw_at l j (by simpa using hj)
    simpa [cellsRw, Nat.add_mul, Nat.add_assoc] using this
theorem cellsRw_set : ∀ (l : List RawL) (j : Nat) (r : RawL), cellsRw (l.set j r) = ((((cellsRw l).set (j * 4) (.int .i64 r.kind)).set (j * 4 + 1) (.string r.name)).set (j * 4 + 2) (.string r.to)).set (j * 4 + 3) (.string r.text)
  | [], j, r => by simp [cellsRw]
  | x :: l, 0, r => by simp [cellsRw]
  | x :: l, j + 1, r => by
    have := cellsRw_set l j r
    simp only [cellsRw, List.set_cons_succ, List.flatMap_cons, List.cons_append, List.nil_append, Nat.add_mul] at *
    rw [this]
theorem cellsRw_own {w : World} {base : Nat} {e : TypeId} {g n cap : Nat} {l : List RawL} (hn : l.length = n) (h : w.ownsRow base e 4 (.slice (some ⟨g, 0, none⟩) n cap) n (cellsRw l)) : RwAt w (some ⟨g, 0, none⟩) g 0 l := by
  refine ⟨fun _ => rfl, fun j hj => ?_⟩
  rw [Nat.zero_add, h.cellAt (j * 4) (by omega), h.cellAt (j * 4 + 1) (by omega), h.cellAt (j * 4 + 2) (by omega), h.cellAt (j * 4 + 3) (by omega)]
  exact cellsRw_at l j hj
theorem cellsRw_slice {w : World} {base : Nat} {v : Value} {l : List RawL} (h : w.ownsRow base 85 4 v l.length (cellsRw l)) : ∃ a g cap, v = .slice a l.length cap ∧ RwAt w a g 0 l := by
  rcases h.2 with ⟨h1, h2⟩ | ⟨g, cap, cur, h1, _⟩
  · exact ⟨none, 0, 0, by rw [h1, h2], fun q => by omega, fun j hj => by omega⟩
  · subst h1; exact ⟨_, g, cap, rfl, cellsRw_own rfl h⟩
theorem madeRw (n : Nat) : (madeCells #[Value.int .i64 0, Value.string ByteArray.empty, Value.string ByteArray.empty, Value.string ByteArray.empty] (n * 4)).toList = cellsRw (List.replicate n ⟨0, ByteArray.empty, ByteArray.empty, ByteArray.empty⟩) := by
  induction n with
  | zero => simp [madeCells, cellsRw]
  | succ n ih =>
    rw [List.replicate_succ', cellsRw_app, ← ih, show (n + 1) * 4 = n * 4 + 4 by omega]
    simp only [madeCells, Array.toList_map, Array.toList_range, List.range_add, List.map_append, List.map_map, Function.comp_def]
    congr 1
    simp [List.range_succ, cellsRw]
def totRw1 (r : RawL) : Nat := r.name.size + r.to.size + r.text.size
def totRw : List RawL → Nat
  | [] => 0
  | r :: l => totRw1 r + 1 + totRw l
theorem totRw_app : ∀ (l m : List RawL), totRw (l ++ m) = totRw l + totRw m
  | [], m => by simp [totRw]
  | r :: l, m => by simp only [List.cons_append, totRw, totRw_app l m]; omega
theorem totRw_len : ∀ l : List RawL, l.length ≤ totRw l
  | [] => by simp [totRw]
  | r :: l => by have := totRw_len l; simp only [List.length_cons, totRw]; omega
theorem totRw_mem : ∀ {l : List RawL} {r : RawL}, r ∈ l → totRw1 r + 1 ≤ totRw l
  | x :: l, r, h => by
    rcases List.mem_cons.1 h with rfl | h
    · simp only [totRw]; omega
    · have := totRw_mem h; simp only [totRw]; omega
theorem totRw_take {l : List RawL} {j : Nat} (hj : j < l.length) : totRw (l.take (j + 1)) = totRw (l.take j) + (totRw1 l[j] + 1) := by
  rw [List.take_succ_eq_append_getElem hj, totRw_app]; simp [totRw]
def smallRw (B : Nat) (r : RawL) : Prop := r.name.size ≤ B ∧ r.to.size ≤ B ∧ r.text.size ≤ B
theorem totRw_small {l : List RawL} {B : Nat} (h : totRw l ≤ B) : l.length ≤ B ∧ ∀ r ∈ l, smallRw B r :=
  ⟨Nat.le_trans (totRw_len l) h, fun r hr => by have := totRw_mem hr; unfold totRw1 at this; exact ⟨by omega, by omega, by omega⟩⟩
theorem Try.info85 : (Try.prog.info? 85).map (fun i => (i.zero, i.size, i.bytes)) = some (some (.agg #[.int .i64 0, .string ByteArray.empty, .string ByteArray.empty, .string ByteArray.empty]), 4, 56) := by kernel_rfl
set_option maxHeartbeats 2000000 in
set_option maxRecDepth 100000 in
theorem eqRw1_same (r : RawL) (w : World) : Calls Try.prog 69 #[rwV r, rwV r] w fun e w' => e = .returned (.bool true) ∧ Below w.heap.size w w' := by
  obtain ⟨F0, F1, F2, F3⟩ := r
  unfold rwV
  go_enter Try.func69, Try.ntmps69
  go_wp2
  go_ret
  exact ⟨rfl, ((Below.refl _ _).alloc (Nat.le_refl _) _).alloc (by simp) _⟩
set_option maxHeartbeats 2000000 in
set_option maxRecDepth 100000 in
theorem eqRwS_same {a b : Option Addr} {g off cap h off' cap' : Nat} (l : List RawL) (hlen : l.length ≤ 1048576) (w : World) (hf : RwAt w a g off l) (hf' : RwAt w b h off' l) :
    Calls Try.prog 33 #[.slice a l.length cap, .slice b l.length cap'] w fun e w' => e = .returned (.bool true) ∧ Below w.heap.size w w' := by
  have HF : Hid (RwAt w a g off l) := hf
  have HF' : Hid (RwAt w b h off' l) := hf'
  clear hf hf'
  go_enter Try.func33, Try.ntmps33
  go_wp2
  go_loopw [5] (fun i wr => ∃ k : Nat, k ≤ l.length ∧ i = .int .i64 (k : Int) ∧ Below w.heap.size w wr)
    (fun i _ => l.length - (intOf i).toNat)
  case atStart => exact ⟨0, Nat.zero_le _, rfl, Below.refl _ _⟩
  case round =>
    obtain ⟨k, hk, rfl, hbel⟩ := hrel
    by_cases hlt : k < l.length
    · have hcc := (HF.out.kept hbel).2 k hlt
      have hdd := (HF'.out.kept hbel).2 k hlt
      have ea := HF.out.1 (by omega)
      have eb := HF'.out.1 (by omega)
      subst ea eb
      obtain ⟨F0, hF0⟩ : ∃ F0, F0 = l[k].kind := ⟨_, rfl⟩
      obtain ⟨F1, hF1⟩ : ∃ F1, F1 = l[k].name := ⟨_, rfl⟩
      obtain ⟨F2, hF2⟩ : ∃ F2, F2 = l[k].to := ⟨_, rfl⟩
      obtain ⟨F3, hF3⟩ : ∃ F3, F3 = l[k].text := ⟨_, rfl⟩
      have HEL : Hid (l[k] = ⟨F0, F1, F2, F3⟩) := by show _ = _; rw [hF0, hF1, hF2, hF3]
      simp only [← hF0, ← hF1, ← hF2, ← hF3] at hcc hdd
      obtain ⟨c0, c1, c2, c3⟩ := hcc
      obtain ⟨d0, d1, d2, d3⟩ := hdd
      clear hF0 hF1 hF2 hF3
      have hk0 : (0 : Int) ≤ (k : Int) := by omega
      have hk1 : (k : Int) < (l.length : Int) := by omega
      go_wp2
      have NE := Abv.ne wr
      have C0 := fun x : Abv wr => x.cell c0
      have D0 := fun x : Abv wr => x.cell d0
      have C1 := fun x : Abv wr => x.cell c1
      have D1 := fun x : Abv wr => x.cell d1
      have C2 := fun x : Abv wr => x.cell c2
      have D2 := fun x : Abv wr => x.cell d2
      have C3 := fun x : Abv wr => x.cell c3
      have D3 := fun x : Abv wr => x.cell d3
      refine wp_region_above (by kernel_rfl) (by kernel_rfl) ?_
      repeat (go_big_quiet_step (first | (go_at_call 69; exact calls_above (eqRw1_same ⟨F0, F1, F2, F3⟩ _))))
      refine wpQuiet_nil ?_
      rintro w1 ⟨⟨_, hb1⟩, rfl⟩
      clear NE C0 D0 C1 D1 C2 D2 C3 D3
      go_wp2
      go_roundw
      case rel => exact ⟨k + 1, by omega, by go_num, hbel.trans (hb1.mono hbel.size)⟩
      case measure => simp [intOf]; omega
    · have hk1 : ¬ (k : Int) < (l.length : Int) := by omega
      go_wp2
      go_ret
      exact ⟨rfl, hbel⟩
theorem RwAt.cellsAll {w : World} {a : Option Addr} {g off : Nat} {l : List RawL} (h : RwAt w a g off l) : ∀ j u, (cellsRw l)[j]? = some u → w.cell? ((⟨g, off, none⟩ : Addr).add j) = some u := by
  intro j u hu
  rw [Addr.add_lit]
  have hj : j < l.length * 4 := by rw [← cellsRw_len]; exact (List.getElem?_eq_some_iff.1 hu).1
  obtain ⟨k, i, hi, rfl⟩ : ∃ k i, i < 4 ∧ j = k * 4 + i := ⟨j / 4, j % 4, by omega, by omega⟩
  have h1 := cellsRw_at l k (by omega)
  have h2 := h.2 k (by omega)
  have h3 : i = 0 ∨ i = 1 ∨ i = 2 ∨ i = 3 := by omega
  rcases h3 with rfl | rfl | rfl | rfl
  · rw [show k * 4 + 0 = k * 4 from by omega, h1.1] at hu
    rw [← Option.some.inj hu]
    simpa [Nat.add_assoc] using h2.1
  · rw [h1.2.1] at hu
    rw [← Option.some.inj hu]
    simpa [Nat.add_assoc] using h2.2.1
  · rw [h1.2.2.1] at hu
    rw [← Option.some.inj hu]
    simpa [Nat.add_assoc] using h2.2.2.1
  · rw [h1.2.2.2] at hu
    rw [← Option.some.inj hu]
    simpa [Nat.add_assoc] using h2.2.2.2
theorem cellsRw_one {l : List RawL} : ∀ u ∈ cellsRw l, u.oneCell' = true := by
  intro u hu
  unfold cellsRw at hu
  obtain ⟨r, _, hr⟩ := List.mem_flatMap.1 hu
  simp only [List.mem_cons, List.not_mem_nil, or_false] at hr
  rcases hr with rfl | rfl | rfl | rfl <;> rfl
/-- 'append(x, y...)' onto a row of the call's own. -/
theorem wpList_appendRw {w : World} {ops : Array Oper} {rest : List Oper} {o : Oper} {act : Act} {Q : Exit → Act → World → Prop} (hgd : o.guard = none) (s x : Operand)
    (ho : o.op = .call { callee := .builtin .append, args := #[s, x], argTypes := #[52, 52] }) (base : Nat) (v : Value) (n : Nat) (xs : List Value) (hs : act.eval s = v) (hown : w.ownsRow base 85 4 v n xs)
    (a : Option Addr) (g off cap : Nat) (l : List RawL) (hx : act.eval x = .slice a l.length cap) (hf : RwAt w a g off l) (hnil : a = none → cap = 0) (h63 : n + l.length ≤ 2097152) (hbase : base ≤ w.heap.size)
    (h : ∀ v' w', w'.ownsRow base 85 4 v' (n + l.length) (xs ++ cellsRw l) → w.grownBy w' v.ownBlock → wpList Try.prog ops Q rest (act.put o.dst v') w') : wpList Try.prog ops Q (o :: rest) act w := by
  obtain ⟨i0, hi, hz0, hz1, hz2⟩ := info_parts Try.info85
  cases a with
  | none =>
    have hl : l = [] := by
      cases l with
      | nil => rfl
      | cons f r => have := hf.1 (by simp); cases this
    subst hl
    rw [hnil rfl] at hx
    refine wpList_append_own_none hgd s x 52 ho base 85 i0 4 Try.underlying52 hi v n xs hs hown hx ?_
    refine h v w ?_ (World.grownBy.refl _ _)
    simpa [cellsRw] using hown
  | some ad =>
    have had : 0 < l.length → ad = ⟨g, off, none⟩ := fun hp => Option.some.inj (hf.1 hp)
    refine wpList_append_own w hgd s x 52 ho base 85 i0 (.agg #[.int .i64 0, .string ByteArray.empty, .string ByteArray.empty, .string ByteArray.empty]) 4 56 Try.underlying52 hi hz0 hz1 hz2 rfl (by decide) v n xs hs hown ad l.length cap (cellsRw l) hx (cellsRw_len l) ?_ cellsRw_one (by unfold maxLen; omega) (by omega) hbase ?_
    · intro j u hu
      have hp : 0 < l.length := by
        have := (List.getElem?_eq_some_iff.1 hu).1
        rw [cellsRw_len] at this
        omega
      rw [had hp]
      exact hf.cellsAll j u hu
    · intro v' w' h1 h2 _
      exact h v' w' h1 h2
/-- Marked ones: from k on, 4 numbers each. -/
def markRw1 (m : Nat) : RawL := ⟨((m : Nat) : Int), mk (m + 1), mk (m + 2), mk (m + 3)⟩
def marksRw (k n : Nat) : List RawL := (List.range n).map fun i => markRw1 (k + 4 * i)
theorem marksRw_len (k n : Nat) : (marksRw k n).length = n := by simp [marksRw]
theorem marksRw_at (k n j : Nat) (hj : j < (marksRw k n).length) : (marksRw k n)[j] = markRw1 (k + 4 * j) := by simp [marksRw]
set_option maxHeartbeats 2000000 in
set_option maxRecDepth 100000 in
theorem markRwS_is {B g cap : Nat} (l : List RawL) (hlen : l.length ≤ 1048576) (k : Nat) (h0 : 0 < k) (hk : k ≤ 100000000) (w : World) (hA : w.ownsRow B 85 4 (.slice (some ⟨g, 0, none⟩) l.length cap) l.length (cellsRw l)) :
    Calls Try.prog 34 #[.slice (some ⟨g, 0, none⟩) l.length cap, .int .i64 (k : Int)] w fun e w' => e = .returned (.int .i64 ((k + 4 * l.length : Nat) : Int)) ∧ w'.ownsRow B 85 4 (.slice (some ⟨g, 0, none⟩) l.length cap) l.length (cellsRw (marksRw k l.length)) ∧ w.grownBy w' (some g) := by
  go_enter Try.func34, Try.ntmps34
  go_wp2
  go_loopw [1, 5] (fun x i wr => ∃ (j : Nat) (pre : List RawL), j ≤ l.length ∧ i = .int .i64 (j : Int) ∧ x = .int .i64 ((k + 4 * j : Nat) : Int) ∧ pre.length = l.length ∧ pre.take j = (marksRw k l.length).take j ∧
      wr.ownsRow B 85 4 (.slice (some ⟨g, 0, none⟩) l.length cap) l.length (cellsRw pre) ∧ w.grownBy wr (some g)) (fun _ i _ => l.length - (intOf i).toNat)
  case atStart => exact ⟨0, l, Nat.zero_le _, rfl, rfl, rfl, by simp, hA, World.grownBy.refl _ _⟩
  case round =>
    obtain ⟨j, pre, hj, rfl, rfl, hpl, hpt, hown, hgr⟩ := hrel
    have HL : Hid (pre.length = l.length) := hpl
    have HT : Hid (pre.take j = (marksRw k l.length).take j) := hpt
    clear hpl hpt hA
    by_cases hlt : j < l.length
    · have hk0 : (0 : Int) ≤ (j : Int) := by omega
      have hk1 : (j : Int) < (l.length : Int) := by omega
      obtain ⟨M, hM⟩ : ∃ M : Nat, M = k + 4 * j := ⟨_, rfl⟩
      have hMb : 0 < M ∧ M ≤ 900000000 := by omega
      have HM : Hid (M = k + 4 * j) := hM
      rw [← hM]
      clear hM
      have hw0 := hown
      have hgw0 := hgr
      have hf0 := hw0.frozenAt (j * 4)
      obtain ⟨u0, hu0⟩ := own_cell_ex (q := j * 4) hw0 (by omega) (by simp only [List.length_set, cellsRw_len, HL.out])
      have hs0 := (hw0.stored (j * 4) (.int .i64 ((M + 0 : Nat) : Int)))
      have hgs0 := (hgw0.trans (hw0.stored (j * 4) (.int .i64 ((M + 0 : Nat) : Int))).2)
      have HS0 : Hid _ := hs0.1
      have HG0 : Hid _ := hgs0
      clear hown hgr
      clear hs0 hgs0 hw0 hgw0
      go_wp2_with fail
      refine (markText_at M 1 _ (by omega) (by omega) (by omega) _).mono ?_
      rintro e w1 ⟨rfl, hb1⟩
      have hw1 := own_kept HS0.out hb1
      have hgw1 := HG0.out.trans (own_below' hb1)
      clear hb1
      have hf1 := hw1.frozenAt (j * 4 + 1)
      obtain ⟨u1, hu1⟩ := own_cell_ex (q := j * 4 + 1) hw1 (by omega) (by simp only [List.length_set, cellsRw_len, HL.out])
      have hs1 := (hw1.stored (j * 4 + 1) (.string (mk (M + 1))))
      have hgs1 := (hgw1.trans (hw1.stored (j * 4 + 1) (.string (mk (M + 1)))).2)
      have HS1 : Hid _ := hs1.1
      have HG1 : Hid _ := hgs1
      clear hs1 hgs1 hw1 hgw1
      go_wp2_with fail
      refine (markText_at M 2 _ (by omega) (by omega) (by omega) _).mono ?_
      rintro e w2 ⟨rfl, hb2⟩
      have hw2 := own_kept HS1.out hb2
      have hgw2 := HG1.out.trans (own_below' hb2)
      clear hb2
      have hf2 := hw2.frozenAt (j * 4 + 2)
      obtain ⟨u2, hu2⟩ := own_cell_ex (q := j * 4 + 2) hw2 (by omega) (by simp only [List.length_set, cellsRw_len, HL.out])
      have hs2 := (hw2.stored (j * 4 + 2) (.string (mk (M + 2))))
      have hgs2 := (hgw2.trans (hw2.stored (j * 4 + 2) (.string (mk (M + 2)))).2)
      have HS2 : Hid _ := hs2.1
      have HG2 : Hid _ := hgs2
      clear hs2 hgs2 hw2 hgw2
      go_wp2_with fail
      refine (markText_at M 3 _ (by omega) (by omega) (by omega) _).mono ?_
      rintro e w3 ⟨rfl, hb3⟩
      have hw3 := own_kept HS2.out hb3
      have hgw3 := HG2.out.trans (own_below' hb3)
      clear hb3
      have hf3 := hw3.frozenAt (j * 4 + 3)
      obtain ⟨u3, hu3⟩ := own_cell_ex (q := j * 4 + 3) hw3 (by omega) (by simp only [List.length_set, cellsRw_len, HL.out])
      have hs3 := (hw3.stored (j * 4 + 3) (.string (mk (M + 3))))
      have hgs3 := (hgw3.trans (hw3.stored (j * 4 + 3) (.string (mk (M + 3)))).2)
      have HS3 : Hid _ := hs3.1
      have HG3 : Hid _ := hgs3
      clear hs3 hgs3 hw3 hgw3
      go_wp2
      go_roundw
      case rel =>
        have e := cellsRw_set pre j (markRw1 M)
        refine ⟨j + 1, pre.set j (markRw1 M), by omega, by go_num, ?_, by rw [List.length_set]; exact HL.out, ?_, ?_, HG3.out⟩
        · refine congrArg (Value.int .i64) ?_
          have := HM.out
          omega
        · refine take_set_step (by rw [marksRw_len]; exact hlt) (by rw [marksRw_len]; exact HL.out) HT.out ?_
          rw [marksRw_at, ← HM.out]
        · rw [e]; exact HS3.out
      case measure => simp [intOf]; omega
    · have hk1 : ¬ (j : Int) < (l.length : Int) := by omega
      have HE : Hid (pre = marksRw k l.length ∧ j = l.length) := by
        have h := HT.out
        rw [List.take_of_length_le (by rw [HL.out]; omega), List.take_of_length_le (by rw [marksRw_len]; omega)] at h
        exact ⟨h, by omega⟩
      go_wp2
      go_ret
      refine ⟨by rw [← HE.out.2]; rfl, by rw [← HE.out.1]; exact hown, hgr⟩
set_option maxHeartbeats 2000000 in
set_option maxRecDepth 100000 in
theorem markRwS_nil (k : Nat) (w : World) : Calls Try.prog 34 #[.slice none 0 0, .int .i64 (k : Int)] w fun e w' => e = .returned (.int .i64 (k : Int)) ∧ w = w' := by
  go_enter Try.func34, Try.ntmps34
  go_wp2
  refine wp_loop_rounds 1 ?_
  rw [rounds_succ]
  go_wp2
  go_ret
  exact ⟨rfl, rfl⟩
theorem markRwS_own {B : Nat} {v : Value} (l : List RawL) (hlen : l.length ≤ 1048576) (k : Nat) (h0 : 0 < k) (hk : k ≤ 100000000) (w : World) (hA : w.ownsRow B 85 4 v l.length (cellsRw l)) :
    Calls Try.prog 34 #[v, .int .i64 (k : Int)] w fun e w' => e = .returned (.int .i64 ((k + 4 * l.length : Nat) : Int)) ∧ w'.ownsRow B 85 4 v l.length (cellsRw (marksRw k l.length)) ∧ w.grownBy w' v.ownBlock := by
  rcases hA.2 with ⟨h1, h2⟩ | ⟨g, cap, cur, h1, _⟩
  · subst h1
    have hl : l = [] := List.length_eq_zero_iff.1 h2
    subst hl
    refine (markRwS_nil k w).mono ?_
    rintro e w' ⟨rfl, rfl⟩
    exact ⟨rfl, World.ownsRow_nil _ _ _ _, World.grownBy.refl _ _⟩
  · subst h1
    exact markRwS_is l hlen k h0 hk w hA
set_option maxHeartbeats 4000000 in
set_option maxRecDepth 100000 in
theorem heldRwS_is {a : Option Addr} {g off cap : Nat} (n : Nat) (hlen : n ≤ 1048576) (k : Nat) (h0 : 0 < k) (hk : k ≤ 100000000) (w : World) (hf : RwAt w a g off (marksRw k n)) :
    Calls Try.prog 35 #[.slice a n cap, .int .i64 (k : Int)] w fun e w' => e = .returned (.int .i64 ((k + 4 * n : Nat) : Int)) ∧ Below w.heap.size w w' := by
  have HF : Hid (RwAt w a g off (marksRw k n)) := hf
  clear hf
  go_enter Try.func35, Try.ntmps35
  go_wp2
  go_loopw [1, 5] (fun x i wr => ∃ j : Nat, j ≤ n ∧ i = .int .i64 (j : Int) ∧ x = .int .i64 ((k + 4 * j : Nat) : Int) ∧ Below w.heap.size w wr) (fun _ i _ => n - (intOf i).toNat)
  case atStart => exact ⟨0, Nat.zero_le _, rfl, rfl, Below.refl _ _⟩
  case round =>
    obtain ⟨j, hj, rfl, rfl, hbel⟩ := hrel
    by_cases hlt : j < n
    · have hjl : j < (marksRw k n).length := by rw [marksRw_len]; exact hlt
      obtain ⟨c0, c1, c2, c3⟩ := (HF.out.kept hbel).2 j hjl
      have hgz := (HF.out.kept hbel).lt (by omega)
      rw [marksRw_at] at c0 c1 c2 c3
      have ea := HF.out.1 (by omega)
      subst ea
      have hk0 : (0 : Int) ≤ (j : Int) := by omega
      have hk1 : (j : Int) < (n : Int) := by omega
      obtain ⟨M, hM⟩ : ∃ M : Nat, M = k + 4 * j := ⟨_, rfl⟩
      have hMb : 0 < M ∧ M ≤ 900000000 := by omega
      have HM : Hid (M = k + 4 * j) := hM
      rw [← hM] at c0 c1 c2 c3 ⊢
      clear hM hjl
      simp only [markRw1] at c0 c1 c2 c3
      go_wp2
      go_region_held3 (fun w' => w'.cell? ⟨g, off + j * 4 + 1, none⟩ = some (.string (mk (M + 1)))) (first | go_keep | exact (hb1.cell (p := ⟨g, off + j * 4 + 1, none⟩) hgz).trans c1) (first | (go_at_call 70; refine (markText_at M 1 _ (by omega) (by omega) (by omega) _).mono ?_; rintro e w1 ⟨rfl, hb1⟩))
      all_goals
        have d2 := (hb1.cell (p := ⟨g, off + j * 4 + 2, none⟩) hgz).trans c2
        have d3 := (hb1.cell (p := ⟨g, off + j * 4 + 3, none⟩) hgz).trans c3
        have hB1 : Below w.heap.size w w1 := (hbel.drew).trans (hb1.mono hbel.size)
        have hgz1 : g < w1.heap.size := Nat.lt_of_lt_of_le hgz hb1.size
        clear hb1 c0 c1 c2 c3
        go_wp2
        go_region_held3 (fun w' => w'.cell? ⟨g, off + j * 4 + 2, none⟩ = some (.string (mk (M + 2)))) (first | go_keep | exact (hb2.cell (p := ⟨g, off + j * 4 + 2, none⟩) hgz1).trans d2) (first | (go_at_call 70; refine (markText_at M 2 _ (by omega) (by omega) (by omega) _).mono ?_; rintro e w2 ⟨rfl, hb2⟩))
        all_goals
          have e3 := (hb2.cell (p := ⟨g, off + j * 4 + 3, none⟩) hgz1).trans d3
          have hB2 : Below w.heap.size w w2 := (hB1.drew).trans (hb2.mono hB1.size)
          have hgz2 : g < w2.heap.size := Nat.lt_of_lt_of_le hgz1 hb2.size
          clear hb2 d2 d3
          go_wp2
          go_region_held3 (fun w' => w'.cell? ⟨g, off + j * 4 + 3, none⟩ = some (.string (mk (M + 3)))) (first | go_keep | exact (hb3.cell (p := ⟨g, off + j * 4 + 3, none⟩) hgz2).trans e3) (first | (go_at_call 70; refine (markText_at M 3 _ (by omega) (by omega) (by omega) _).mono ?_; rintro e w3 ⟨rfl, hb3⟩))
          all_goals
            go_wp2
            go_roundw
            case rel =>
              refine ⟨j + 1, by omega, by go_num, ?_, (hB2.drew).trans (hb3.mono hB2.size)⟩
              refine congrArg (Value.int .i64) ?_
              have := HM.out
              omega
            case measure => simp [intOf]; omega
    · have hk1 : ¬ (j : Int) < (n : Int) := by omega
      have HE : Hid (j = n) := by show _ = _; omega
      go_wp2
      go_ret
      exact ⟨by rw [← HE.out]; rfl, hbel⟩
theorem heldRwS_own {B n : Nat} {v : Value} (hlen : n ≤ 1048576) (k : Nat) (h0 : 0 < k) (hk : k ≤ 100000000) (w : World) (h : w.ownsRow B 85 4 v n (cellsRw (marksRw k n))) :
    Calls Try.prog 35 #[v, .int .i64 (k : Int)] w fun e w' => e = .returned (.int .i64 ((k + 4 * n : Nat) : Int)) ∧ Below w.heap.size w w' := by
  have h2 : w.ownsRow B 85 4 v (marksRw k n).length (cellsRw (marksRw k n)) := by rw [marksRw_len]; exact h
  obtain ⟨a, g, cap, h3, h4⟩ := cellsRw_slice h2
  rw [marksRw_len] at h3
  subst h3
  exact heldRwS_is n hlen k h0 hk w h4
end Go.Proofs.Ytdpbmaedpdbppaa
