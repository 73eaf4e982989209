/- Lists of peers in memory, 4 cells each; measured, copied, held against each other, marked. Made by program. -/
import Derived.Test.YtiifjhalkihlbaaKit
import Derived.Test.YtiifjhalkihlbaaMathBatch
import Derived.Test.YtiifjhalkihlbaaConfA
import Derived.Laws.AppendOwnNone
import Derived.Deep.RegionHeld3
import Derived.Deep.DeepCutAuto
namespace Go.Proofs.Ytiifjhalkihlbaa
open Go.RowKit
set_option linter.unusedVariables false
set_option linter.unusedSimpArgs false

def peV (r : PeerL) : Value := .agg #[.int .i64 r.id, .int .i64 r.next, .int .i64 r.mat, .int .i64 r.sent]
/-- A slice at a whose elements are these. -/
def PeAt (w : World) (a : Option Addr) (g off : Nat) (l : List PeerL) : Prop :=
  (0 < l.length → a = some ⟨g, off, none⟩) ∧ ∀ j (hj : j < l.length), w.cell? ⟨g, off + j * 4, none⟩ = some (.int .i64 l[j].id) ∧ w.cell? ⟨g, off + j * 4 + 1, none⟩ = some (.int .i64 l[j].next) ∧ w.cell? ⟨g, off + j * 4 + 2, none⟩ = some (.int .i64 l[j].mat) ∧ w.cell? ⟨g, off + j * 4 + 3, none⟩ = some (.int .i64 l[j].sent)
theorem PeAt.lt {w : World} {a : Option Addr} {g off : Nat} {l : List PeerL} (h : PeAt w a g off l) (hl : 0 < l.length) : g < w.heap.size := World.block_lt_of_cell? w _ (h.2 0 hl).1
theorem PeAt.kept {w w' : World} {a : Option Addr} {g off : Nat} {l : List PeerL} (h : PeAt w a g off l) (hb : Below w.heap.size w w') : PeAt w' a g off l := by
  refine ⟨h.1, fun j hj => ?_⟩
  have hg := h.lt (by omega)
  rw [hb.cell (p := ⟨g, off + j * 4, none⟩) hg, hb.cell (p := ⟨g, off + j * 4 + 1, none⟩) hg, hb.cell (p := ⟨g, off + j * 4 + 2, none⟩) hg, hb.cell (p := ⟨g, off + j * 4 + 3, none⟩) hg]
  exact h.2 j hj
def cellsPe (l : List PeerL) : List Value := l.flatMap fun r => [.int .i64 r.id, .int .i64 r.next, .int .i64 r.mat, .int .i64 r.sent]
theorem cellsPe_len : ∀ l : List PeerL, (cellsPe l).length = l.length * 4
  | [] => rfl
  | r :: l => by have := cellsPe_len l; simp only [cellsPe, List.flatMap_cons, List.length_append, List.length_cons, List.length_nil] at *; omega
theorem cellsPe_app (l m : List PeerL) : cellsPe (l ++ m) = cellsPe l ++ cellsPe m := by simp [cellsPe]
theorem cellsPe_at : ∀ (l : List PeerL) (j : Nat) (hj : j < l.length), (cellsPe l)[j * 4]? = some (.int .i64 l[j].id) ∧ (cellsPe l)[j * 4 + 1]? = some (.int .i64 l[j].next) ∧ (cellsPe l)[j * 4 + 2]? = some (.int .i64 l[j].mat) ∧ (cellsPe l)[j * 4 + 3]? = some (.int .i64 l[j].sent)
  | r :: l, 0, _ => ⟨rfl, rfl, rfl, rfl⟩
  | r :: l, j + 1, hj => by
    have := cellsPe_at l j (by simpa using hj)
    simpa [cellsPe, Nat.add_mul, Nat.add_assoc] using this
theorem cellsPe_set : ∀ (l : List PeerL) (j : Nat) (r : PeerL), cellsPe (l.set j r) = ((((cellsPe l).set (j * 4) (.int .i64 r.id)).set (j * 4 + 1) (.int .i64 r.next)).set (j * 4 + 2) (.int .i64 r.mat)).set (j * 4 + 3) (.int .i64 r.sent)
  | [], j, r => by simp [cellsPe]
  | x :: l, 0, r => by simp [cellsPe]
  | x :: l, j + 1, r => by
    have := cellsPe_set l j r
    simp only [cellsPe, List.set_cons_succ, List.flatMap_cons, List.cons_append, List.nil_append, Nat.add_mul] at *
    rw [this]
theorem cellsPe_own {w : World} {base : Nat} {e : TypeId} {g n cap : Nat} {l : List PeerL} (hn : l.length = n) (h : w.ownsRow base e 4 (.slice (some ⟨g, 0, none⟩) n cap) n (cellsPe l)) : PeAt w (some ⟨g, 0, none⟩) g 0 l := by
  refine ⟨fun _ => rfl, fun j hj => ?_⟩
  rw [Nat.zero_add, h.cellAt (j * 4) (by omega), h.cellAt (j * 4 + 1) (by omega), h.cellAt (j * 4 + 2) (by omega), h.cellAt (j * 4 + 3) (by omega)]
  exact cellsPe_at l j hj
theorem cellsPe_slice {w : World} {base : Nat} {v : Value} {l : List PeerL} (h : w.ownsRow base 60 4 v l.length (cellsPe l)) : ∃ a g cap, v = .slice a l.length cap ∧ PeAt w a g 0 l := by
  rcases h.2 with ⟨h1, h2⟩ | ⟨g, cap, cur, h1, _⟩
  · exact ⟨none, 0, 0, by rw [h1, h2], fun q => by omega, fun j hj => by omega⟩
  · subst h1; exact ⟨_, g, cap, rfl, cellsPe_own rfl h⟩
theorem madePe (n : Nat) : (madeCells #[Value.int .i64 0, Value.int .i64 0, Value.int .i64 0, Value.int .i64 0] (n * 4)).toList = cellsPe (List.replicate n ⟨0, 0, 0, 0⟩) := by
  induction n with
  | zero => simp [madeCells, cellsPe]
  | succ n ih =>
    rw [List.replicate_succ', cellsPe_app, ← ih, show (n + 1) * 4 = n * 4 + 4 by omega]
    simp only [madeCells, Array.toList_map, Array.toList_range, List.range_add, List.map_append, List.map_map, Function.comp_def]
    congr 1
    simp [List.range_succ, cellsPe]
set_option maxHeartbeats 2000000 in
set_option maxRecDepth 100000 in
theorem toPe1_is (r : PeerL) (w : World) : Calls Try.prog 55 #[peV r] w fun e w' => e = .returned (peV r) ∧ Below w.heap.size w w' := by
  obtain ⟨F0, F1, F2, F3⟩ := r
  unfold peV
  go_enter Try.func55, Try.ntmps55
  go_wp2
  refine bodyPost_ret (v := .agg #[.int .i64 F0, .int .i64 F1, .int .i64 F2, .int .i64 F3]) (by simp [results, Try.results55, go_sem]) rfl ⟨rfl, ?_⟩
  exact (((Below.refl _ _).alloc (Nat.le_refl _) _).alloc (by simp) _).alloc (by simp; omega) _
theorem Try.info60 : (Try.prog.info? 60).map (fun i => (i.zero, i.size, i.bytes)) = some (some (.agg #[.int .i64 0, .int .i64 0, .int .i64 0, .int .i64 0]), 4, 32) := by kernel_rfl
set_option maxHeartbeats 2000000 in
set_option maxRecDepth 100000 in
theorem toPeS_is {a : Option Addr} {g off cap : Nat} (l : List PeerL) (hlen : l.length ≤ 1048576) (w : World) (hf : PeAt w a g off l) :
    Calls Try.prog 31 #[.slice a l.length cap] w fun e w' => e = .returned (.slice (some ⟨w.heap.size, 0, none⟩) l.length l.length) ∧
      w'.ownsRow w.heap.size 60 4 (.slice (some ⟨w.heap.size, 0, none⟩) l.length l.length) l.length (cellsPe l) ∧ Below w.heap.size w w' := by
  obtain ⟨i0, hi, hz0, hz1, hz2⟩ := info_parts Try.info60
  have HF : Hid (PeAt w a g off l) := hf
  clear hf
  go_enter Try.func31, Try.ntmps31
  go_wp2_with (at_make; refine wpList_make_full _ rfl _ _ 34 rfl w.heap.size 60 i0 (.agg #[.int .i64 0, .int .i64 0, .int .i64 0, .int .i64 0]) 4 Try.underlying34 hi hz0 hz1 _ _ _ _ l.length rfl rfl (by omega) (by omega) ?b2 ?b3 (Nat.le_refl _) ?_)
  case b2 => rw [hz2]; omega
  case b3 => unfold maxLen; omega
  intro w0 hown0 hgrow0
  have hbel0 : Below w.heap.size w w0 := (Below.refl _ _).grown hgrow0 (Nat.le_refl _) (by simp)
  have hown0' : w0.ownsRow w.heap.size 60 4 (.slice (some ⟨w.heap.size, 0, none⟩) l.length l.length) l.length (cellsPe (List.replicate l.length ⟨0, 0, 0, 0⟩)) := by rw [← madePe]; exact hown0
  clear hgrow0 hown0
  go_wp2
  go_loopw [4] (fun i wr => ∃ (k : Nat) (pre : List PeerL), k ≤ l.length ∧ i = .int .i64 (k : Int) ∧ pre.length = l.length ∧ pre.take k = l.take k ∧
      wr.ownsRow w.heap.size 60 4 (.slice (some ⟨w.heap.size, 0, none⟩) l.length l.length) l.length (cellsPe pre) ∧ Below w.heap.size w wr)
    (fun i _ => l.length - (intOf i).toNat)
  case atStart => exact ⟨0, _, Nat.zero_le _, rfl, by simp, by simp, hown0', hbel0⟩
  case round =>
    obtain ⟨k, pre, hk, rfl, hpl, hpt, hown, hbel⟩ := hrel
    have HL : Hid (pre.length = l.length) := hpl
    have HT : Hid (pre.take k = l.take k) := hpt
    clear hpl hpt hown0' hbel0
    by_cases hlt : k < l.length
    · have hcc := (HF.out.kept hbel).2 k hlt
      have ea := HF.out.1 (by omega)
      subst ea
      have hgz := HF.out.lt (by omega)
      obtain ⟨F0, hF0⟩ : ∃ F0, F0 = l[k].id := ⟨_, rfl⟩
      obtain ⟨F1, hF1⟩ : ∃ F1, F1 = l[k].next := ⟨_, rfl⟩
      obtain ⟨F2, hF2⟩ : ∃ F2, F2 = l[k].mat := ⟨_, rfl⟩
      obtain ⟨F3, hF3⟩ : ∃ F3, F3 = l[k].sent := ⟨_, rfl⟩
      have HEL : Hid (l[k] = ⟨F0, F1, F2, F3⟩) := by show _ = _; rw [hF0, hF1, hF2, hF3]
      simp only [← hF0, ← hF1, ← hF2, ← hF3] at hcc
      obtain ⟨c0, c1, c2, c3⟩ := hcc
      clear hF0 hF1 hF2 hF3
      have hk0 : (0 : Int) ≤ (k : Int) := by omega
      have hk1 : (k : Int) < (l.length : Int) := by omega
      go_wp2_with fail
      refine (toPe1_is ⟨F0, F1, F2, F3⟩ wr).mono ?_
      rintro e w1 ⟨rfl, hb1⟩
      unfold peV
      have hown1 := own_kept hown hb1
      have hbel1 : Below w.heap.size w w1 := hbel.trans (hb1.mono hbel.size)
      have hf0 := hown1.frozenAt (k * 4)
      have hf1 := hown1.frozenAt (k * 4 + 1)
      have hf2 := hown1.frozenAt (k * 4 + 2)
      have hf3 := hown1.frozenAt (k * 4 + 3)
      obtain ⟨u0, hu0⟩ : ∃ u0, w1.cell? ⟨w.heap.size, k * 4, none⟩ = some u0 := by
        rw [hown1.cellAt (k * 4) (by omega)]
        exact ⟨_, (cellsPe_at pre k (by rw [HL.out]; exact hlt)).1⟩
      obtain ⟨u1, hu1⟩ : ∃ u1, w1.cell? ⟨w.heap.size, k * 4 + 1, none⟩ = some u1 := by
        rw [hown1.cellAt (k * 4 + 1) (by omega)]
        exact ⟨_, (cellsPe_at pre k (by rw [HL.out]; exact hlt)).2.1⟩
      obtain ⟨u2, hu2⟩ : ∃ u2, w1.cell? ⟨w.heap.size, k * 4 + 2, none⟩ = some u2 := by
        rw [hown1.cellAt (k * 4 + 2) (by omega)]
        exact ⟨_, (cellsPe_at pre k (by rw [HL.out]; exact hlt)).2.2.1⟩
      obtain ⟨u3, hu3⟩ : ∃ u3, w1.cell? ⟨w.heap.size, k * 4 + 3, none⟩ = some u3 := by
        rw [hown1.cellAt (k * 4 + 3) (by omega)]
        exact ⟨_, (cellsPe_at pre k (by rw [HL.out]; exact hlt)).2.2.2⟩
      have hst := ((((hown1.stored (k * 4) (.int .i64 F0)).1.stored (k * 4 + 1) (.int .i64 F1)).1.stored (k * 4 + 2) (.int .i64 F2)).1.stored (k * 4 + 3) (.int .i64 F3))
      rw [← cellsPe_set pre k ⟨F0, F1, F2, F3⟩] at hst
      have HST : Hid (_ ∧ _) := hst
      clear hst hb1 hown hbel
      go_wp2
      go_roundw
      case rel => exact ⟨k + 1, pre.set k ⟨F0, F1, F2, F3⟩, by omega, by go_num, by rw [List.length_set]; exact HL.out, take_set_step hlt HL.out HT.out HEL.out, HST.out.1, ((((hbel1.setCell (Nat.le_refl _) _).setCell (Nat.le_refl _) _).setCell (Nat.le_refl _) _).setCell (Nat.le_refl _) _)⟩
      case measure => simp [intOf]; omega
    · have hk1 : ¬ (k : Int) < (l.length : Int) := by omega
      have HE : Hid (pre = l) := by
        show _ = _
        have h := HT.out
        rwa [List.take_of_length_le (by rw [HL.out]; omega), List.take_of_length_le (by omega)] at h
      go_wp2
      go_ret
      exact ⟨rfl, by rw [HE.out] at hown; exact hown, hbel⟩
set_option maxHeartbeats 2000000 in
set_option maxRecDepth 100000 in
theorem eqPe1_same (r : PeerL) (w : World) : Calls Try.prog 65 #[peV r, peV r] w fun e w' => e = .returned (.bool true) ∧ Below w.heap.size w w' := by
  obtain ⟨F0, F1, F2, F3⟩ := r
  unfold peV
  go_enter Try.func65, Try.ntmps65
  go_wp2
  go_ret
  exact ⟨rfl, ((Below.refl _ _).alloc (Nat.le_refl _) _).alloc (by simp) _⟩
set_option maxHeartbeats 2000000 in
set_option maxRecDepth 100000 in
theorem eqPeS_same {a b : Option Addr} {g off cap h off' cap' : Nat} (l : List PeerL) (hlen : l.length ≤ 1048576) (w : World) (hf : PeAt w a g off l) (hf' : PeAt w b h off' l) :
    Calls Try.prog 38 #[.slice a l.length cap, .slice b l.length cap'] w fun e w' => e = .returned (.bool true) ∧ Below w.heap.size w w' := by
  have HF : Hid (PeAt w a g off l) := hf
  have HF' : Hid (PeAt w b h off' l) := hf'
  clear hf hf'
  go_enter Try.func38, Try.ntmps38
  go_wp2
  go_loopw [5] (fun i wr => ∃ k : Nat, k ≤ l.length ∧ i = .int .i64 (k : Int) ∧ Below w.heap.size w wr)
    (fun i _ => l.length - (intOf i).toNat)
  case atStart => exact ⟨0, Nat.zero_le _, rfl, Below.refl _ _⟩
  case round =>
    obtain ⟨k, hk, rfl, hbel⟩ := hrel
    by_cases hlt : k < l.length
    · have hcc := (HF.out.kept hbel).2 k hlt
      have hdd := (HF'.out.kept hbel).2 k hlt
      have ea := HF.out.1 (by omega)
      have eb := HF'.out.1 (by omega)
      subst ea eb
      obtain ⟨F0, hF0⟩ : ∃ F0, F0 = l[k].id := ⟨_, rfl⟩
      obtain ⟨F1, hF1⟩ : ∃ F1, F1 = l[k].next := ⟨_, rfl⟩
      obtain ⟨F2, hF2⟩ : ∃ F2, F2 = l[k].mat := ⟨_, rfl⟩
      obtain ⟨F3, hF3⟩ : ∃ F3, F3 = l[k].sent := ⟨_, rfl⟩
      have HEL : Hid (l[k] = ⟨F0, F1, F2, F3⟩) := by show _ = _; rw [hF0, hF1, hF2, hF3]
      simp only [← hF0, ← hF1, ← hF2, ← hF3] at hcc hdd
      obtain ⟨c0, c1, c2, c3⟩ := hcc
      obtain ⟨d0, d1, d2, d3⟩ := hdd
      clear hF0 hF1 hF2 hF3
      have hk0 : (0 : Int) ≤ (k : Int) := by omega
      have hk1 : (k : Int) < (l.length : Int) := by omega
      go_wp2
      have NE := Abv.ne wr
      have C0 := fun x : Abv wr => x.cell c0
      have D0 := fun x : Abv wr => x.cell d0
      have C1 := fun x : Abv wr => x.cell c1
      have D1 := fun x : Abv wr => x.cell d1
      have C2 := fun x : Abv wr => x.cell c2
      have D2 := fun x : Abv wr => x.cell d2
      have C3 := fun x : Abv wr => x.cell c3
      have D3 := fun x : Abv wr => x.cell d3
      refine wp_region_above (by kernel_rfl) (by kernel_rfl) ?_
      repeat (go_big_quiet_step (first | (go_at_call 65; exact calls_above (eqPe1_same ⟨F0, F1, F2, F3⟩ _))))
      refine wpQuiet_nil ?_
      rintro w1 ⟨⟨_, hb1⟩, rfl⟩
      clear NE C0 D0 C1 D1 C2 D2 C3 D3
      go_wp2
      go_roundw
      case rel => exact ⟨k + 1, by omega, by go_num, hbel.trans (hb1.mono hbel.size)⟩
      case measure => simp [intOf]; omega
    · have hk1 : ¬ (k : Int) < (l.length : Int) := by omega
      go_wp2
      go_ret
      exact ⟨rfl, hbel⟩
theorem PeAt.cellsAll {w : World} {a : Option Addr} {g off : Nat} {l : List PeerL} (h : PeAt w a g off l) : ∀ j u, (cellsPe l)[j]? = some u → w.cell? ((⟨g, off, none⟩ : Addr).add j) = some u := by
  intro j u hu
  rw [Addr.add_lit]
  have hj : j < l.length * 4 := by rw [← cellsPe_len]; exact (List.getElem?_eq_some_iff.1 hu).1
  obtain ⟨k, i, hi, rfl⟩ : ∃ k i, i < 4 ∧ j = k * 4 + i := ⟨j / 4, j % 4, by omega, by omega⟩
  have h1 := cellsPe_at l k (by omega)
  have h2 := h.2 k (by omega)
  have h3 : i = 0 ∨ i = 1 ∨ i = 2 ∨ i = 3 := by omega
  rcases h3 with rfl | rfl | rfl | rfl
  · rw [show k * 4 + 0 = k * 4 from by omega, h1.1] at hu
    rw [← Option.some.inj hu]
    simpa [Nat.add_assoc] using h2.1
  · rw [h1.2.1] at hu
    rw [← Option.some.inj hu]
    simpa [Nat.add_assoc] using h2.2.1
  · rw [h1.2.2.1] at hu
    rw [← Option.some.inj hu]
    simpa [Nat.add_assoc] using h2.2.2.1
  · rw [h1.2.2.2] at hu
    rw [← Option.some.inj hu]
    simpa [Nat.add_assoc] using h2.2.2.2
theorem cellsPe_one {l : List PeerL} : ∀ u ∈ cellsPe l, u.oneCell' = true := by
  intro u hu
  unfold cellsPe at hu
  obtain ⟨r, _, hr⟩ := List.mem_flatMap.1 hu
  simp only [List.mem_cons, List.not_mem_nil, or_false] at hr
  rcases hr with rfl | rfl | rfl | rfl <;> rfl
/-- 'append(x, y...)' onto a row of the call's own. -/
theorem wpList_appendPe {w : World} {ops : Array Oper} {rest : List Oper} {o : Oper} {act : Act} {Q : Exit → Act → World → Prop} (hgd : o.guard = none) (s x : Operand)
    (ho : o.op = .call { callee := .builtin .append, args := #[s, x], argTypes := #[34, 34] }) (base : Nat) (v : Value) (n : Nat) (xs : List Value) (hs : act.eval s = v) (hown : w.ownsRow base 60 4 v n xs)
    (a : Option Addr) (g off cap : Nat) (l : List PeerL) (hx : act.eval x = .slice a l.length cap) (hf : PeAt w a g off l) (hnil : a = none → cap = 0) (h63 : n + l.length ≤ 2097152) (hbase : base ≤ w.heap.size)
    (h : ∀ v' w', w'.ownsRow base 60 4 v' (n + l.length) (xs ++ cellsPe l) → w.grownBy w' v.ownBlock → wpList Try.prog ops Q rest (act.put o.dst v') w') : wpList Try.prog ops Q (o :: rest) act w := by
  obtain ⟨i0, hi, hz0, hz1, hz2⟩ := info_parts Try.info60
  cases a with
  | none =>
    have hl : l = [] := by
      cases l with
      | nil => rfl
      | cons f r => have := hf.1 (by simp); cases this
    subst hl
    rw [hnil rfl] at hx
    refine wpList_append_own_none hgd s x 34 ho base 60 i0 4 Try.underlying34 hi v n xs hs hown hx ?_
    refine h v w ?_ (World.grownBy.refl _ _)
    simpa [cellsPe] using hown
  | some ad =>
    have had : 0 < l.length → ad = ⟨g, off, none⟩ := fun hp => Option.some.inj (hf.1 hp)
    refine wpList_append_own w hgd s x 34 ho base 60 i0 (.agg #[.int .i64 0, .int .i64 0, .int .i64 0, .int .i64 0]) 4 32 Try.underlying34 hi hz0 hz1 hz2 rfl (by decide) v n xs hs hown ad l.length cap (cellsPe l) hx (cellsPe_len l) ?_ cellsPe_one (by unfold maxLen; omega) (by omega) hbase ?_
    · intro j u hu
      have hp : 0 < l.length := by
        have := (List.getElem?_eq_some_iff.1 hu).1
        rw [cellsPe_len] at this
        omega
      rw [had hp]
      exact hf.cellsAll j u hu
    · intro v' w' h1 h2 _
      exact h v' w' h1 h2
/-- Marked ones: from k on, 4 numbers each. -/
def markPe1 (m : Nat) : PeerL := ⟨((m : Nat) : Int), ((m + 1 : Nat) : Int), ((m + 2 : Nat) : Int), ((m + 3 : Nat) : Int)⟩
def marksPe (k n : Nat) : List PeerL := (List.range n).map fun i => markPe1 (k + 4 * i)
theorem marksPe_len (k n : Nat) : (marksPe k n).length = n := by simp [marksPe]
theorem marksPe_at (k n j : Nat) (hj : j < (marksPe k n).length) : (marksPe k n)[j] = markPe1 (k + 4 * j) := by simp [marksPe]
set_option maxHeartbeats 2000000 in
set_option maxRecDepth 100000 in
theorem markPeS_is {B g cap : Nat} (l : List PeerL) (hlen : l.length ≤ 1048576) (k : Nat) (h0 : 0 < k) (hk : k ≤ 100000000) (w : World) (hA : w.ownsRow B 60 4 (.slice (some ⟨g, 0, none⟩) l.length cap) l.length (cellsPe l)) :
    Calls Try.prog 41 #[.slice (some ⟨g, 0, none⟩) l.length cap, .int .i64 (k : Int)] w fun e w' => e = .returned (.int .i64 ((k + 4 * l.length : Nat) : Int)) ∧ w'.ownsRow B 60 4 (.slice (some ⟨g, 0, none⟩) l.length cap) l.length (cellsPe (marksPe k l.length)) ∧ w.grownBy w' (some g) := by
  go_enter Try.func41, Try.ntmps41
  go_wp2
  go_loopw [1, 5] (fun x i wr => ∃ (j : Nat) (pre : List PeerL), j ≤ l.length ∧ i = .int .i64 (j : Int) ∧ x = .int .i64 ((k + 4 * j : Nat) : Int) ∧ pre.length = l.length ∧ pre.take j = (marksPe k l.length).take j ∧
      wr.ownsRow B 60 4 (.slice (some ⟨g, 0, none⟩) l.length cap) l.length (cellsPe pre) ∧ w.grownBy wr (some g)) (fun _ i _ => l.length - (intOf i).toNat)
  case atStart => exact ⟨0, l, Nat.zero_le _, rfl, rfl, rfl, by simp, hA, World.grownBy.refl _ _⟩
  case round =>
    obtain ⟨j, pre, hj, rfl, rfl, hpl, hpt, hown, hgr⟩ := hrel
    have HL : Hid (pre.length = l.length) := hpl
    have HT : Hid (pre.take j = (marksPe k l.length).take j) := hpt
    clear hpl hpt hA
    by_cases hlt : j < l.length
    · have hk0 : (0 : Int) ≤ (j : Int) := by omega
      have hk1 : (j : Int) < (l.length : Int) := by omega
      obtain ⟨M, hM⟩ : ∃ M : Nat, M = k + 4 * j := ⟨_, rfl⟩
      have hMb : 0 < M ∧ M ≤ 900000000 := by omega
      have HM : Hid (M = k + 4 * j) := hM
      rw [← hM]
      clear hM
      have hw0 := hown
      have hgw0 := hgr
      have hf0 := hw0.frozenAt (j * 4)
      obtain ⟨u0, hu0⟩ := own_cell_ex (q := j * 4) hw0 (by omega) (by simp only [List.length_set, cellsPe_len, HL.out])
      have hf1 := hw0.frozenAt (j * 4 + 1)
      obtain ⟨u1, hu1⟩ := own_cell_ex (q := j * 4 + 1) hw0 (by omega) (by simp only [List.length_set, cellsPe_len, HL.out])
      have hf2 := hw0.frozenAt (j * 4 + 2)
      obtain ⟨u2, hu2⟩ := own_cell_ex (q := j * 4 + 2) hw0 (by omega) (by simp only [List.length_set, cellsPe_len, HL.out])
      have hf3 := hw0.frozenAt (j * 4 + 3)
      obtain ⟨u3, hu3⟩ := own_cell_ex (q := j * 4 + 3) hw0 (by omega) (by simp only [List.length_set, cellsPe_len, HL.out])
      have hs0 := ((((hw0.stored (j * 4) (.int .i64 ((M + 0 : Nat) : Int))).1.stored (j * 4 + 1) (.int .i64 ((M + 1 : Nat) : Int))).1.stored (j * 4 + 2) (.int .i64 ((M + 2 : Nat) : Int))).1.stored (j * 4 + 3) (.int .i64 ((M + 3 : Nat) : Int)))
      have hgs0 := ((((hgw0.trans (hw0.stored (j * 4) (.int .i64 ((M + 0 : Nat) : Int))).2).trans ((hw0.stored (j * 4) (.int .i64 ((M + 0 : Nat) : Int))).1.stored (j * 4 + 1) (.int .i64 ((M + 1 : Nat) : Int))).2).trans (((hw0.stored (j * 4) (.int .i64 ((M + 0 : Nat) : Int))).1.stored (j * 4 + 1) (.int .i64 ((M + 1 : Nat) : Int))).1.stored (j * 4 + 2) (.int .i64 ((M + 2 : Nat) : Int))).2).trans ((((hw0.stored (j * 4) (.int .i64 ((M + 0 : Nat) : Int))).1.stored (j * 4 + 1) (.int .i64 ((M + 1 : Nat) : Int))).1.stored (j * 4 + 2) (.int .i64 ((M + 2 : Nat) : Int))).1.stored (j * 4 + 3) (.int .i64 ((M + 3 : Nat) : Int))).2)
      have HS0 : Hid _ := hs0.1
      have HG0 : Hid _ := hgs0
      clear hown hgr
      clear hs0 hgs0 hw0 hgw0
      go_wp2
      go_roundw
      case rel =>
        have e := cellsPe_set pre j (markPe1 M)
        refine ⟨j + 1, pre.set j (markPe1 M), by omega, by go_num, ?_, by rw [List.length_set]; exact HL.out, ?_, ?_, HG0.out⟩
        · refine congrArg (Value.int .i64) ?_
          have := HM.out
          omega
        · refine take_set_step (by rw [marksPe_len]; exact hlt) (by rw [marksPe_len]; exact HL.out) HT.out ?_
          rw [marksPe_at, ← HM.out]
        · rw [e]; exact HS0.out
      case measure => simp [intOf]; omega
    · have hk1 : ¬ (j : Int) < (l.length : Int) := by omega
      have HE : Hid (pre = marksPe k l.length ∧ j = l.length) := by
        have h := HT.out
        rw [List.take_of_length_le (by rw [HL.out]; omega), List.take_of_length_le (by rw [marksPe_len]; omega)] at h
        exact ⟨h, by omega⟩
      go_wp2
      go_ret
      refine ⟨by rw [← HE.out.2]; rfl, by rw [← HE.out.1]; exact hown, hgr⟩
set_option maxHeartbeats 2000000 in
set_option maxRecDepth 100000 in
theorem markPeS_nil (k : Nat) (w : World) : Calls Try.prog 41 #[.slice none 0 0, .int .i64 (k : Int)] w fun e w' => e = .returned (.int .i64 (k : Int)) ∧ w = w' := by
  go_enter Try.func41, Try.ntmps41
  go_wp2
  refine wp_loop_rounds 1 ?_
  rw [rounds_succ]
  go_wp2
  go_ret
  exact ⟨rfl, rfl⟩
theorem markPeS_own {B : Nat} {v : Value} (l : List PeerL) (hlen : l.length ≤ 1048576) (k : Nat) (h0 : 0 < k) (hk : k ≤ 100000000) (w : World) (hA : w.ownsRow B 60 4 v l.length (cellsPe l)) :
    Calls Try.prog 41 #[v, .int .i64 (k : Int)] w fun e w' => e = .returned (.int .i64 ((k + 4 * l.length : Nat) : Int)) ∧ w'.ownsRow B 60 4 v l.length (cellsPe (marksPe k l.length)) ∧ w.grownBy w' v.ownBlock := by
  rcases hA.2 with ⟨h1, h2⟩ | ⟨g, cap, cur, h1, _⟩
  · subst h1
    have hl : l = [] := List.length_eq_zero_iff.1 h2
    subst hl
    refine (markPeS_nil k w).mono ?_
    rintro e w' ⟨rfl, rfl⟩
    exact ⟨rfl, World.ownsRow_nil _ _ _ _, World.grownBy.refl _ _⟩
  · subst h1
    exact markPeS_is l hlen k h0 hk w hA
end Go.Proofs.Ytiifjhalkihlbaa
