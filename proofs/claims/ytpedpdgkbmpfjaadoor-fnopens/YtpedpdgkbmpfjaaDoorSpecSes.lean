/- Lists of sessions of the specification in memory, 4 cells each; measured, copied, held against each other, marked. Made by program. A session's key and value in the specification, walked: l15Key, l15Text, l15Next. -/
import Derived.Test.YtpedpdgkbmpfjaaDoorMathCmd
import Derived.Test.YtpedpdgkbmpfjaaDoorImplSes
import Derived.Laws.AppendOwnNone
import Derived.Deep.RegionHeld3
import Derived.Deep.DeepCutAuto
import Derived.Test.YtpedpdgkbmpfjaaDoorCutPut
namespace Go.Proofs.YtpedpdgkbmpfjaaDoor
open Go.RowKit
set_option linter.unusedVariables false
set_option linter.unusedSimpArgs false

/-- A slice at a whose elements are these. -/
def SpeAt (w : World) (a : Option Addr) (g off : Nat) (l : List Ses) : Prop :=
  (0 < l.length → a = some ⟨g, off, none⟩) ∧ ∀ j (hj : j < l.length), w.cell? ⟨g, off + j * 4, none⟩ = some (.int .i64 l[j].id) ∧ w.cell? ⟨g, off + j * 4 + 1, none⟩ = some (.int .i64 l[j].seq) ∧ w.cell? ⟨g, off + j * 4 + 2, none⟩ = some (.int .i64 l[j].at_) ∧ w.cell? ⟨g, off + j * 4 + 3, none⟩ = some (.string l[j].rep)
theorem SpeAt.lt {w : World} {a : Option Addr} {g off : Nat} {l : List Ses} (h : SpeAt w a g off l) (hl : 0 < l.length) : g < w.heap.size := World.block_lt_of_cell? w _ (h.2 0 hl).1
theorem SpeAt.kept {w w' : World} {a : Option Addr} {g off : Nat} {l : List Ses} (h : SpeAt w a g off l) (hb : Below w.heap.size w w') : SpeAt w' a g off l := by
  refine ⟨h.1, fun j hj => ?_⟩
  have hg := h.lt (by omega)
  rw [hb.cell (p := ⟨g, off + j * 4, none⟩) hg, hb.cell (p := ⟨g, off + j * 4 + 1, none⟩) hg, hb.cell (p := ⟨g, off + j * 4 + 2, none⟩) hg, hb.cell (p := ⟨g, off + j * 4 + 3, none⟩) hg]
  exact h.2 j hj
def cellsSpe (l : List Ses) : List Value := l.flatMap fun r => [.int .i64 r.id, .int .i64 r.seq, .int .i64 r.at_, .string r.rep]
theorem cellsSpe_len : ∀ l : List Ses, (cellsSpe l).length = l.length * 4
  | [] => rfl
  | r :: l => by have := cellsSpe_len l; simp only [cellsSpe, List.flatMap_cons, List.length_append, List.length_cons, List.length_nil] at *; omega
theorem cellsSpe_app (l m : List Ses) : cellsSpe (l ++ m) = cellsSpe l ++ cellsSpe m := by simp [cellsSpe]
theorem cellsSpe_at : ∀ (l : List Ses) (j : Nat) (hj : j < l.length), (cellsSpe l)[j * 4]? = some (.int .i64 l[j].id) ∧ (cellsSpe l)[j * 4 + 1]? = some (.int .i64 l[j].seq) ∧ (cellsSpe l)[j * 4 + 2]? = some (.int .i64 l[j].at_) ∧ (cellsSpe l)[j * 4 + 3]? = some (.string l[j].rep)
  | r :: l, 0, _ => ⟨rfl, rfl, rfl, rfl⟩
  | r :: l, j + 1, hj => by
    have := cellsSpe_at l j (by simpa using hj)
    simpa [cellsSpe, Nat.add_mul, Nat.add_assoc] using this
theorem cellsSpe_own {w : World} {base : Nat} {e : TypeId} {g n cap : Nat} {l : List Ses} (hn : l.length = n) (h : w.ownsRow base e 4 (.slice (some ⟨g, 0, none⟩) n cap) n (cellsSpe l)) : SpeAt w (some ⟨g, 0, none⟩) g 0 l := by
  refine ⟨fun _ => rfl, fun j hj => ?_⟩
  rw [Nat.zero_add, h.cellAt (j * 4) (by omega), h.cellAt (j * 4 + 1) (by omega), h.cellAt (j * 4 + 2) (by omega), h.cellAt (j * 4 + 3) (by omega)]
  exact cellsSpe_at l j hj
theorem cellsSpe_slice {w : World} {base : Nat} {v : Value} {l : List Ses} (h : w.ownsRow base 58 4 v l.length (cellsSpe l)) : ∃ a g cap, v = .slice a l.length cap ∧ SpeAt w a g 0 l := by
  rcases h.2 with ⟨h1, h2⟩ | ⟨g, cap, cur, h1, _⟩
  · exact ⟨none, 0, 0, by rw [h1, h2], fun q => by omega, fun j hj => by omega⟩
  · subst h1; exact ⟨_, g, cap, rfl, cellsSpe_own rfl h⟩
theorem Tryd.info58 : (Tryd.prog.info? 58).map (fun i => (i.zero, i.size, i.bytes)) = some (some (.agg #[.int .i64 0, .int .i64 0, .int .i64 0, .string ByteArray.empty]), 4, 40) := by kernel_rfl
theorem SpeAt.cellsAll {w : World} {a : Option Addr} {g off : Nat} {l : List Ses} (h : SpeAt w a g off l) : ∀ j u, (cellsSpe l)[j]? = some u → w.cell? ((⟨g, off, none⟩ : Addr).add j) = some u := by
  intro j u hu
  rw [Addr.add_lit]
  have hj : j < l.length * 4 := by rw [← cellsSpe_len]; exact (List.getElem?_eq_some_iff.1 hu).1
  obtain ⟨k, i, hi, rfl⟩ : ∃ k i, i < 4 ∧ j = k * 4 + i := ⟨j / 4, j % 4, by omega, by omega⟩
  have h1 := cellsSpe_at l k (by omega)
  have h2 := h.2 k (by omega)
  have h3 : i = 0 ∨ i = 1 ∨ i = 2 ∨ i = 3 := by omega
  rcases h3 with rfl | rfl | rfl | rfl
  · rw [show k * 4 + 0 = k * 4 from by omega, h1.1] at hu
    rw [← Option.some.inj hu]
    simpa [Nat.add_assoc] using h2.1
  · rw [h1.2.1] at hu
    rw [← Option.some.inj hu]
    simpa [Nat.add_assoc] using h2.2.1
  · rw [h1.2.2.1] at hu
    rw [← Option.some.inj hu]
    simpa [Nat.add_assoc] using h2.2.2.1
  · rw [h1.2.2.2] at hu
    rw [← Option.some.inj hu]
    simpa [Nat.add_assoc] using h2.2.2.2
theorem cellsSpe_one {l : List Ses} : ∀ u ∈ cellsSpe l, u.oneCell' = true := by
  intro u hu
  unfold cellsSpe at hu
  obtain ⟨r, _, hr⟩ := List.mem_flatMap.1 hu
  simp only [List.mem_cons, List.not_mem_nil, or_false] at hr
  rcases hr with rfl | rfl | rfl | rfl <;> rfl
/-- 'append(x, y...)' onto a row of the call's own. -/
theorem wpList_appendSpe {w : World} {ops : Array Oper} {rest : List Oper} {o : Oper} {act : Act} {Q : Exit → Act → World → Prop} (hgd : o.guard = none) (s x : Operand)
    (ho : o.op = .call { callee := .builtin .append, args := #[s, x], argTypes := #[53, 53] }) (base : Nat) (v : Value) (n : Nat) (xs : List Value) (hs : act.eval s = v) (hown : w.ownsRow base 58 4 v n xs)
    (a : Option Addr) (g off cap : Nat) (l : List Ses) (hx : act.eval x = .slice a l.length cap) (hf : SpeAt w a g off l) (hnil : a = none → cap = 0) (h63 : n + l.length ≤ 2097152) (hbase : base ≤ w.heap.size)
    (h : ∀ v' w', w'.ownsRow base 58 4 v' (n + l.length) (xs ++ cellsSpe l) → w.grownBy w' v.ownBlock → wpList Tryd.prog ops Q rest (act.put o.dst v') w') : wpList Tryd.prog ops Q (o :: rest) act w := by
  obtain ⟨i0, hi, hz0, hz1, hz2⟩ := info_parts Tryd.info58
  cases a with
  | none =>
    have hl : l = [] := by
      cases l with
      | nil => rfl
      | cons f r => have := hf.1 (by simp); cases this
    subst hl
    rw [hnil rfl] at hx
    refine wpList_append_own_none hgd s x 53 ho base 58 i0 4 Tryd.underlying53 hi v n xs hs hown hx ?_
    refine h v w ?_ (World.grownBy.refl _ _)
    simpa [cellsSpe] using hown
  | some ad =>
    have had : 0 < l.length → ad = ⟨g, off, none⟩ := fun hp => Option.some.inj (hf.1 hp)
    refine wpList_append_own w hgd s x 53 ho base 58 i0 (.agg #[.int .i64 0, .int .i64 0, .int .i64 0, .string ByteArray.empty]) 4 40 Tryd.underlying53 hi hz0 hz1 hz2 rfl (by decide) v n xs hs hown ad l.length cap (cellsSpe l) hx (cellsSpe_len l) ?_ cellsSpe_one (by unfold maxLen; omega) (by omega) hbase ?_
    · intro j u hu
      have hp : 0 < l.length := by
        have := (List.getElem?_eq_some_iff.1 hu).1
        rw [cellsSpe_len] at this
        omega
      rw [had hp]
      exact hf.cellsAll j u hu
    · intro v' w' h1 h2 _
      exact h v' w' h1 h2
end Go.Proofs.YtpedpdgkbmpfjaaDoor
namespace Go.Proofs.YtpedpdgkbmpfjaaDoor
open Go.RowKit
open Acts (decS skey sval nkey kkey)
set_option linter.unusedVariables false
set_option linter.unusedSimpArgs false
theorem specDec_nat (n : Nat) (h : n ≤ 1000000000) (w : World) : Calls Tryd.prog 53 #[.int .i64 (n : Int)] w fun e w' => e = .returned (.string (decS n)) ∧ Below w.heap.size w w' := by
  refine (specDec_any (n : Int) (by omega) (by omega) w).mono ?_
  rintro e w1 ⟨rfl, hb⟩
  refine ⟨?_, hb⟩
  have e1 : Lib.itoa (n : Int) = Words.dec n := by
    rw [Lib.itoa, if_neg (by omega), Int.toNat_natCast, ← dec_lib n n (Nat.le_refl _)]
  rw [e1]
  rfl
theorem decS_small {n : Nat} (h : n ≤ 1000000000) : (decS n).size ≤ 20 := by
  have := Words.dec_len n h
  show (Words.dec n).toArray.size ≤ 20
  simp; omega
set_option maxHeartbeats 1000000 in
set_option maxRecDepth 100000 in
theorem specKey_is (n : Nat) (h : n ≤ 1000000000) (w : World) : Calls Tryd.prog 29 #[.int .i64 (n : Int)] w fun e w' => e = .returned (.string (skey n)) ∧ Below w.heap.size w w' := by
  have HI : Hid (∀ W, Calls Tryd.prog 53 #[.int .i64 (n : Int)] W fun e w' => e = .returned (.string (decS n)) ∧ Below W.heap.size W w') := fun W => specDec_nat n h W
  have hz := decS_small h
  have z1 : ¬ 9223372036854775807 < 1 + (decS n).size := by omega
  go_enter Tryd.func29, Tryd.ntmps29
  go_wp2_with (go_at_call 53; refine Calls.mono (HI.out _) ?_; rintro e w1 ⟨rfl, hb⟩)
  go_ret
  exact ⟨rfl, hb⟩
def speV (s : Ses) : Value := .agg #[.int .i64 (s.id : Int), .int .i64 (s.seq : Int), .int .i64 (s.at_ : Int), .string s.rep]
set_option maxHeartbeats 1000000 in
set_option maxRecDepth 100000 in
theorem specText_is (s : Ses) (h : Acts.Small s) (hr : s.rep.size ≤ 1000) (w : World) : Calls Tryd.prog 30 #[speV s] w fun e w' => e = .returned (.string (sval s)) ∧ Below w.heap.size w w' := by
  obtain ⟨h1, h2, h3⟩ := h
  obtain ⟨F, hF⟩ : ∃ F : Int → ByteArray, F = fun x => decS x.toNat := ⟨_, rfl⟩
  have HD : Hid (∀ x : Int, 0 ≤ x ∧ x ≤ 1000000000 → ∀ W, Calls Tryd.prog 53 #[.int .i64 x] W fun e w' => e = .returned (.string (F x)) ∧ Below W.heap.size W w') := fun x hx W => by
    obtain ⟨n, rfl⟩ : ∃ n : Nat, x = (n : Int) := ⟨x.toNat, by omega⟩
    rw [hF]
    exact specDec_nat n (by omega) W
  have d1 := decS_small h2
  have d2 := decS_small h3
  have HV : Hid (sval s = F (s.seq : Int) ++ ⟨#[32]⟩ ++ F (s.at_ : Int) ++ ⟨#[32]⟩ ++ s.rep) := by show _ = _; rw [hF]; rfl
  have e1 : decS s.seq = F (s.seq : Int) := by rw [hF]; rfl
  have e2 : decS s.at_ = F (s.at_ : Int) := by rw [hF]; rfl
  rw [e1] at d1
  rw [e2] at d2
  rw [HV.out]
  obtain ⟨I, hI⟩ : ∃ I : Int, I = (s.id : Int) := ⟨_, rfl⟩
  obtain ⟨A, hA⟩ : ∃ A : Int, A = (s.seq : Int) := ⟨_, rfl⟩
  obtain ⟨B, hB⟩ : ∃ B : Int, B = (s.at_ : Int) := ⟨_, rfl⟩
  obtain ⟨R, hR⟩ : ∃ R, R = s.rep := ⟨_, rfl⟩
  have a1 : 0 ≤ A ∧ A ≤ 1000000000 := by omega
  have a2 : 0 ≤ B ∧ B ≤ 1000000000 := by omega
  have HA1 : Hid (0 ≤ A ∧ A ≤ 1000000000) := a1
  have HA2 : Hid (0 ≤ B ∧ B ≤ 1000000000) := a2
  unfold speV
  rw [← hA] at d1
  rw [← hB] at d2
  rw [← hR] at hr
  rw [← hI, ← hA, ← hB, ← hR]
  clear hI hA hB hR h1 h2 h3 HV e1 e2 hF a1 a2
  obtain ⟨D1, hD1⟩ : ∃ D1, D1 = F A := ⟨_, rfl⟩
  obtain ⟨D2, hD2⟩ : ∃ D2, D2 = F B := ⟨_, rfl⟩
  have HD1 : Hid (∀ W, Calls Tryd.prog 53 #[.int .i64 A] W fun e w' => e = .returned (.string D1) ∧ Below W.heap.size W w') := fun W => by rw [hD1]; exact HD.out A HA1.out W
  have HD2 : Hid (∀ W, Calls Tryd.prog 53 #[.int .i64 B] W fun e w' => e = .returned (.string D2) ∧ Below W.heap.size W w') := fun W => by rw [hD2]; exact HD.out B HA2.out W
  rw [← hD1] at d1
  rw [← hD2] at d2
  rw [← hD1, ← hD2]
  clear hD1 hD2 HD HA1 HA2
  obtain ⟨W, hW⟩ : ∃ W, W = w.alloc (Obj.cells #[.int .i64 I, .int .i64 A, .int .i64 B, .string R] 58) := ⟨_, rfl⟩
  have hb : Below w.heap.size w W := by rw [hW]; exact (Below.refl _ _).alloc (Nat.le_refl _) _
  have hr5 : W.heap[w.heap.size]? = some (.cells #[.int .i64 I, .int .i64 A, .int .i64 B, .string R] 58 (0, 0)) := by rw [hW]; exact heap_alloc_new w _
  have c1 := cell_of_row _ _ 1 _ _ _ hr5
  have c2 := cell_of_row _ _ 2 _ _ _ hr5
  have c3 := cell_of_row _ _ 3 _ _ _ hr5
  simp at c1 c2 c3
  have HB : Hid _ := hb
  clear hr5 hb
  have n1 : ¬ 9223372036854775807 < D1.size + 1 := by omega
  have n2 : ¬ 9223372036854775807 < D1.size + 1 + D2.size := by omega
  have n3 : ¬ 9223372036854775807 < D1.size + 1 + D2.size + 1 := by omega
  have n4 : ¬ 9223372036854775807 < D1.size + 1 + D2.size + 1 + R.size := by omega
  go_enter Tryd.func30, Tryd.ntmps30
  go_wp2_with fail
  rw [← hW]
  clear hW d1 d2 hr
  have NE := Abv.ne W
  have C1 := fun x : Abv W => x.cell c1
  have C2 := fun x : Abv W => x.cell c2
  have C3 := fun x : Abv W => x.cell c3
  refine wp_region_above (by kernel_rfl) (by kernel_rfl) ?_
  iterate 2 (go_big_quiet_step (fail))
  go_big_quiet_step (first | (go_at_call 53; exact calls_above (HD1.out _)))
  iterate 3 (go_big_quiet_step (fail))
  go_big_quiet_step (first | (go_at_call 53; exact calls_above (HD2.out _)))
  repeat (go_big_quiet_step (fail))
  refine wpQuiet_nil ?_
  rintro w1 ⟨⟨_, hb1⟩, rfl⟩
  clear NE C1 C2 C3
  go_wp2
  go_ret
  exact ⟨rfl, HB.out.trans (hb1.mono HB.out.size)⟩
end Go.Proofs.YtpedpdgkbmpfjaaDoor
