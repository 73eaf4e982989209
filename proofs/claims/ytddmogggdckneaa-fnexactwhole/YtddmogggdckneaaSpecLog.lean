/- The specification's LogOk, LogLast and LogTerm, walked. -/
import Derived.Test.YtddmogggdckneaaMathB
import Derived.Test.YtddmogggdckneaaLEn
import Derived.Test.YtddmogggdckneaaSpecEntT
namespace Go.Proofs.Ytddmogggdckneaa
open Go.RowKit
open Ents (okB)
open Logs (okL rises Fits inB)
set_option linter.unusedVariables false
set_option linter.unusedSimpArgs false

/-- A log by its value. -/
def logV (l : LogL) (a : Option Addr) (cap : Nat) : Value := .agg #[.int .i64 l.start, .int .i64 l.sterm, .slice a l.ents.length cap]
/-- The cells of a log that lies at g. -/
def LogAt (W : World) (g : Nat) (l : LogL) (a : Option Addr) (cap : Nat) : Prop := W.cell? ⟨g, 0, none⟩ = some (.int .i64 l.start) ∧ W.cell? ⟨g, 1, none⟩ = some (.int .i64 l.sterm) ∧ W.cell? ⟨g, 2, none⟩ = some (.slice a l.ents.length cap)
theorem LogAt.new (w : World) (l : LogL) (a : Option Addr) (cap : Nat) (t : TypeId) : LogAt (w.alloc (Obj.cells #[.int .i64 l.start, .int .i64 l.sterm, .slice a l.ents.length cap] t)) w.heap.size l a cap := by
  have p0 := heap_alloc_new w (Obj.cells #[.int .i64 l.start, .int .i64 l.sterm, .slice a l.ents.length cap] t)
  exact ⟨cell_of_row _ _ 0 _ _ _ p0, cell_of_row _ _ 1 _ _ _ p0, cell_of_row _ _ 2 _ _ _ p0⟩
theorem LogAt.kept {W W' : World} {g : Nat} {l : LogL} {a : Option Addr} {cap : Nat} (h : LogAt W g l a cap) (hb : Below W.heap.size W W') : LogAt W' g l a cap := by
  have hl := World.block_lt_of_cell? W _ h.1
  exact ⟨(hb.cell (p := ⟨g, 0, none⟩) hl).trans h.1, (hb.cell (p := ⟨g, 1, none⟩) hl).trans h.2.1, (hb.cell (p := ⟨g, 2, none⟩) hl).trans h.2.2⟩
set_option maxHeartbeats 4000000 in
set_option maxRecDepth 100000 in
theorem specLogOk_is {a : Option Addr} {g off cap : Nat} (l : LogL) (hlen : l.ents.length ≤ 1048576) (hd : ∀ e ∈ l.ents, e.data.size ≤ 1048576) (w : World) (hf : EnAt w a g off l.ents) :
    Calls Try.prog 34 #[logV l a cap] w fun en w' => en = .returned (.bool (okL l)) ∧ Below w.heap.size w w' := by
  obtain ⟨O, hO⟩ : ∃ O, O = okL l := ⟨_, rfl⟩
  rw [← hO]
  unfold logV
  obtain ⟨W, hW⟩ : ∃ W, W = w.alloc (Obj.cells #[.int .i64 l.start, .int .i64 l.sterm, .slice a l.ents.length cap] 32) := ⟨_, rfl⟩
  have hb : Below w.heap.size w W := by rw [hW]; exact (Below.refl _ _).alloc (Nat.le_refl _) _
  have HB : Hid (Below w.heap.size w W) := hb
  have hla : LogAt W w.heap.size l a cap := by rw [hW]; exact LogAt.new w l a cap 32
  have HEN : Hid (∀ W', Below W.heap.size W W' → EnAt W' a g off l.ents) := fun W' h => (hf.kept hb).kept h
  have HLA : Hid (∀ W', Below W.heap.size W W' → LogAt W' w.heap.size l a cap) := fun W' h => hla.kept h
  have HIS : Hid (∀ (W : World) (x : Int) (R : Bool), R = inB 0 100000 x → Calls Try.prog 65 #[.int .i64 x, .int .i64 0, .int .i64 100000] W fun en w' => en = .returned (.bool R) ∧ w' = W) := fun W x R h => in_is x 0 100000 R (by rw [h]; simp [inB]) W
  clear hla hb hf
  obtain ⟨R1, hR1⟩ : ∃ R1, R1 = inB 0 100000 l.start := ⟨_, rfl⟩
  obtain ⟨R2, hR2⟩ : ∃ R2, R2 = inB 0 100000 l.sterm := ⟨_, rfl⟩
  have HI1 : Hid (∀ W, Calls Try.prog 65 #[.int .i64 l.start, .int .i64 0, .int .i64 100000] W fun en w' => en = .returned (.bool R1) ∧ w' = W) := fun W => HIS.out W _ _ hR1
  have HI2 : Hid (∀ W, Calls Try.prog 65 #[.int .i64 l.sterm, .int .i64 0, .int .i64 100000] W fun en w' => en = .returned (.bool R2) ∧ w' = W) := fun W => HIS.out W _ _ hR2
  have HO : Hid (O = ((R1 && R2) && (decide (l.ents.length ≤ 120) && decide (l.start + (l.ents.length : Int) ≤ 100000)) && rises l.sterm l.ents)) := by show _ = _; rw [hO, hR1, hR2]; rfl
  have HS : Hid (R1 = true → 0 ≤ l.start ∧ l.start ≤ 100000) := fun h => by rw [hR1] at h; simpa [inB] using h
  clear HIS hO hR1 hR2
  cases R1 with
  | false =>
    have HN : Hid (O = false) := HO.out
    clear HO HS
    go_enter Try.func34, Try.ntmps34
    go_wp2_with (go_at_call 65; (first | (with_reducible refine Calls.mono (HI1.out _) ?_) | (with_reducible refine Calls.mono (HI2.out _) ?_) | fail); rintro en w2 ⟨rfl, hw2⟩; subst hw2)
    go_ret
    exact ⟨by rw [HN.out]; rfl, by rw [← hW]; exact HB.out⟩
  | true =>
  cases R2 with
  | false =>
    have HN : Hid (O = false) := HO.out
    clear HO HS
    go_enter Try.func34, Try.ntmps34
    go_wp2_with (go_at_call 65; (first | (with_reducible refine Calls.mono (HI1.out _) ?_) | (with_reducible refine Calls.mono (HI2.out _) ?_) | fail); rintro en w2 ⟨rfl, hw2⟩; subst hw2)
    go_ret
    exact ⟨by rw [HN.out]; rfl, by rw [← hW]; exact HB.out⟩
  | true =>
  obtain ⟨s0, s1⟩ := HS.out rfl
  clear HS
  by_cases hn : ¬ l.ents.length ≤ 120
  · have HN : Hid (O = false) := by show _ = _; rw [HO.out]; simp [hn]
    have hn' : ¬ (l.ents.length : Int) ≤ 120 := by omega
    clear HO
    go_enter Try.func34, Try.ntmps34
    go_wp2_with (go_at_call 65; (first | (with_reducible refine Calls.mono (HI1.out _) ?_) | (with_reducible refine Calls.mono (HI2.out _) ?_) | fail); rintro en w2 ⟨rfl, hw2⟩; subst hw2)
    go_ret
    exact ⟨by rw [HN.out]; rfl, by rw [← hW]; exact HB.out⟩
  replace hn := Decidable.not_not.1 hn
  by_cases hm : ¬ l.start + (l.ents.length : Int) ≤ 100000
  · have HN : Hid (O = false) := by show _ = _; rw [HO.out]; simp [hm]
    have hn' : (l.ents.length : Int) ≤ 120 := by omega
    clear HO
    go_enter Try.func34, Try.ntmps34
    go_wp2_with (go_at_call 65; (first | (with_reducible refine Calls.mono (HI1.out _) ?_) | (with_reducible refine Calls.mono (HI2.out _) ?_) | fail); rintro en w2 ⟨rfl, hw2⟩; subst hw2)
    go_ret
    exact ⟨by rw [HN.out]; rfl, by rw [← hW]; exact HB.out⟩
  replace hm := Decidable.not_not.1 hm
  have HR : Hid (rises l.sterm (l.ents.drop 0) = O) := by show _ = _; rw [HO.out]; simp [hn, hm]
  have hn' : (l.ents.length : Int) ≤ 120 := by omega
  obtain ⟨q, hq⟩ : ∃ q, q = w.heap.size := ⟨_, rfl⟩
  obtain ⟨c0, c1, c2⟩ := HLA.out _ (Below.refl _ _)
  rw [← hq] at c0 c1 c2 HLA
  rw [hW] at c0 c1 c2
  clear HO
  go_enter Try.func34, Try.ntmps34
  rw [hq] at c0 c1 c2
  go_wp2_with (go_at_call 65; (first | (with_reducible refine Calls.mono (HI1.out _) ?_) | (with_reducible refine Calls.mono (HI2.out _) ?_) | fail); rintro en w2 ⟨rfl, hw2⟩; subst hw2)
  rw [← hW, ← hq]
  clear hW hq c0 c1 c2 HI1 HI2
  go_loopw [3, 4] (fun t i wr => ∃ (k : Nat) (u : Int), k ≤ l.ents.length ∧ i = .int .i64 (k : Int) ∧ t = .int .i64 u ∧ Hid (rises u (l.ents.drop k) = O) ∧ Hid (Below W.heap.size W wr)) (fun _ i _ => l.ents.length - (intOf i).toNat)
  case atStart => exact ⟨0, _, Nat.zero_le _, rfl, rfl, HR, Below.refl _ _⟩
  case round =>
    clear HR
    obtain ⟨k, u, hk, rfl, rfl, HU, HBW⟩ := hrel
    obtain ⟨c0, c1, c2⟩ := HLA.out _ HBW.out
    by_cases hlt : k < l.ents.length
    · have hA := HEN.out _ HBW.out
      have ea := hA.1 (by omega)
      obtain ⟨d0, d1, d2⟩ := hA.2 k hlt
      have HD : Hid (l.ents[k].data.size ≤ 1048576) := hd _ (List.getElem_mem _)
      have HST : Hid (okB l.ents[k] = true → u ≤ l.ents[k].term → rises l.ents[k].term (l.ents.drop (k + 1)) = O) := fun h1 h2 => Logs.rises_step hlt HU.out h1 h2
      have HBD : Hid (okB l.ents[k] = false ∨ ¬ u ≤ l.ents[k].term → O = false) := fun h1 => Logs.rises_bad hlt HU.out h1
      obtain ⟨e, he⟩ : ∃ e, e = l.ents[k] := ⟨_, rfl⟩
      rw [← he] at d0 d1 d2 HD HST HBD
      subst ea
      obtain ⟨p, hp⟩ : ∃ p, p = off + k * 3 := ⟨_, rfl⟩
      rw [← hp] at d0 d1 d2
      have hk0 : (0 : Int) ≤ (k : Int) := by omega
      have hk1 : (k : Int) < (l.ents.length : Int) := by omega
      obtain ⟨Q, hQ⟩ : ∃ Q, Q = okB e := ⟨_, rfl⟩
      have HE : Hid (∀ W, Calls Try.prog 66 #[.agg #[.int .i64 e.term, .int .i64 e.kind, .string e.data]] W fun en w' => en = .returned (.bool Q) ∧ Below W.heap.size W w') := fun W => by rw [hQ]; exact specEntOk_is e HD.out W
      rw [← hQ] at HST HBD
      have he2 : Hid (e = l.ents[k]) := he
      clear hA he hQ
      rw [hp] at d0 d1 d2
      go_wp2_with fail
      refine Calls.mono (HE.out _) ?_
      rintro en w5 ⟨rfl, hb5⟩
      have HB5 : Hid (Below W.heap.size W w5) := HBW.out.trans (hb5.mono HBW.out.size)
      clear hb5 c0 c1 c2 d0 d1 d2 HE HBW
      cases Q with
      | false =>
        have hOf : O = false := HBD.out (Or.inl rfl)
        subst hOf
        go_wp2
        go_ret
        exact ⟨rfl, HB.out.trans (HB5.out.mono HB.out.size)⟩
      | true =>
        obtain ⟨c0, c1, c2⟩ := HLA.out _ HB5.out
        have hA := HEN.out _ HB5.out
        obtain ⟨d0, d1, d2⟩ := hA.2 k hlt
        rw [← he2.out] at d0
        clear hA d1 d2
        by_cases hu : u ≤ e.term
        · have HST2 : Hid (rises e.term (l.ents.drop (k + 1)) = O) := HST.out rfl hu
          have hu' : ¬ e.term < u := by omega
          clear HST HBD hu
          go_wp2
          go_roundw
          case rel => exact ⟨k + 1, e.term, by omega, by go_num, rfl, HST2, HB5⟩
          case measure => simp [intOf]; omega
        · have hOf : O = false := HBD.out (Or.inr (by omega))
          subst hOf
          have hu' : e.term < u := by omega
          clear HST HBD hu
          go_wp2
          go_ret
          exact ⟨rfl, HB.out.trans (HB5.out.mono HB.out.size)⟩
    · have hk1 : ¬ (k : Int) < (l.ents.length : Int) := by omega
      have hOt : O = true := Logs.rises_end (by omega) HU.out
      subst hOt
      go_wp2
      go_ret
      exact ⟨rfl, HB.out.trans (HBW.out.mono HB.out.size)⟩
/-- Start and how many come behind it, as the program reckons it. -/
def lastI (l : LogL) : Int := wrap64 (l.start + (l.ents.length : Int))
set_option maxHeartbeats 1000000 in
theorem specLastI_is {a : Option Addr} {cap : Nat} (l : LogL) (hlen : l.ents.length ≤ 1048576) (w : World) :
    Calls Try.prog 35 #[logV l a cap] w fun en w' => en = .returned (.int .i64 (lastI l)) ∧ Below w.heap.size w w' := by
  unfold logV
  have HB : Hid (Below w.heap.size w (w.alloc (Obj.cells #[.int .i64 l.start, .int .i64 l.sterm, .slice a l.ents.length cap] 32))) := (Below.refl _ _).alloc (Nat.le_refl _) _
  go_enter Try.func35, Try.ntmps35
  go_wp2
  go_ret
  exact ⟨rfl, HB.out⟩
/-- The term of an index, as the specification tells it. -/
def termI (l : LogL) (i : Int) : Int := if i = l.start then l.sterm else if i < l.start ∨ lastI l < i then -1 else ((l.ents[(i - l.start - 1).toNat]?).map (·.term)).getD (-1)
theorem term_place {l : LogL} {i : Int} (hlen : l.ents.length ≤ 1048576) (hs : -9223372036854775808 ≤ l.start ∧ l.start ≤ 9223372036854775807) (hi : -9223372036854775808 ≤ i ∧ i ≤ 9223372036854775807) (h0 : ¬ i = l.start) (h1 : ¬ i < l.start) (h2 : ¬ lastI l < i) :
    ∃ k : Nat, k < l.ents.length ∧ i = l.start + 1 + (k : Int) ∧ i - l.start - 1 = (k : Int) ∧ i - l.start ≤ 1048576 := by
  unfold lastI wrap64 at h2
  exact ⟨(i - l.start - 1).toNat, by omega, by omega, by omega, by omega⟩
end Go.Proofs.Ytddmogggdckneaa
