/- The call of the program's ReadBatch, walked. The call of the program's ShortText, walked. The call of the program's BatchText, walked. The exact law of BatchOk, walked. -/
import Derived.Test.YtbcfiiilikkkeaaGreatDoorWhole2
import Derived.Test.YtbcfiiilikkkeaaGreatDoorVar
import Derived.Deep.RegionHeld3
namespace Go.Proofs.YtbcfiiilikkkeaaGreatDoor
open Go.RowKit
set_option linter.unusedVariables false

theorem rdMany_small {t : ByteArray} : ∀ (n a e : Nat) (l : List ChangeL), Batches.rdMany t n a = some (l, e) → l.length = n ∧ ∀ c ∈ l, Batches.small c
  | 0, a, e, l, h => by
    simp only [Batches.rdMany, Option.some.injEq, Prod.mk.injEq] at h
    obtain ⟨rfl, rfl⟩ := h
    exact ⟨rfl, fun c hc => (List.not_mem_nil hc).elim⟩
  | n + 1, a, e, l, h => by
    obtain ⟨c, a1, r, h1, h2, rfl⟩ := rdMany_next h
    obtain ⟨b1, b2, g1, g2, g3⟩ := rdOne_parts h1
    obtain ⟨q1, q2⟩ := rdMany_small n a1 e r h2
    refine ⟨by simp [q1], fun x hx => ?_⟩
    rcases List.mem_cons.1 hx with rfl | hx
    · exact ⟨(Batches.rdShort_cut g1).2.2.2, (Batches.rdShort_cut g3).2.2.2⟩
    · exact q2 x hx
theorem Gets.small {t : ByteArray} {st e : Nat} {l : List ChangeL} (h : Gets t st l e) : l.length ≤ 60 ∧ ∀ c ∈ l, smallChange 2097152 c := by
  obtain ⟨a1, n, a2, _, _, hn, h3⟩ := h
  obtain ⟨q1, q2⟩ := rdMany_small _ _ _ _ h3
  exact ⟨by omega, fun c hc => ⟨Nat.le_trans (q2 c hc).1 (by omega), Nat.le_trans (q2 c hc).2 (by omega)⟩⟩

/-- What ReadBatch lays ahead of the reading: the result, the variable b. -/
theorem read_start (w : World) : ∃ W, W = ((w.alloc (Obj.cells #[Value.int IntKind.i64 0, Value.slice none 0 0] 51)).alloc (Obj.cells #[Value.int IntKind.i64 0, Value.slice none 0 0] 51)) ∧ W.heap[w.heap.size]? = some (.cells #[.int .i64 0, .slice none 0 0] 51 (0, 0)) ∧ W.heap[w.heap.size + 1]? = some (.cells #[.int .i64 0, .slice none 0 0] 51 (0, 0)) ∧ Below w.heap.size w W ∧ W.heap.size = w.heap.size + 2 := by
  refine ⟨_, rfl, ?_, ?_, ((Below.refl _ _).alloc (Nat.le_refl _) _).alloc (by simp) _, by simp⟩
  · rw [Below.heap_alloc _ _ _ (by simp)]
    exact heap_alloc_new w _
  · have := heap_alloc_new (w.alloc (Obj.cells #[Value.int IntKind.i64 0, Value.slice none 0 0] 51)) (Obj.cells #[Value.int IntKind.i64 0, Value.slice none 0 0] 51)
    simpa using this

set_option maxHeartbeats 400000 in
set_option maxRecDepth 100000 in
theorem implReadB_thrown {t : ByteArray} (hs : t.size ≤ 1048576) (w : World) (h : Reads t) :
    Calls Tryz.prog 171 #[.string t] w fun en w' => en = .returned (.tuple #[.agg #[.int .i64 0, .slice none 0 0], .bool false]) ∧ Below w.heap.size w w' := by
  have hmf : ∀ (fn : Fn) (first cap : Array Value) (w : World), (Instr.makeFunc fn first cap).run Tryz.prog w = .ok (.func fn first cap) w := fun _ _ _ _ => rfl
  have HH : Hid (Reads t) := h
  clear h
  obtain ⟨W, hW, h0, h1, hb, hz⟩ := read_start w
  have HZ : Hid (_ = _) := h0
  clear h0 h1
  go_enter Tryz.func171, Tryz.ntmps171
  go_wp2_with fail
  rw [← hW]
  clear hW
  refine (whole_thrown hs W (by omega) HH.out).mono ?_
  rintro en w1 ⟨rfl, hg1⟩
  have hr1 := grown_keep HZ.out hg1 (by omega)
  have HR1 : Hid (_ = _) := hr1
  have hB : Below w.heap.size w w1 := hb.grown hg1 (by omega) (fun k e => by cases e; omega)
  have c0 := cell_of_row _ _ 0 _ _ _ hr1
  have c1 := cell_of_row _ _ 1 _ _ _ hr1
  have f0 := frozen_of_row _ _ 0 _ _ hr1
  have f1 := frozen_of_row _ _ 1 _ _ hr1
  simp at c0 c1
  clear hr1 hg1 hb
  go_wp2
  obtain ⟨l0, l1⟩ := two_cell HR1.out (.int .i64 0) (.slice none 0 0)
  exact bodyPost_ret (v := .tuple #[.agg #[.int .i64 0, .slice none 0 0], .bool false]) (by simp [results, Tryz.results171, go_sem, l0, l1]) rfl ⟨rfl, (hB.setCell (by simp) _).setCell (by simp) _⟩
set_option maxHeartbeats 400000 in
set_option maxRecDepth 100000 in
theorem implReadB_short {t : ByteArray} {st e : Nat} {l : List ChangeL} (hs : t.size ≤ 1048576) (w : World) (h : Gets t st l e) (he : ¬ e = t.size) :
    Calls Tryz.prog 171 #[.string t] w fun en w' => en = .returned (.tuple #[.agg #[.int .i64 0, .slice none 0 0], .bool false]) ∧ Below w.heap.size w w' := by
  have hmf : ∀ (fn : Fn) (first cap : Array Value) (w : World), (Instr.makeFunc fn first cap).run Tryz.prog w = .ok (.func fn first cap) w := fun _ _ _ _ => rfl
  have HH : Hid (Gets t st l e) := h
  clear h
  obtain ⟨W, hW, h0, h1, hb, hz⟩ := read_start w
  have HZ : Hid (_ = _) := h0
  have HB : Hid (_ = _) := h1
  clear h0 h1
  go_enter Tryz.func171, Tryz.ntmps171
  go_wp2_with fail
  rw [← hW]
  clear hW
  refine (whole_gets hs W HB.out HH.out false (by symm; simpa using fun h : (e : Int) = t.size => he (by omega))).mono ?_
  rintro en w1 ⟨rfl, hg1, v, _, _⟩
  have hr1 := grown_keep HZ.out hg1 (by omega)
  have HR1 : Hid (_ = _) := hr1
  have hB : Below w.heap.size w w1 := hb.grown hg1 (by omega) (fun k e => by cases e; omega)
  have c0 := cell_of_row _ _ 0 _ _ _ hr1
  have c1 := cell_of_row _ _ 1 _ _ _ hr1
  have f0 := frozen_of_row _ _ 0 _ _ hr1
  have f1 := frozen_of_row _ _ 1 _ _ hr1
  simp at c0 c1
  clear hr1 hg1 hb
  go_wp2
  obtain ⟨l0, l1⟩ := two_cell HR1.out (.int .i64 0) (.slice none 0 0)
  exact bodyPost_ret (v := .tuple #[.agg #[.int .i64 0, .slice none 0 0], .bool false]) (by simp [results, Tryz.results171, go_sem, l0, l1]) rfl ⟨rfl, (hB.setCell (by simp) _).setCell (by simp) _⟩
set_option maxHeartbeats 400000 in
set_option maxRecDepth 100000 in
theorem implReadB_got {t : ByteArray} {st : Nat} {l : List ChangeL} (hs : t.size ≤ 1048576) (w : World) (h : Gets t st l t.size) (ho : Batches.ok (st : Int) l) :
    Calls Tryz.prog 171 #[.string t] w fun en w' => ∃ v, en = .returned (.tuple #[.agg #[.int .i64 (st : Int), v], .bool true]) ∧ w'.ownsRow w.heap.size 149 3 v l.length (cellsChange l) ∧ Below w.heap.size w w' := by
  have hmf : ∀ (fn : Fn) (first cap : Array Value) (w : World), (Instr.makeFunc fn first cap).run Tryz.prog w = .ok (.func fn first cap) w := fun _ _ _ _ => rfl
  have HH : Hid (Gets t st l t.size) := h
  have HS : Hid (∀ c ∈ l, smallChange 2097152 c) := h.small.2
  have hl := h.small.1
  have HK : Hid (Batches.ok (st : Int) l) := ho
  clear h ho
  obtain ⟨W, hW, h0, h1, hb, hz⟩ := read_start w
  have HZ : Hid (_ = _) := h0
  have HB : Hid (_ = _) := h1
  clear h0 h1
  go_enter Tryz.func171, Tryz.ntmps171
  go_wp2_with fail
  rw [← hW]
  clear hW
  refine (whole_gets hs W HB.out HH.out true (by simp)).mono ?_
  rintro en w1 ⟨rfl, hg1, v, hb1, hown⟩
  obtain ⟨va, gg, vc, rfl, hat⟩ := cellsChange_slice hown
  have hr1 := grown_keep HZ.out hg1 (by omega)
  have HR1 : Hid (_ = _) := hr1
  have HO1 : Hid (w1.ownsRow w.heap.size 149 3 (.slice va l.length vc) l.length (cellsChange l)) := own_mono hown (by omega)
  have hB : Below w.heap.size w w1 := hb.grown hg1 (by omega) (fun k e => by cases e; omega)
  have HA : Hid (ChangeAt w1 va gg 0 l) := hat
  have HB1 : Hid (_ = _) := hb1
  have d0 := cell_of_row _ _ 0 _ _ _ hb1
  have d1 := cell_of_row _ _ 1 _ _ _ hb1
  simp at d0 d1
  clear hr1 hg1 hb hown hat hb1
  go_wp2_with fail
  refine (implOk_any true (st : Int) l (by omega) w1 HA.out HS.out (by simp [HK.out])).mono ?_
  rintro en w2 ⟨rfl, hb2⟩
  have hz1 : w.heap.size + 1 < w1.heap.size := (Array.getElem?_eq_some_iff.1 HB1.out).1
  have hr2 : w2.heap[w.heap.size]? = some (.cells #[.int .i64 0, .slice none 0 0] 51 (0, 0)) := (hb2.block _ (by omega)).trans HR1.out
  have HR2 : Hid (w2.heap[w.heap.size]? = some (.cells #[.int .i64 0, .slice none 0 0] 51 (0, 0))) := hr2
  have hb3 := (hb2.block _ hz1).trans HB1.out
  have HO2 : Hid (w2.ownsRow w.heap.size 149 3 (.slice va l.length vc) l.length (cellsChange l)) := own_kept HO1.out hb2
  have hB2 : Below w.heap.size w w2 := hB.trans (hb2.mono hB.size)
  have c0 := cell_of_row _ _ 0 _ _ _ hr2
  have c1 := cell_of_row _ _ 1 _ _ _ hr2
  have f0 := frozen_of_row _ _ 0 _ _ hr2
  have f1 := frozen_of_row _ _ 1 _ _ hr2
  have e0 := cell_of_row _ _ 0 _ _ _ hb3
  have e1 := cell_of_row _ _ 1 _ _ _ hb3
  simp at c0 c1 e0 e1
  clear hr2 hb2 hb3 d0 d1 hB
  go_wp2
  obtain ⟨l0, l1⟩ := two_cell HR2.out (.int .i64 (st : Int)) (.slice va l.length vc)
  exact bodyPost_ret (v := .tuple #[.agg #[.int .i64 (st : Int), .slice va l.length vc], .bool true]) (by simp [results, Tryz.results171, go_sem, l0, l1]) rfl ⟨.slice va l.length vc, rfl, own_set (own_set HO2.out _ _ _ (own_not HO2.out HR2.out (by decide))) _ _ _ (own_not HO2.out HR2.out (by decide)), (hB2.setCell (by simp) _).setCell (by simp) _⟩
set_option maxHeartbeats 400000 in
set_option maxRecDepth 100000 in
theorem implReadB_wrong {t : ByteArray} {st : Nat} {l : List ChangeL} (hs : t.size ≤ 1048576) (w : World) (h : Gets t st l t.size) (ho : ¬ Batches.ok (st : Int) l) :
    Calls Tryz.prog 171 #[.string t] w fun en w' => en = .returned (.tuple #[.agg #[.int .i64 0, .slice none 0 0], .bool false]) ∧ Below w.heap.size w w' := by
  have hmf : ∀ (fn : Fn) (first cap : Array Value) (w : World), (Instr.makeFunc fn first cap).run Tryz.prog w = .ok (.func fn first cap) w := fun _ _ _ _ => rfl
  have HH : Hid (Gets t st l t.size) := h
  have HS : Hid (∀ c ∈ l, smallChange 2097152 c) := h.small.2
  have hl := h.small.1
  have HK : Hid (¬ Batches.ok (st : Int) l) := ho
  clear h ho
  obtain ⟨W, hW, h0, h1, hb, hz⟩ := read_start w
  have HZ : Hid (_ = _) := h0
  have HB : Hid (_ = _) := h1
  clear h0 h1
  go_enter Tryz.func171, Tryz.ntmps171
  go_wp2_with fail
  rw [← hW]
  clear hW
  refine (whole_gets hs W HB.out HH.out true (by simp)).mono ?_
  rintro en w1 ⟨rfl, hg1, v, hb1, hown⟩
  obtain ⟨va, gg, vc, rfl, hat⟩ := cellsChange_slice hown
  have hr1 := grown_keep HZ.out hg1 (by omega)
  have HR1 : Hid (_ = _) := hr1
  have HO1 : Hid (w1.ownsRow w.heap.size 149 3 (.slice va l.length vc) l.length (cellsChange l)) := own_mono hown (by omega)
  have hB : Below w.heap.size w w1 := hb.grown hg1 (by omega) (fun k e => by cases e; omega)
  have HA : Hid (ChangeAt w1 va gg 0 l) := hat
  have HB1 : Hid (_ = _) := hb1
  have d0 := cell_of_row _ _ 0 _ _ _ hb1
  have d1 := cell_of_row _ _ 1 _ _ _ hb1
  simp at d0 d1
  clear hr1 hg1 hb hown hat hb1
  go_wp2_with fail
  refine (implOk_any false (st : Int) l (by omega) w1 HA.out HS.out (by simp [HK.out])).mono ?_
  rintro en w2 ⟨rfl, hb2⟩
  have hz1 : w.heap.size + 1 < w1.heap.size := (Array.getElem?_eq_some_iff.1 HB1.out).1
  have hr2 : w2.heap[w.heap.size]? = some (.cells #[.int .i64 0, .slice none 0 0] 51 (0, 0)) := (hb2.block _ (by omega)).trans HR1.out
  have HR2 : Hid (w2.heap[w.heap.size]? = some (.cells #[.int .i64 0, .slice none 0 0] 51 (0, 0))) := hr2
  have hb3 := (hb2.block _ hz1).trans HB1.out
  have HO2 : Hid (w2.ownsRow w.heap.size 149 3 (.slice va l.length vc) l.length (cellsChange l)) := own_kept HO1.out hb2
  have hB2 : Below w.heap.size w w2 := hB.trans (hb2.mono hB.size)
  have c0 := cell_of_row _ _ 0 _ _ _ hr2
  have c1 := cell_of_row _ _ 1 _ _ _ hr2
  have f0 := frozen_of_row _ _ 0 _ _ hr2
  have f1 := frozen_of_row _ _ 1 _ _ hr2
  have e0 := cell_of_row _ _ 0 _ _ _ hb3
  have e1 := cell_of_row _ _ 1 _ _ _ hb3
  simp at c0 c1 e0 e1
  clear hr2 hb2 hb3 d0 d1 hB
  go_wp2
  obtain ⟨l0, l1⟩ := two_cell HR2.out (.int .i64 0) (.slice none 0 0)
  exact bodyPost_ret (v := .tuple #[.agg #[.int .i64 0, .slice none 0 0], .bool false]) (by simp [results, Tryz.results171, go_sem, l0, l1]) rfl ⟨rfl, (hB2.setCell (by simp) _).setCell (by simp) _⟩

theorem got_gets {t : ByteArray} {st : Nat} {l : List ChangeL} (h : Batches.Got t st l) : Gets t st l t.size := by
  obtain ⟨a, b, h1, h2, h3⟩ := Batches.got_read h
  exact ⟨a, l.length, b, h1, h2, h.2.2.1, h3⟩
theorem gets_got {t : ByteArray} {st : Nat} {l : List ChangeL} (h : Gets t st l t.size) (ho : Batches.ok (st : Int) l) : Batches.Got t st l := by
  obtain ⟨a, n, b, h1, h2, _, h3⟩ := h
  exact Batches.read_got h1 h2 h3 ho
theorem implReadB_yes {t : ByteArray} {st : Nat} {l : List ChangeL} (hs : t.size ≤ 1048576) (w : World) (h : Batches.Got t st l) :
    Calls Tryz.prog 171 #[.string t] w fun en w' => ∃ v, en = .returned (.tuple #[.agg #[.int .i64 (st : Int), v], .bool true]) ∧ w'.ownsRow w.heap.size 149 3 v l.length (cellsChange l) ∧ Below w.heap.size w w' :=
  implReadB_got hs w (got_gets h) h.2
theorem implReadB_no {t : ByteArray} (hs : t.size ≤ 1048576) (w : World) (h : ∀ st l, ¬ Batches.Got t st l) :
    Calls Tryz.prog 171 #[.string t] w fun en w' => en = .returned (.tuple #[.agg #[.int .i64 0, .slice none 0 0], .bool false]) ∧ Below w.heap.size w w' := by
  rcases reads_or t with hr | ⟨st, l, e, hg⟩
  · exact implReadB_thrown hs w hr
  · by_cases he : e = t.size
    · subst he
      exact implReadB_wrong hs w hg (fun ho => h st l (gets_got hg ho))
    · exact implReadB_short hs w hg he
end Go.Proofs.YtbcfiiilikkkeaaGreatDoor
namespace Go.Proofs.YtbcfiiilikkkeaaGreatDoor
open Go.RowKit

theorem var_size (n : Nat) : (⟨(Words.var n).toArray⟩ : ByteArray).size ≤ n + 1 := by
  have := Words.var_len n
  simpa [ByteArray.size] using this

set_option maxHeartbeats 400000 in
theorem implShort_yes (s : ByteArray) (h : s.size ≤ 20000) (w : World) :
    Calls Tryz.prog 191 #[.string s] w fun e w' => e = .returned (.tuple #[.string (⟨(Words.var s.size).toArray⟩ ++ s), .bool true]) ∧ Below w.heap.size w w' := by
  have hv := var_size s.size
  go_enter Tryz.func191, Tryz.ntmps191
  go_wp2_with (go_at_call 142; refine (implVar_yes s.size (by omega) _).mono ?_; rintro e w1 ⟨rfl, hb1⟩)
  go_ret2
  exact ⟨rfl, hb1⟩

end Go.Proofs.YtbcfiiilikkkeaaGreatDoor
namespace Go.Proofs.YtbcfiiilikkkeaaGreatDoor
open Go.RowKit

theorem app_list (a b : ByteArray) : (a ++ b).data.toList = a.data.toList ++ b.data.toList := by simp
/-- A text of these bytes. -/
def Is (S : ByteArray) (l : List UInt8) : Prop := S.data.toList = l
theorem Is.app {S T : ByteArray} {l m : List UInt8} (h1 : Is S l) (h2 : Is T m) : Is (S ++ T) (l ++ m) := by
  unfold Is at *; rw [app_list, h1, h2]
theorem Is.size {S : ByteArray} {l : List UInt8} (h : Is S l) : S.size = l.length := by unfold Is at h; rw [← h]; rfl
theorem Is.eq {S : ByteArray} {l : List UInt8} (h : Is S l) : S = ⟨l.toArray⟩ := by
  unfold Is at h
  cases S; simp at h; subst h; simp
theorem Is.mk (l : List UInt8) : Is ⟨l.toArray⟩ l := rfl

set_option maxHeartbeats 400000 in
theorem varOf_is (x : Int) (h0 : 0 ≤ x) (h1 : x ≤ 1000000) (S : ByteArray) (hS : Is S (Words.var x.toNat)) (w : World) :
    Calls Tryz.prog 138 #[.int .i64 x] w fun e w' => e = .returned (.string S) ∧ Below w.heap.size w w' := by
  obtain ⟨n, rfl⟩ := Int.eq_ofNat_of_zero_le h0
  have HS : Hid (Value.string S = .string ⟨(Words.var n).toArray⟩) := by show _ = _; rw [hS.eq]; rfl
  clear hS
  go_enter Tryz.func138, Tryz.ntmps138
  go_wp2_with (go_at_call 142; refine (implVar_yes n (by omega) _).mono ?_; rintro e w1 ⟨rfl, hb1⟩)
  go_ret
  exact ⟨by rw [HS.out]; rfl, hb1⟩
set_option maxHeartbeats 400000 in
theorem shortOf_is (s : ByteArray) (h : s.size ≤ 20000) (S : ByteArray) (hS : Is S (Batches.short s)) (w : World) :
    Calls Tryz.prog 139 #[.string s] w fun e w' => e = .returned (.string S) ∧ Below w.heap.size w w' := by
  have hi : Is (⟨(Words.var s.size).toArray⟩ ++ s) (Batches.short s) := (Is.mk _).app rfl
  have HS : Hid (Value.string S = .string (⟨(Words.var s.size).toArray⟩ ++ s)) := by show _ = _; rw [hS.eq, hi.eq]
  clear hS hi
  go_enter Tryz.func139, Tryz.ntmps139
  go_wp2_with (go_at_call 191; refine (implShort_yes s (by omega) _).mono ?_; rintro e w1 ⟨rfl, hb1⟩)
  go_ret
  exact ⟨by rw [HS.out]; rfl, hb1⟩
set_option maxHeartbeats 400000 in
theorem flagOf_is (G : Bool) (S : ByteArray) (hS : Is S [Batches.flag G]) (w : World) : Calls Tryz.prog 140 #[.bool G] w fun e w' => e = .returned (.string S) ∧ Below w.heap.size w w' := by
  cases G with
  | true =>
    have HS : Hid (Value.string S = .string ⟨#[1]⟩) := by show _ = _; rw [hS.eq]; rfl
    clear hS
    go_enter Tryz.func140, Tryz.ntmps140
    go_wp2
    go_ret
    exact ⟨by rw [HS.out]; rfl, Below.refl _ _⟩
  | false =>
    have HS : Hid (Value.string S = .string ⟨#[0]⟩) := by show _ = _; rw [hS.eq]; rfl
    clear hS
    go_enter Tryz.func140, Tryz.ntmps140
    go_wp2
    go_ret
    exact ⟨by rw [HS.out]; rfl, Below.refl _ _⟩
def varS (x : Int) : ByteArray := ⟨(Words.var x.toNat).toArray⟩
def shortS (s : ByteArray) : ByteArray := ⟨(Batches.short s).toArray⟩
def flagS (g : Bool) : ByteArray := ⟨#[Batches.flag g]⟩
theorem varS_is (x : Int) : Is (varS x) (Words.var x.toNat) := rfl
theorem shortS_is (s : ByteArray) : Is (shortS s) (Batches.short s) := rfl
theorem flagS_is (g : Bool) : Is (flagS g) [Batches.flag g] := rfl
theorem varS_size (x : Int) (B : Nat) (h : x ≤ B) : (varS x).size ≤ B + 1 := by rw [(varS_is x).size]; have := Words.var_len x.toNat; omega
theorem shortS_size (s : ByteArray) (B : Nat) (h : s.size ≤ B) : (shortS s).size ≤ 2 * B + 1 := by rw [(shortS_is s).size]; have := Batches.short_len s; omega
theorem flagS_size (g : Bool) : (flagS g).size = 1 := rfl
theorem varOf_q (x : Int) (h0 : 0 ≤ x) (h1 : x ≤ 1000000) (w : World) : Calls Tryz.prog 138 #[.int .i64 x] w fun e w' => e = .returned (.string (varS x)) ∧ Below w.heap.size w w' := varOf_is x h0 h1 _ (varS_is x) w
theorem shortOf_q (s : ByteArray) (h : s.size ≤ 20000) (w : World) : Calls Tryz.prog 139 #[.string s] w fun e w' => e = .returned (.string (shortS s)) ∧ Below w.heap.size w w' := shortOf_is s h _ (shortS_is s) w
theorem flagOf_q (G : Bool) (w : World) : Calls Tryz.prog 140 #[.bool G] w fun e w' => e = .returned (.string (flagS G)) ∧ Below w.heap.size w w' := flagOf_is G _ (flagS_is G) w
/-- The text as far as the k-th change. -/
def Upto (st : Int) (l : List ChangeL) (k : Nat) (S : ByteArray) : Prop := Is S (Words.var st.toNat ++ (Words.var l.length ++ Batches.many (l.take k)))
theorem upto_zero (st : Int) (l : List ChangeL) : Upto st l 0 (varS st ++ varS l.length) := by
  have := (varS_is st).app (varS_is l.length)
  unfold Upto
  simpa [Batches.many] using this
theorem upto_step {st : Int} {l : List ChangeL} {k : Nat} {S A V T : ByteArray} {G : Bool} (hk : k < l.length) (h : Upto st l k S) (he : l[k] = ⟨A, V, G⟩) (hT : Is T (Batches.one ⟨A, V, G⟩)) : Upto st l (k + 1) (S ++ T) := by
  have := Is.app h hT
  unfold Upto
  rw [Batches.many_take hk, he]
  simpa using this
theorem one_is (A V : ByteArray) (G : Bool) : Is (shortS A ++ flagS G ++ shortS V) (Batches.one ⟨A, V, G⟩) := by
  have := ((shortS_is A).app (flagS_is G)).app (shortS_is V)
  unfold Batches.one
  simpa using this
theorem upto_all {st : Int} {l : List ChangeL} {k : Nat} {S : ByteArray} (hk : l.length ≤ k) (h : Upto st l k S) : S = ⟨(Batches.text st.toNat l).toArray⟩ := by
  unfold Upto at h
  rw [List.take_of_length_le hk] at h
  exact h.eq
end Go.Proofs.YtbcfiiilikkkeaaGreatDoor
namespace Go.Proofs.YtbcfiiilikkkeaaGreatDoor
open Go.RowKit

theorem below_undrew {w w' : World} (h : Below w.drew.heap.size w.drew w') : Below w.heap.size w w' := ((Below.refl _ _).drew).trans h
end Go.Proofs.YtbcfiiilikkkeaaGreatDoor
