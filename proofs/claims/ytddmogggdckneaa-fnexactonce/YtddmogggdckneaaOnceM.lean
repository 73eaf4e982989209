/- What is replied once, in plain words; the small functions of both sides. -/
import Derived.Test.YtddmogggdckneaaAgreeWb
import Derived.Test.YtddmogggdckneaaMathW2
namespace Go.Proofs.Ytddmogggdckneaa
open Go.RowKit
set_option linter.unusedVariables false
set_option linter.unusedSimpArgs false
def expT : ByteArray := ⟨#[101, 120, 112, 105, 114, 101, 100]⟩
def staT : ByteArray := ⟨#[115, 116, 97, 108, 101]⟩
def gapT : ByteArray := ⟨#[103, 97, 112]⟩
def resT (s : ByteArray) : Bool := decide (s ≠ expT) && (decide (s ≠ staT) && decide (s ≠ gapT))
def doneR (r : RpL) : Bool := decide (0 < r.session) && resT r.text
def onceR (r s : RpL) : Bool := !(doneR r && doneR s && decide (r.session = s.session) && decide (r.seq = s.seq) && decide (r.text ≠ s.text))
theorem dec_comm {α : Type} [DecidableEq α] (x y : α) : decide (x = y) = decide (y = x) := by
  rw [Bool.eq_iff_iff]; simp; exact eq_comm
theorem onceR_symm (r s : RpL) : onceR r s = onceR s r := by
  unfold onceR
  have e3 : decide (r.text ≠ s.text) = decide (s.text ≠ r.text) := by
    rw [Bool.eq_iff_iff]; simp; rw [eq_comm]
  rw [dec_comm r.session, dec_comm r.seq, e3, Bool.and_comm (doneR r)]
theorem onceR_refl (r : RpL) : onceR r r = true := by simp [onceR]
theorem once_eq (l : List RpL) : Watch.allR (Watch.relR onceR l) l.length = Watch.allOne (wbPairs (wbS (l.filter doneR))) (wbPairs (wbS (l.filter doneR))).length := by
  rw [Watch.allOne_relR, Bool.eq_iff_iff, Watch.allR_iff onceR_symm onceR_refl]
  rw [Watch.allR_iff (fun x y => by
    have e3 : decide (x.2 ≠ y.2) = decide (y.2 ≠ x.2) := by
      rw [Bool.eq_iff_iff]; simp; rw [eq_comm]
    rw [dec_comm x.1, e3]) (fun x => by simp)]
  have hm : ∀ p : (Int × Int) × ByteArray, p ∈ wbPairs (wbS (l.filter doneR)) ↔ ∃ r ∈ l, doneR r = true ∧ p = ((r.session, r.seq), r.text) := by
    intro p
    unfold wbPairs wbS
    simp only [List.mem_map, List.mem_filter]
    constructor
    · rintro ⟨x, ⟨r, ⟨h1, h2⟩, rfl⟩, rfl⟩
      exact ⟨r, h1, h2, rfl⟩
    · rintro ⟨r, h1, h2, rfl⟩
      exact ⟨wbOf r, ⟨r, ⟨h1, h2⟩, rfl⟩, rfl⟩
  constructor
  · intro h p hp q hq
    obtain ⟨r, h1, h2, rfl⟩ := (hm p).1 hp
    obtain ⟨s, h3, h4, rfl⟩ := (hm q).1 hq
    have := h r h1 s h3
    unfold onceR at this
    rw [h2, h4] at this
    simp at this ⊢
    exact this
  · intro h r h1 s h3
    unfold onceR
    cases h2 : doneR r
    · simp
    · cases h4 : doneR s
      · simp
      · have := h _ ((hm _).2 ⟨r, h1, h2, rfl⟩) _ ((hm _).2 ⟨s, h3, h4, rfl⟩)
        simp at this ⊢
        exact this
theorem str_lit {A B : ByteArray} {l : List UInt8} (hB : B.toList = l) {X : Bool} (h : X = decide (¬ A = B)) : (A.toList == l) = !X ∧ decide (A.toList = l) = !X := by
  subst hB
  exact ⟨str_beq A B X h, str_deq A B X h⟩
theorem exp_l : expT.toList = [101, 120, 112, 105, 114, 101, 100] := by rw [ByteArray.toList_eq]; rfl
theorem sta_l : staT.toList = [115, 116, 97, 108, 101] := by rw [ByteArray.toList_eq]; rfl
theorem gap_l : gapT.toList = [103, 97, 112] := by rw [ByteArray.toList_eq]; rfl
set_option maxHeartbeats 1000000 in
set_option maxRecDepth 100000 in
theorem result45_is (s : ByteArray) (w : World) : Calls Try.prog 45 #[.string s] w fun e w' => e = .returned (.bool (resT s)) ∧ Below w.heap.size w w' := by
  obtain ⟨X, hX⟩ : ∃ X, X = decide (¬ s = expT) := ⟨_, rfl⟩
  obtain ⟨Y, hY⟩ : ∃ Y, Y = decide (¬ s = staT) := ⟨_, rfl⟩
  obtain ⟨Z, hZ⟩ : ∃ Z, Z = decide (¬ s = gapT) := ⟨_, rfl⟩
  have HR : Hid (resT s = (X && (Y && Z))) := by show _ = _; rw [hX, hY, hZ]; rfl
  obtain ⟨x1, x2⟩ := str_lit exp_l hX
  obtain ⟨y1, y2⟩ := str_lit sta_l hY
  obtain ⟨z1, z2⟩ := str_lit gap_l hZ
  clear hX hY hZ
  rw [HR.out]
  cases X <;> cases Y <;> cases Z
  all_goals
    simp only [Bool.not_true, Bool.not_false] at x1 x2 y1 y2 z1 z2
    go_enter Try.func45, Try.ntmps45
    go_wp2
    go_ret
    exact ⟨rfl, Below.refl _ _⟩
set_option maxHeartbeats 2000000 in
set_option maxRecDepth 100000 in
theorem didNothing_is (r : RpL) (w : World) : Calls Try.prog 49 #[rpV r] w fun e w' => e = .returned (.bool (!doneR r)) ∧ Below w.heap.size w w' := by
  obtain ⟨F0, F1, F2, F3, F4, F5, F6, F7, F8⟩ := r
  obtain ⟨X, hX⟩ : ∃ X, X = decide (¬ F8 = expT) := ⟨_, rfl⟩
  obtain ⟨Y, hY⟩ : ∃ Y, Y = decide (¬ F8 = staT) := ⟨_, rfl⟩
  obtain ⟨Z, hZ⟩ : ∃ Z, Z = decide (¬ F8 = gapT) := ⟨_, rfl⟩
  have HR : Hid (doneR ⟨F0, F1, F2, F3, F4, F5, F6, F7, F8⟩ = (decide (0 < F3) && (X && (Y && Z)))) := by show _ = _; rw [hX, hY, hZ]; rfl
  obtain ⟨x1, x2⟩ := str_lit exp_l hX
  obtain ⟨y1, y2⟩ := str_lit sta_l hY
  obtain ⟨z1, z2⟩ := str_lit gap_l hZ
  clear hX hY hZ
  rw [HR.out]
  unfold rpV
  by_cases hs : F3 ≤ 0
  · have hs2 : ¬ 0 < F3 := by omega
    simp only [hs2, decide_false, Bool.false_and, Bool.not_false]
    clear x1 x2 y1 y2 z1 z2
    go_enter Try.func49, Try.ntmps49
    go_wp2
    go_ret
    exact ⟨rfl, (Below.refl _ _).alloc (Nat.le_refl _) _⟩
  · have hs2 : 0 < F3 := by omega
    simp only [hs2, decide_true, Bool.true_and]
    cases X <;> cases Y <;> cases Z
    all_goals
      simp only [Bool.not_true, Bool.not_false] at x1 x2 y1 y2 z1 z2
      go_enter Try.func49, Try.ntmps49
      go_wp2
      go_ret
      exact ⟨rfl, (Below.refl _ _).alloc (Nat.le_refl _) _⟩
end Go.Proofs.Ytddmogggdckneaa
