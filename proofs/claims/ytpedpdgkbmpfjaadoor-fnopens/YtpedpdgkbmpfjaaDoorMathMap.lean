/- The specification's l01Once and l09Size, walked. Plain facts on maps: which are right, what changes make of them, what differs between two; no program is named here. -/
import Derived.Test.YtpedpdgkbmpfjaaDoorDrawC
import Derived.Test.YtpedpdgkbmpfjaaDoorMathBatch
namespace Go.Proofs.YtpedpdgkbmpfjaaDoor
open Go.RowKit
set_option linter.unusedVariables false
set_option linter.unusedSimpArgs false
set_option maxHeartbeats 1000000 in
set_option maxRecDepth 100000 in
theorem once_any {B g len cap b off : Nat} {a : Option Addr} {z : Nat → Int} (n : Int) (hn : n ≤ 9223372036854775807) (w : World) (hc : Cur B w g a len cap b off z) :
    Calls Tryd.prog 69 #[.pointer (some ⟨g, 0, none⟩), .int .i64 n] w fun e w' => ∃ r : Bool, e = .returned (.bool r) ∧ Cur B w' g a len cap b off z ∧ w.grownBy w' (some g) := by
  have HB : Hid (Calls Tryd.prog 43 #[.pointer (some ⟨g, 0, none⟩), .int .i64 n] w fun e w' => ∃ x : Int, e = .returned (.int .i64 x) ∧ InBelow n x ∧ Cur B w' g a len cap b off z ∧ w.grownBy w' (some g)) := below_any n hn w hc
  clear hc
  go_enter Tryd.func69, Tryd.ntmps69
  go_wp2_with fail
  refine Calls.mono HB.out ?_
  rintro e w1 ⟨x, rfl, _, hc1, hg1⟩
  by_cases hx : x = 0
  · subst hx
    go_wp2
    go_ret
    exact ⟨_, rfl, hc1, hg1⟩
  · have hb : (x == 0) = false := by simpa using hx
    go_wp2
    go_ret
    exact ⟨_, rfl, hc1, hg1⟩
set_option maxHeartbeats 1000000 in
set_option maxRecDepth 100000 in
theorem size_any {a : Option Addr} {len cap : Nat} (hl : len ≤ 1000000000) (w : World) :
    Calls Tryd.prog 44 #[.slice a len cap] w fun e w' => ∃ n : Nat, e = .returned (.int .i64 (n : Int)) ∧ 3 ≤ n ∧ n ≤ 18 ∧ w' = w := by
  go_enter Tryd.func44, Tryd.ntmps44
  have hq : (0 : Int) ≤ (len : Int) / 20 := by omega
  have hq2 : (len : Int) / 20 ≤ 1000000000 := by omega
  have h0 : (0 : Int) ≤ (len : Int) := by omega
  have h1 : (len : Int).tdiv 20 = (len : Int) / 20 := Int.tdiv_eq_ediv_of_nonneg h0
  have h2 : ((len / 20 : Nat) : Int) = (len : Int) / 20 := rfl
  by_cases h18 : (18 : Int) < 3 + (len : Int) / 20
  · go_wp2
    go_ret
    exact ⟨18, rfl, Nat.le_of_ble_eq_true rfl, Nat.le_refl _, rfl⟩
  · go_wp2
    go_ret
    refine ⟨3 + len / 20, ?_, Nat.le_add_right _ _, by omega, rfl⟩
    simp [h1]
end Go.Proofs.YtpedpdgkbmpfjaaDoor
namespace Go.Proofs.YtpedpdgkbmpfjaaDoor
structure PairL where
  key : ByteArray
  value : ByteArray
namespace Maps
open Go Batches
def pairOk (p : PairL) : Prop := 1 ≤ p.key.size ∧ p.key.size ≤ 10 ∧ p.value.size ≤ 40
def okAt (l : List PairL) (j : Nat) : Prop := ∃ hj : j < l.length, pairOk l[j] ∧ (0 < j → ∃ hi : j - 1 < l.length, lt l[j - 1].key l[j].key = true)
def ok (l : List PairL) : Prop := l.length ≤ 60 ∧ ∀ j, j < l.length → okAt l j
theorem ok_step {l : List PairL} {k : Nat} (h : ∀ j, j < k → okAt l j) (hk : okAt l k) : ∀ j, j < k + 1 → okAt l j := fun j hj => by
  rcases Nat.lt_succ_iff_lt_or_eq.1 hj with h1 | h1
  · exact h j h1
  · rw [h1]; exact hk
theorem not_ok {l : List PairL} {j : Nat} (hj : j < l.length) (h : ¬ okAt l j) : ¬ ok l := fun h2 => h (h2.2 j hj)
/-- Ascending lists. -/
def Asc (l : List PairL) : Prop := l.Pairwise fun p q => lt p.key q.key = true
def AscC (l : List ChangeL) : Prop := l.Pairwise fun p q => lt p.key q.key = true
theorem asc_of {α : Type} (f : α → ByteArray) : ∀ (l : List α), (∀ j (h : j < l.length), 0 < j → lt (f l[j - 1]) (f l[j]) = true) → l.Pairwise fun p q => lt (f p) (f q) = true
  | [], _ => List.Pairwise.nil
  | [x], _ => List.pairwise_singleton _ _
  | x :: y :: l, h => by
    have ih := asc_of f (y :: l) (fun j hj h0 => by
      have := h (j + 1) (by simpa using hj) (by omega)
      obtain ⟨i, rfl⟩ : ∃ i, j = i + 1 := ⟨j - 1, by omega⟩
      simpa using this)
    refine List.Pairwise.cons (fun z hz => ?_) ih
    have h1 : lt (f x) (f y) = true := h 1 (by simp) (by omega)
    rcases List.mem_cons.1 hz with rfl | hz
    · exact h1
    · exact lt_trans h1 (List.rel_of_pairwise_cons ih hz)
theorem asc_at {α : Type} (f : α → ByteArray) {l : List α} (h : l.Pairwise fun p q => lt (f p) (f q) = true) {i j : Nat} (hj : j < l.length) (hij : i < j) : lt (f l[i]) (f l[j]) = true := List.pairwise_iff_getElem.1 h i j (by omega) hj hij
theorem ok_iff (l : List PairL) : ok l ↔ l.length ≤ 60 ∧ (∀ p ∈ l, pairOk p) ∧ Asc l := by
  constructor
  · rintro ⟨h1, h2⟩
    refine ⟨h1, fun p hp => ?_, asc_of PairL.key l fun j hj h0 => ?_⟩
    · obtain ⟨j, hj, rfl⟩ := List.getElem_of_mem hp
      obtain ⟨_, h3, _⟩ := h2 j hj
      exact h3
    · obtain ⟨_, _, h3⟩ := h2 j hj
      exact (h3 h0).2
  · rintro ⟨h1, h2, h3⟩
    exact ⟨h1, fun j hj => ⟨hj, h2 _ (List.getElem_mem _), fun h0 => ⟨by omega, asc_at PairL.key h3 hj (by omega)⟩⟩⟩
theorem okC_iff (st : Int) (l : List ChangeL) : Batches.ok st l ↔ (0 ≤ st ∧ st ≤ 100000) ∧ l.length ≤ 60 ∧ (∀ p ∈ l, changeOk p) ∧ AscC l := by
  constructor
  · rintro ⟨h0, h1, h2⟩
    refine ⟨h0, h1, fun p hp => ?_, asc_of ChangeL.key l fun j hj h0 => ?_⟩
    · obtain ⟨j, hj, rfl⟩ := List.getElem_of_mem hp
      obtain ⟨_, h3, _⟩ := h2 j hj
      exact h3
    · obtain ⟨_, _, h3⟩ := h2 j hj
      exact (h3 h0).2
  · rintro ⟨h0, h1, h2, h3⟩
    exact ⟨h0, h1, fun j hj => ⟨hj, h2 _ (List.getElem_mem _), fun h0 => ⟨by omega, asc_at ChangeL.key h3 hj (by omega)⟩⟩⟩

def same (x y : ByteArray) : Bool := x.toList == y.toList
theorem same_iff (x y : ByteArray) : same x y = true ↔ x = y := by
  unfold same
  rw [beq_iff_eq, toList_by, toList_by]
  exact ⟨by_inj, fun h => by rw [h]⟩
/-- What a change leaves of its key. -/
def left (c : ChangeL) : List PairL := if c.gone then [] else [⟨c.key, c.value⟩]
/-- A list behind changes that ascend. -/
def doing : List PairL → List ChangeL → List PairL
  | [], [] => []
  | p :: ps, [] => p :: doing ps []
  | [], c :: cs => left c ++ doing [] cs
  | p :: ps, c :: cs => if lt p.key c.key then p :: doing ps (c :: cs) else if lt c.key p.key then left c ++ doing (p :: ps) cs else left c ++ doing ps cs
theorem eq_of_not {a b : ByteArray} (h1 : ¬ lt a b = true) (h2 : ¬ lt b a = true) : a = b := lt_total (by simpa using h1) (by simpa using h2)
theorem cons_above {α : Type} (f : α → ByteArray) {x : α} {l : List α} (h : (x :: l).Pairwise fun p q => lt (f p) (f q) = true) : ∀ p ∈ l, lt (f x) (f p) = true := fun _ hp => List.rel_of_pairwise_cons h hp
theorem all_above {k : ByteArray} {x : PairL} {l : List PairL} (h : Asc (x :: l)) (hk : lt k x.key = true) : ∀ p ∈ x :: l, lt k p.key = true :=
  List.forall_mem_cons.2 ⟨hk, fun p hp => lt_trans hk (cons_above PairL.key h p hp)⟩
theorem doing_nil : ∀ l : List PairL, doing l [] = l
  | [] => by rw [doing]
  | p :: l => by rw [doing, doing_nil l]
theorem doing_skip {p : PairL} {ps : List PairL} {cs : List ChangeL} (h : ∀ c ∈ cs, lt p.key c.key = true) : doing (p :: ps) cs = p :: doing ps cs := by
  cases cs with
  | nil => rw [doing]
  | cons c cs => rw [doing, if_pos (h c List.mem_cons_self)]
/-- The change of one key. -/
def cutK (m : List PairL) (k : ByteArray) : List PairL := m.filter fun p => !same p.key k
def putK (m : List PairL) (k v : ByteArray) : List PairL := (m.filter fun p => lt p.key k) ++ (⟨k, v⟩ :: m.filter fun p => lt k p.key)
def stepC (m : List PairL) (c : ChangeL) : List PairL := if c.gone then cutK m c.key else putK m c.key c.value
theorem same_lt {a b : ByteArray} (h : lt a b = true) : same a b = false ∧ same b a = false := by
  constructor
  · cases e : same a b
    · rfl
    · rw [(same_iff _ _).1 e, lt_irrefl] at h; cases h
  · cases e : same b a
    · rfl
    · rw [(same_iff _ _).1 e, lt_irrefl] at h; cases h
theorem filter_none {α : Type} {f : α → Bool} {l : List α} (h : ∀ x ∈ l, f x = false) : l.filter f = [] := List.filter_eq_nil_iff.2 fun x hx => by rw [h x hx]; simp
theorem filter_all {α : Type} {f : α → Bool} {l : List α} (h : ∀ x ∈ l, f x = true) : l.filter f = l := List.filter_eq_self.2 h
/-- A change of a key below all others. -/
theorem stepC_below {m : List PairL} {c : ChangeL} (h : ∀ p ∈ m, lt c.key p.key = true) : stepC m c = left c ++ m := by
  unfold stepC left cutK putK
  split
  · rw [filter_all fun p hp => by rw [(same_lt (h p hp)).2]; rfl]; rfl
  · rw [filter_none fun p hp => lt_asymm (h p hp), filter_all h]; rfl
theorem stepC_at {m : List PairL} {p : PairL} {c : ChangeL} (e : p.key = c.key) (h : ∀ q ∈ m, lt c.key q.key = true) : stepC (p :: m) c = left c ++ m := by
  have h2 := stepC_below h
  have e1 : same p.key c.key = true := (same_iff _ _).2 e
  unfold stepC cutK putK at *
  rw [List.filter_cons, List.filter_cons, List.filter_cons, e1]
  rw [e, lt_irrefl]
  simpa using h2
theorem stepC_skip {m : List PairL} {p : PairL} {c : ChangeL} (h : lt p.key c.key = true) : stepC (p :: m) c = p :: stepC m c := by
  unfold stepC cutK putK
  rw [List.filter_cons, List.filter_cons, List.filter_cons, (same_lt h).1, h, lt_asymm h]
  split <;> simp
theorem left_doing {c : ChangeL} {m : List PairL} {cs : List ChangeL} (h : ∀ d ∈ cs, lt c.key d.key = true) : doing (left c ++ m) cs = left c ++ doing m cs := by
  unfold left
  split
  · rfl
  · exact doing_skip (p := ⟨c.key, c.value⟩) h
theorem doing_step : ∀ (m : List PairL) (c : ChangeL) (cs : List ChangeL), Asc m → (∀ d ∈ cs, lt c.key d.key = true) → doing (stepC m c) cs = doing m (c :: cs)
  | [], c, cs, _, h => by
    rw [stepC_below (fun _ q => absurd q List.not_mem_nil), left_doing h, doing.eq_3]
  | p :: ps, c, cs, hm, h => by
    have ih := doing_step ps c cs hm.of_cons h
    rw [doing.eq_4]
    split
    · rename_i q
      rw [stepC_skip q, doing_skip fun d hd => lt_trans q (h d hd), ih]
    · rename_i q1
      split
      · rename_i q
        rw [stepC_below (all_above hm q), left_doing h]
      · rename_i q2
        have e := eq_of_not q1 q2
        rw [stepC_at e fun q hq => by rw [← e]; exact cons_above PairL.key hm q hq, left_doing h]
theorem left_asc {c : ChangeL} {m : List PairL} (hm : Asc m) (h : ∀ p ∈ m, lt c.key p.key = true) : Asc (left c ++ m) := by
  unfold left
  split
  · exact hm
  · exact List.Pairwise.cons h hm
theorem stepC_mem {m : List PairL} {c : ChangeL} {p : PairL} (h : p ∈ stepC m c) : p ∈ m ∨ p = ⟨c.key, c.value⟩ := by
  unfold stepC cutK putK at h
  split at h
  · exact Or.inl (List.mem_filter.1 h).1
  · rcases List.mem_append.1 h with h | h
    · exact Or.inl (List.mem_filter.1 h).1
    · rcases List.mem_cons.1 h with h | h
      · exact Or.inr h
      · exact Or.inl (List.mem_filter.1 h).1
theorem stepC_asc : ∀ (m : List PairL) (c : ChangeL), Asc m → Asc (stepC m c)
  | [], c, _ => by rw [stepC_below (fun _ q => absurd q List.not_mem_nil)]; exact left_asc List.Pairwise.nil (fun _ q => absurd q List.not_mem_nil)
  | p :: ps, c, hm => by
    have ih := stepC_asc ps c hm.of_cons
    by_cases q1 : lt p.key c.key = true
    · rw [stepC_skip q1]
      refine List.Pairwise.cons (fun q hq => ?_) ih
      rcases stepC_mem hq with h | rfl
      · exact cons_above PairL.key hm q h
      · exact q1
    · by_cases q2 : lt c.key p.key = true
      · rw [stepC_below (all_above hm q2)]; exact left_asc hm (all_above hm q2)
      · have e := eq_of_not q1 q2
        have h : ∀ q ∈ ps, lt c.key q.key = true := fun q hq => by rw [← e]; exact cons_above PairL.key hm q hq
        rw [stepC_at e h]; exact left_asc hm.of_cons h
/-- The changes one by one leave what they leave side by side. -/
theorem fold_doing : ∀ (cs : List ChangeL) (m : List PairL), Asc m → AscC cs → cs.foldl stepC m = doing m cs
  | [], m, _, _ => (doing_nil m).symm
  | c :: cs, m, hm, hc => by
    rw [List.foldl_cons, fold_doing cs _ (stepC_asc m c hm) hc.of_cons, doing_step m c cs hm (cons_above ChangeL.key hc)]
theorem stepC_len (m : List PairL) (c : ChangeL) : (stepC m c).length ≤ m.length + 1 := by
  unfold stepC cutK putK
  split
  · have := List.length_filter_le (fun p => !same p.key c.key) m; omega
  · have h : (m.filter fun p => lt p.key c.key).length + (m.filter fun p => lt c.key p.key).length ≤ m.length := by
      induction m with
      | nil => simp
      | cons p m ih =>
        rw [List.filter_cons, List.filter_cons]
        cases h1 : lt p.key c.key
        · cases h2 : lt c.key p.key <;> simp only [List.length_cons, if_true, Bool.false_eq_true, if_false] <;> omega
        · rw [lt_asymm h1]; simp only [List.length_cons, if_true, Bool.false_eq_true, if_false]; omega
    simp only [List.length_append, List.length_cons]
    omega
theorem stepC_ok {m : List PairL} {c : ChangeL} (hm : ∀ p ∈ m, pairOk p) (hc : changeOk c) : ∀ p ∈ stepC m c, pairOk p := fun p hp => by
  rcases stepC_mem hp with h | rfl
  · exact hm p h
  · exact ⟨hc.1, hc.2.1, hc.2.2.1⟩
end Maps
end Go.Proofs.YtpedpdgkbmpfjaaDoor
