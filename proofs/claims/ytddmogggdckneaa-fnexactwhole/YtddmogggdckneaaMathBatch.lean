/- Plain facts on batches: which are right, their texts, what is read of a text; no program is named here. -/
import Derived.Test.YtddmogggdckneaaMathA
import Derived.Test.YtddmogggdckneaaVar
namespace Go.Proofs.Ytddmogggdckneaa
structure ChangeL where
  key : ByteArray
  value : ByteArray
  gone : Bool
namespace Batches
open Go
/-- Texts byte by byte, a beginning being less. -/
def lt (a b : ByteArray) : Bool := Op.bytesLess a.toList b.toList
abbrev by_ (s : ByteArray) : List UInt8 := s.data.toList
theorem toList_by (s : ByteArray) : s.toList = by_ s := ByteArray.toList_eq s
theorem by_inj {a b : ByteArray} (h : by_ a = by_ b) : a = b := by
  cases a; cases b
  simp only [ByteArray.mk.injEq]
  exact Array.ext' h
theorem less_eq : ∀ (x y : List UInt8), Op.bytesLess x y = decide (x < y)
  | [], [] => by simp [Op.bytesLess]
  | _ :: _, [] => by simp [Op.bytesLess]
  | [], _ :: _ => by simp [Op.bytesLess]
  | a :: x, b :: y => by
    rw [Op.bytesLess, less_eq x y]
    simp only [List.cons_lt_cons_iff]
    by_cases h1 : a < b <;> by_cases h2 : a = b <;> by_cases h3 : x < y <;> simp [h1, h2, h3]
theorem lt_iff (a b : ByteArray) : lt a b = true ↔ by_ a < by_ b := by
  unfold lt; rw [less_eq, toList_by, toList_by, decide_eq_true_iff]
theorem lt_irrefl (a : ByteArray) : lt a a = false := by
  cases h : lt a a
  · rfl
  · exact absurd ((lt_iff a a).1 h) (List.lt_irrefl _)
theorem lt_trans {a b c : ByteArray} (h1 : lt a b = true) (h2 : lt b c = true) : lt a c = true :=
  (lt_iff a c).2 (List.lt_trans ((lt_iff a b).1 h1) ((lt_iff b c).1 h2))
theorem lt_total {a b : ByteArray} (h1 : lt a b = false) (h2 : lt b a = false) : a = b := by
  have e1 : ¬ by_ a < by_ b := fun h => by rw [(lt_iff a b).2 h] at h1; cases h1
  have e2 : ¬ by_ b < by_ a := fun h => by rw [(lt_iff b a).2 h] at h2; cases h2
  exact by_inj (List.le_antisymm (List.not_lt.1 e2) (List.not_lt.1 e1))
theorem lt_asymm {a b : ByteArray} (h : lt a b = true) : lt b a = false := by
  cases h2 : lt b a
  · rfl
  · have := lt_trans h h2; rw [lt_irrefl] at this; cases this

def changeOk (c : ChangeL) : Prop := 1 ≤ c.key.size ∧ c.key.size ≤ 10 ∧ c.value.size ≤ 40 ∧ (c.gone = true → c.value.size = 0)
/-- Is the change at j right, and behind the one ahead of it? -/
def okAt (l : List ChangeL) (j : Nat) : Prop := ∃ hj : j < l.length, changeOk l[j] ∧ (0 < j → ∃ hi : j - 1 < l.length, lt l[j - 1].key l[j].key = true)
def ok (st : Int) (l : List ChangeL) : Prop := (0 ≤ st ∧ st ≤ 100000) ∧ l.length ≤ 60 ∧ ∀ j, j < l.length → okAt l j
theorem ok_step {l : List ChangeL} {k : Nat} (h : ∀ j, j < k → okAt l j) (hk : okAt l k) : ∀ j, j < k + 1 → okAt l j := fun j hj => by
  rcases Nat.lt_succ_iff_lt_or_eq.1 hj with h1 | h1
  · exact h j h1
  · rw [h1]; exact hk
theorem not_ok {st : Int} {l : List ChangeL} {j : Nat} (hj : j < l.length) (h : ¬ okAt l j) : ¬ ok st l := fun h2 => h (h2.2.2 j hj)

def flag (g : Bool) : UInt8 := if g then 1 else 0
def short (s : ByteArray) : List UInt8 := Words.var s.size ++ by_ s
def one (c : ChangeL) : List UInt8 := short c.key ++ (flag c.gone :: short c.value)
def many : List ChangeL → List UInt8
  | [] => []
  | c :: l => one c ++ many l
def text (st : Nat) (l : List ChangeL) : List UInt8 := Words.var st ++ (Words.var l.length ++ many l)
theorem many_app : ∀ (l m : List ChangeL), many (l ++ m) = many l ++ many m
  | [], m => rfl
  | c :: l, m => by simp [many, many_app l m]
theorem many_take {l : List ChangeL} {k : Nat} (hk : k < l.length) : many (l.take (k + 1)) = many (l.take k) ++ one l[k] := by
  rw [List.take_succ_eq_append_getElem hk, many_app]; simp [many]
theorem short_len (s : ByteArray) : (short s).length ≤ 2 * s.size + 1 := by
  have := Words.var_len s.size
  unfold short
  rw [List.length_append, Words.size_list]
  omega

def rdShort (s : ByteArray) (a : Nat) : Option (ByteArray × Nat) :=
  match Words.rd (by_ s) a with
  | none => none
  | some (n, k) => if n ≤ 20000 ∧ k + n ≤ s.size then some (s.extract k (k + n), k + n) else none
def rdFlag (s : ByteArray) (a : Nat) : Option (Bool × Nat) :=
  match (by_ s)[a]? with
  | none => none
  | some b => if b.toNat ≤ 1 then some (b.toNat == 1, a + 1) else none
def rdOne (s : ByteArray) (a : Nat) : Option (ChangeL × Nat) :=
  match rdShort s a with
  | none => none
  | some (k, a1) => match rdFlag s a1 with
    | none => none
    | some (g, a2) => match rdShort s a2 with
      | none => none
      | some (v, a3) => some (⟨k, v, g⟩, a3)
def rdMany (s : ByteArray) : Nat → Nat → Option (List ChangeL × Nat)
  | 0, a => some ([], a)
  | n + 1, a => match rdOne s a with
    | none => none
    | some (c, a1) => match rdMany s n a1 with
      | none => none
      | some (l, a2) => some (c :: l, a2)

/-- The bytes from a up to b. -/
def cut (s : ByteArray) (a b : Nat) : List UInt8 := ((by_ s).drop a).take (b - a)
theorem cut_app (s : ByteArray) {a b c : Nat} (h1 : a ≤ b) (h2 : b ≤ c) : cut s a c = cut s a b ++ cut s b c := by
  unfold cut
  have e : c - a = (b - a) + (c - b) := by omega
  rw [e, List.take_add, List.drop_drop]
  congr 3
  omega
theorem cut_self (s : ByteArray) (a : Nat) : cut s a a = [] := by simp [cut]
theorem cut_all (s : ByteArray) : cut s 0 s.size = by_ s := by
  unfold cut
  rw [List.drop_zero, Nat.sub_zero]
  exact List.take_of_length_le (Nat.le_of_eq (Words.size_list s))
theorem rd_cut {s : ByteArray} {a n b : Nat} (h : Words.rd (by_ s) a = some (n, b)) : a < b ∧ b ≤ s.size ∧ cut s a b = Words.var n ∧ n ≤ 1000000000 := by
  obtain ⟨h1, _, h3, _, h5, h6⟩ := Words.rd_front h
  exact ⟨h1, h3, h5.symm, h6⟩
theorem rdShort_cut {s : ByteArray} {a b : Nat} {x : ByteArray} (h : rdShort s a = some (x, b)) : a < b ∧ b ≤ s.size ∧ cut s a b = short x ∧ x.size ≤ 20000 := by
  unfold rdShort at h
  split at h
  · cases h
  · rename_i n k hr
    split at h
    · rename_i hn
      simp only [Option.some.injEq, Prod.mk.injEq] at h
      obtain ⟨rfl, rfl⟩ := h
      obtain ⟨h1, h2, h3, _⟩ := rd_cut hr
      have hsz : (s.extract k (k + n)).size = n := by rw [ByteArray.size_extract]; omega
      refine ⟨by omega, hn.2, ?_, by omega⟩
      rw [cut_app s (Nat.le_of_lt h1) (Nat.le_add_right k n), h3]
      unfold short
      rw [hsz]
      congr 1
      unfold by_
      rw [Words.extract_list]
      rfl
    · cases h
theorem rdFlag_cut {s : ByteArray} {a b : Nat} {g : Bool} (h : rdFlag s a = some (g, b)) : b = a + 1 ∧ b ≤ s.size ∧ cut s a b = [flag g] := by
  unfold rdFlag at h
  split at h
  · cases h
  · rename_i x hx
    split at h
    · rename_i hb
      simp only [Option.some.injEq, Prod.mk.injEq] at h
      obtain ⟨rfl, rfl⟩ := h
      obtain ⟨ha, hxe⟩ := List.getElem?_eq_some_iff.1 hx
      have hs : (by_ s).length = s.size := Words.size_list s
      refine ⟨rfl, by omega, ?_⟩
      unfold cut
      rw [show a + 1 - a = 1 by omega, List.drop_eq_getElem_cons ha, hxe]
      simp only [List.take_succ_cons, List.take_zero, List.cons.injEq, and_true]
      refine Words.byte_ext ?_
      rcases (show x.toNat = 0 ∨ x.toNat = 1 by omega) with e | e <;> rw [e] <;> rfl
    · cases h
theorem rdOne_cut {s : ByteArray} {a b : Nat} {c : ChangeL} (h : rdOne s a = some (c, b)) : a < b ∧ b ≤ s.size ∧ cut s a b = one c := by
  unfold rdOne at h
  split at h
  · cases h
  · rename_i k a1 h1
    split at h
    · cases h
    · rename_i g a2 h2
      split at h
      · cases h
      · rename_i v a3 h3
        simp only [Option.some.injEq, Prod.mk.injEq] at h
        obtain ⟨rfl, rfl⟩ := h
        obtain ⟨p1, p2, p3, _⟩ := rdShort_cut h1
        obtain ⟨q1, q2, q3⟩ := rdFlag_cut h2
        obtain ⟨r1, r2, r3, _⟩ := rdShort_cut h3
        refine ⟨by omega, r2, ?_⟩
        rw [cut_app s (b := a1) (by omega) (by omega), cut_app s (a := a1) (b := a2) (by omega) (by omega), p3, q3, r3]
        rfl
theorem rdMany_cut {s : ByteArray} : ∀ (n a b : Nat) (l : List ChangeL), a ≤ s.size → rdMany s n a = some (l, b) → a + n ≤ b ∧ b ≤ s.size ∧ cut s a b = many l ∧ l.length = n
  | 0, a, b, l, ha, h => by
    simp only [rdMany, Option.some.injEq, Prod.mk.injEq] at h
    obtain ⟨rfl, rfl⟩ := h
    exact ⟨Nat.le_refl _, ha, cut_self s a, rfl⟩
  | n + 1, a, b, l, ha, h => by
    rw [rdMany] at h
    split at h
    · cases h
    · rename_i c a1 h1
      split at h
      · cases h
      · rename_i m a2 h2
        simp only [Option.some.injEq, Prod.mk.injEq] at h
        obtain ⟨rfl, rfl⟩ := h
        obtain ⟨p1, p2, p3⟩ := rdOne_cut h1
        obtain ⟨q1, q2, q3, q4⟩ := rdMany_cut n a1 a2 m p2 h2
        refine ⟨by omega, q2, ?_, by rw [List.length_cons, q4]⟩
        rw [cut_app s (b := a1) (by omega) (by omega), p3, q3]
        rfl

theorem rd_at {s : ByteArray} {n : Nat} {p r : List UInt8} (hn : n ≤ 1000000000) (h : by_ s = p ++ (Words.var n ++ r)) : Words.rd (by_ s) p.length = some (n, (p ++ Words.var n).length) := by
  rw [h, Words.rd_back n hn, List.length_append]
theorem rdShort_at {s x : ByteArray} {p r : List UInt8} (hn : x.size ≤ 20000) (h : by_ s = p ++ (short x ++ r)) : rdShort s p.length = some (x, (p ++ short x).length) := by
  have h' : by_ s = p ++ (Words.var x.size ++ (by_ x ++ r)) := by rw [h, short, List.append_assoc]
  have hl : (by_ s).length = s.size := Words.size_list s
  have hx : (by_ x).length = x.size := Words.size_list x
  unfold rdShort
  rw [rd_at (by omega) h']
  have hle : (p ++ Words.var x.size).length + x.size ≤ s.size := by
    rw [← hl, h']
    simp only [List.length_append, hx]
    omega
  simp only
  rw [if_pos ⟨hn, hle⟩]
  have e1 : s.extract (p ++ Words.var x.size).length ((p ++ Words.var x.size).length + x.size) = x := by
    refine by_inj ?_
    unfold by_ at *
    rw [Words.extract_list, h', ← List.append_assoc, List.drop_left, show (p ++ Words.var x.size).length + x.size - (p ++ Words.var x.size).length = x.data.toList.length by omega, List.take_left]
  rw [e1]
  congr 2
  unfold short
  simp only [List.length_append, hx]
  omega
theorem rdFlag_at {s : ByteArray} {g : Bool} {p r : List UInt8} (h : by_ s = p ++ (flag g :: r)) : rdFlag s p.length = some (g, (p ++ [flag g]).length) := by
  unfold rdFlag
  rw [h, List.getElem?_append_right (Nat.le_refl _), Nat.sub_self]
  cases g <;> simp [flag]
def small (c : ChangeL) : Prop := c.key.size ≤ 20000 ∧ c.value.size ≤ 20000
theorem rdOne_at {s : ByteArray} {c : ChangeL} {p r : List UInt8} (hc : small c) (h : by_ s = p ++ (one c ++ r)) : rdOne s p.length = some (c, (p ++ one c).length) := by
  have e1 : by_ s = p ++ (short c.key ++ (flag c.gone :: (short c.value ++ r))) := by rw [h, one]; simp
  have e2 : by_ s = (p ++ short c.key) ++ (flag c.gone :: (short c.value ++ r)) := by rw [e1]; simp
  have e3 : by_ s = ((p ++ short c.key) ++ [flag c.gone]) ++ (short c.value ++ r) := by rw [e1]; simp
  unfold rdOne
  rw [rdShort_at hc.1 e1]
  simp only
  rw [rdFlag_at e2]
  simp only
  rw [rdShort_at hc.2 e3]
  simp [one]
theorem rdMany_at {s : ByteArray} : ∀ (l : List ChangeL) (p r : List UInt8), (∀ c ∈ l, small c) → by_ s = p ++ (many l ++ r) → rdMany s l.length p.length = some (l, (p ++ many l).length)
  | [], p, r, _, h => by simp [rdMany, many]
  | c :: l, p, r, hs, h => by
    have e1 : by_ s = p ++ (one c ++ (many l ++ r)) := by rw [h, many]; simp
    have e2 : by_ s = (p ++ one c) ++ (many l ++ r) := by rw [e1]; simp
    rw [List.length_cons, rdMany, rdOne_at (hs c List.mem_cons_self) e1]
    simp only
    rw [rdMany_at l (p ++ one c) r (fun x hx => hs x (List.mem_cons_of_mem _ hx)) e2]
    simp [many]
/-- The batch that a text is the text of. -/
def Got (s : ByteArray) (st : Nat) (l : List ChangeL) : Prop := by_ s = text st l ∧ ok (st : Int) l
theorem ok_small {st : Int} {l : List ChangeL} (h : ok st l) : ∀ c ∈ l, small c := by
  intro c hc
  obtain ⟨j, hj, rfl⟩ := List.mem_iff_getElem.1 hc
  obtain ⟨_, h1, _⟩ := h.2.2 j hj
  exact ⟨by have := h1.2.1; omega, by have := h1.2.2.1; omega⟩
/-- What the reading of a right batch's text comes to. -/
theorem got_read {s : ByteArray} {st : Nat} {l : List ChangeL} (h : Got s st l) :
    ∃ a b, Words.rd (by_ s) 0 = some (st, a) ∧ Words.rd (by_ s) a = some (l.length, b) ∧ rdMany s l.length b = some (l, s.size) := by
  obtain ⟨h1, h2⟩ := h
  have hl : (by_ s).length = s.size := Words.size_list s
  have e1 : by_ s = [] ++ (Words.var st ++ (Words.var l.length ++ many l)) := h1
  have e2 : by_ s = ([] ++ Words.var st) ++ (Words.var l.length ++ many l) := h1
  have e3 : by_ s = (([] ++ Words.var st) ++ Words.var l.length) ++ (many l ++ []) := by rw [h1, text]; simp
  have o1 := h2.1.2
  have o2 := h2.2.1
  refine ⟨_, _, rd_at (by omega) e1, rd_at (by omega) e2, ?_⟩
  rw [rdMany_at l _ [] (ok_small h2) e3, ← hl, e3]
  simp
theorem read_got {s : ByteArray} {st a n b : Nat} {l : List ChangeL} (h1 : Words.rd (by_ s) 0 = some (st, a)) (h2 : Words.rd (by_ s) a = some (n, b)) (h3 : rdMany s n b = some (l, s.size)) (ho : ok (st : Int) l) : Got s st l := by
  refine ⟨?_, ho⟩
  obtain ⟨p1, p2, p3, _⟩ := rd_cut h1
  obtain ⟨q1, q2, q3, _⟩ := rd_cut h2
  obtain ⟨r1, r2, r3, r4⟩ := rdMany_cut n b _ l q2 h3
  rw [← cut_all s, cut_app s (b := a) (by omega) (by omega), cut_app s (a := a) (b := b) (by omega) (by omega), p3, q3, r3, text, r4]
theorem text_inj {st st' : Nat} {l l' : List ChangeL} (h : text st l = text st' l') (h1 : ok (st : Int) l) (h2 : ok (st' : Int) l') : st = st' ∧ l = l' := by
  obtain ⟨a, b, e1, e2, e3⟩ := got_read (s := ⟨(text st l).toArray⟩) ⟨by simp, h1⟩
  obtain ⟨a', b', f1, f2, f3⟩ := got_read (s := ⟨(text st l).toArray⟩) (st := st') (l := l') ⟨by simpa using h, h2⟩
  rw [e1] at f1
  simp only [Option.some.injEq, Prod.mk.injEq] at f1
  obtain ⟨rfl, rfl⟩ := f1
  rw [e2] at f2
  simp only [Option.some.injEq, Prod.mk.injEq] at f2
  obtain ⟨f4, rfl⟩ := f2
  rw [f4] at e3
  rw [e3] at f3
  simp only [Option.some.injEq, Prod.mk.injEq] at f3
  exact ⟨rfl, f3.1⟩
end Batches
end Go.Proofs.Ytddmogggdckneaa
