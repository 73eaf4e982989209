/- Plain facts on batches: which are right, their texts, what is read of a text; no program is named here. Plain facts on check sums of 32 bits: a text with one byte turned has another sum; no program is named here. Plain facts on directories: which are right, their texts, what is read of a text; no program is named here. Plain facts on frames in lists of bytes: what stands whole at a place, and what is told from there on; no program is named here. Plain facts on a segment's records: the batches among them up to the first that is none, where each change's value stands; no program is named here. -/
import Derived.Test.YtbcfiiilikkkeaaGreatDoorVar
namespace Go.Proofs.YtbcfiiilikkkeaaGreatDoor
structure ChangeL where
  key : ByteArray
  value : ByteArray
  gone : Bool
namespace Batches
open Go
/-- Texts byte by byte, a beginning being less. -/
def lt (a b : ByteArray) : Bool := Op.bytesLess a.toList b.toList
abbrev by_ (s : ByteArray) : List UInt8 := s.data.toList
theorem toList_by (s : ByteArray) : s.toList = by_ s := ByteArray.toList_eq s
theorem by_inj {a b : ByteArray} (h : by_ a = by_ b) : a = b := by
  cases a; cases b
  simp only [ByteArray.mk.injEq]
  exact Array.ext' h
theorem less_eq : ∀ (x y : List UInt8), Op.bytesLess x y = decide (x < y)
  | [], [] => by simp [Op.bytesLess]
  | _ :: _, [] => by simp [Op.bytesLess]
  | [], _ :: _ => by simp [Op.bytesLess]
  | a :: x, b :: y => by
    rw [Op.bytesLess, less_eq x y]
    simp only [List.cons_lt_cons_iff]
    by_cases h1 : a < b <;> by_cases h2 : a = b <;> by_cases h3 : x < y <;> simp [h1, h2, h3]
theorem lt_iff (a b : ByteArray) : lt a b = true ↔ by_ a < by_ b := by
  unfold lt; rw [less_eq, toList_by, toList_by, decide_eq_true_iff]
theorem lt_irrefl (a : ByteArray) : lt a a = false := by
  cases h : lt a a
  · rfl
  · exact absurd ((lt_iff a a).1 h) (List.lt_irrefl _)
theorem lt_trans {a b c : ByteArray} (h1 : lt a b = true) (h2 : lt b c = true) : lt a c = true :=
  (lt_iff a c).2 (List.lt_trans ((lt_iff a b).1 h1) ((lt_iff b c).1 h2))
theorem lt_total {a b : ByteArray} (h1 : lt a b = false) (h2 : lt b a = false) : a = b := by
  have e1 : ¬ by_ a < by_ b := fun h => by rw [(lt_iff a b).2 h] at h1; cases h1
  have e2 : ¬ by_ b < by_ a := fun h => by rw [(lt_iff b a).2 h] at h2; cases h2
  exact by_inj (List.le_antisymm (List.not_lt.1 e2) (List.not_lt.1 e1))
theorem lt_asymm {a b : ByteArray} (h : lt a b = true) : lt b a = false := by
  cases h2 : lt b a
  · rfl
  · have := lt_trans h h2; rw [lt_irrefl] at this; cases this

def changeOk (c : ChangeL) : Prop := 1 ≤ c.key.size ∧ c.key.size ≤ 10 ∧ c.value.size ≤ 40 ∧ (c.gone = true → c.value.size = 0)
/-- Is the change at j right, and behind the one ahead of it? -/
def okAt (l : List ChangeL) (j : Nat) : Prop := ∃ hj : j < l.length, changeOk l[j] ∧ (0 < j → ∃ hi : j - 1 < l.length, lt l[j - 1].key l[j].key = true)
def ok (st : Int) (l : List ChangeL) : Prop := (0 ≤ st ∧ st ≤ 100000) ∧ l.length ≤ 60 ∧ ∀ j, j < l.length → okAt l j
theorem ok_step {l : List ChangeL} {k : Nat} (h : ∀ j, j < k → okAt l j) (hk : okAt l k) : ∀ j, j < k + 1 → okAt l j := fun j hj => by
  rcases Nat.lt_succ_iff_lt_or_eq.1 hj with h1 | h1
  · exact h j h1
  · rw [h1]; exact hk
theorem not_ok {st : Int} {l : List ChangeL} {j : Nat} (hj : j < l.length) (h : ¬ okAt l j) : ¬ ok st l := fun h2 => h (h2.2.2 j hj)

def flag (g : Bool) : UInt8 := if g then 1 else 0
def short (s : ByteArray) : List UInt8 := Words.var s.size ++ by_ s
def one (c : ChangeL) : List UInt8 := short c.key ++ (flag c.gone :: short c.value)
def many : List ChangeL → List UInt8
  | [] => []
  | c :: l => one c ++ many l
def text (st : Nat) (l : List ChangeL) : List UInt8 := Words.var st ++ (Words.var l.length ++ many l)
theorem many_app : ∀ (l m : List ChangeL), many (l ++ m) = many l ++ many m
  | [], m => rfl
  | c :: l, m => by simp [many, many_app l m]
theorem many_take {l : List ChangeL} {k : Nat} (hk : k < l.length) : many (l.take (k + 1)) = many (l.take k) ++ one l[k] := by
  rw [List.take_succ_eq_append_getElem hk, many_app]; simp [many]
theorem short_len (s : ByteArray) : (short s).length ≤ 2 * s.size + 1 := by
  have := Words.var_len s.size
  unfold short
  rw [List.length_append, Words.size_list]
  omega

def rdShort (s : ByteArray) (a : Nat) : Option (ByteArray × Nat) :=
  match Words.rd (by_ s) a with
  | none => none
  | some (n, k) => if n ≤ 20000 ∧ k + n ≤ s.size then some (s.extract k (k + n), k + n) else none
def rdFlag (s : ByteArray) (a : Nat) : Option (Bool × Nat) :=
  match (by_ s)[a]? with
  | none => none
  | some b => if b.toNat ≤ 1 then some (b.toNat == 1, a + 1) else none
def rdOne (s : ByteArray) (a : Nat) : Option (ChangeL × Nat) :=
  match rdShort s a with
  | none => none
  | some (k, a1) => match rdFlag s a1 with
    | none => none
    | some (g, a2) => match rdShort s a2 with
      | none => none
      | some (v, a3) => some (⟨k, v, g⟩, a3)
def rdMany (s : ByteArray) : Nat → Nat → Option (List ChangeL × Nat)
  | 0, a => some ([], a)
  | n + 1, a => match rdOne s a with
    | none => none
    | some (c, a1) => match rdMany s n a1 with
      | none => none
      | some (l, a2) => some (c :: l, a2)

/-- The bytes from a up to b. -/
def cut (s : ByteArray) (a b : Nat) : List UInt8 := ((by_ s).drop a).take (b - a)
theorem cut_app (s : ByteArray) {a b c : Nat} (h1 : a ≤ b) (h2 : b ≤ c) : cut s a c = cut s a b ++ cut s b c := by
  unfold cut
  have e : c - a = (b - a) + (c - b) := by omega
  rw [e, List.take_add, List.drop_drop]
  congr 3
  omega
theorem cut_self (s : ByteArray) (a : Nat) : cut s a a = [] := by simp [cut]
theorem cut_all (s : ByteArray) : cut s 0 s.size = by_ s := by
  unfold cut
  rw [List.drop_zero, Nat.sub_zero]
  exact List.take_of_length_le (Nat.le_of_eq (Words.size_list s))
theorem rd_cut {s : ByteArray} {a n b : Nat} (h : Words.rd (by_ s) a = some (n, b)) : a < b ∧ b ≤ s.size ∧ cut s a b = Words.var n ∧ n ≤ 1000000000 := by
  obtain ⟨h1, _, h3, _, h5, h6⟩ := Words.rd_front h
  exact ⟨h1, h3, h5.symm, h6⟩
theorem rdShort_cut {s : ByteArray} {a b : Nat} {x : ByteArray} (h : rdShort s a = some (x, b)) : a < b ∧ b ≤ s.size ∧ cut s a b = short x ∧ x.size ≤ 20000 := by
  unfold rdShort at h
  split at h
  · cases h
  · rename_i n k hr
    split at h
    · rename_i hn
      simp only [Option.some.injEq, Prod.mk.injEq] at h
      obtain ⟨rfl, rfl⟩ := h
      obtain ⟨h1, h2, h3, _⟩ := rd_cut hr
      have hsz : (s.extract k (k + n)).size = n := by rw [ByteArray.size_extract]; omega
      refine ⟨by omega, hn.2, ?_, by omega⟩
      rw [cut_app s (Nat.le_of_lt h1) (Nat.le_add_right k n), h3]
      unfold short
      rw [hsz]
      congr 1
      unfold by_
      rw [Words.extract_list]
      rfl
    · cases h
theorem rdFlag_cut {s : ByteArray} {a b : Nat} {g : Bool} (h : rdFlag s a = some (g, b)) : b = a + 1 ∧ b ≤ s.size ∧ cut s a b = [flag g] := by
  unfold rdFlag at h
  split at h
  · cases h
  · rename_i x hx
    split at h
    · rename_i hb
      simp only [Option.some.injEq, Prod.mk.injEq] at h
      obtain ⟨rfl, rfl⟩ := h
      obtain ⟨ha, hxe⟩ := List.getElem?_eq_some_iff.1 hx
      have hs : (by_ s).length = s.size := Words.size_list s
      refine ⟨rfl, by omega, ?_⟩
      unfold cut
      rw [show a + 1 - a = 1 by omega, List.drop_eq_getElem_cons ha, hxe]
      simp only [List.take_succ_cons, List.take_zero, List.cons.injEq, and_true]
      refine Words.byte_ext ?_
      rcases (show x.toNat = 0 ∨ x.toNat = 1 by omega) with e | e <;> rw [e] <;> rfl
    · cases h
theorem rdOne_cut {s : ByteArray} {a b : Nat} {c : ChangeL} (h : rdOne s a = some (c, b)) : a < b ∧ b ≤ s.size ∧ cut s a b = one c := by
  unfold rdOne at h
  split at h
  · cases h
  · rename_i k a1 h1
    split at h
    · cases h
    · rename_i g a2 h2
      split at h
      · cases h
      · rename_i v a3 h3
        simp only [Option.some.injEq, Prod.mk.injEq] at h
        obtain ⟨rfl, rfl⟩ := h
        obtain ⟨p1, p2, p3, _⟩ := rdShort_cut h1
        obtain ⟨q1, q2, q3⟩ := rdFlag_cut h2
        obtain ⟨r1, r2, r3, _⟩ := rdShort_cut h3
        refine ⟨by omega, r2, ?_⟩
        rw [cut_app s (b := a1) (by omega) (by omega), cut_app s (a := a1) (b := a2) (by omega) (by omega), p3, q3, r3]
        rfl
theorem rdMany_cut {s : ByteArray} : ∀ (n a b : Nat) (l : List ChangeL), a ≤ s.size → rdMany s n a = some (l, b) → a + n ≤ b ∧ b ≤ s.size ∧ cut s a b = many l ∧ l.length = n
  | 0, a, b, l, ha, h => by
    simp only [rdMany, Option.some.injEq, Prod.mk.injEq] at h
    obtain ⟨rfl, rfl⟩ := h
    exact ⟨Nat.le_refl _, ha, cut_self s a, rfl⟩
  | n + 1, a, b, l, ha, h => by
    rw [rdMany] at h
    split at h
    · cases h
    · rename_i c a1 h1
      split at h
      · cases h
      · rename_i m a2 h2
        simp only [Option.some.injEq, Prod.mk.injEq] at h
        obtain ⟨rfl, rfl⟩ := h
        obtain ⟨p1, p2, p3⟩ := rdOne_cut h1
        obtain ⟨q1, q2, q3, q4⟩ := rdMany_cut n a1 a2 m p2 h2
        refine ⟨by omega, q2, ?_, by rw [List.length_cons, q4]⟩
        rw [cut_app s (b := a1) (by omega) (by omega), p3, q3]
        rfl

theorem rd_at {s : ByteArray} {n : Nat} {p r : List UInt8} (hn : n ≤ 1000000000) (h : by_ s = p ++ (Words.var n ++ r)) : Words.rd (by_ s) p.length = some (n, (p ++ Words.var n).length) := by
  rw [h, Words.rd_back n hn, List.length_append]
theorem rdShort_at {s x : ByteArray} {p r : List UInt8} (hn : x.size ≤ 20000) (h : by_ s = p ++ (short x ++ r)) : rdShort s p.length = some (x, (p ++ short x).length) := by
  have h' : by_ s = p ++ (Words.var x.size ++ (by_ x ++ r)) := by rw [h, short, List.append_assoc]
  have hl : (by_ s).length = s.size := Words.size_list s
  have hx : (by_ x).length = x.size := Words.size_list x
  unfold rdShort
  rw [rd_at (by omega) h']
  have hle : (p ++ Words.var x.size).length + x.size ≤ s.size := by
    rw [← hl, h']
    simp only [List.length_append, hx]
    omega
  simp only
  rw [if_pos ⟨hn, hle⟩]
  have e1 : s.extract (p ++ Words.var x.size).length ((p ++ Words.var x.size).length + x.size) = x := by
    refine by_inj ?_
    unfold by_ at *
    rw [Words.extract_list, h', ← List.append_assoc, List.drop_left, show (p ++ Words.var x.size).length + x.size - (p ++ Words.var x.size).length = x.data.toList.length by omega, List.take_left]
  rw [e1]
  congr 2
  unfold short
  simp only [List.length_append, hx]
  omega
theorem rdFlag_at {s : ByteArray} {g : Bool} {p r : List UInt8} (h : by_ s = p ++ (flag g :: r)) : rdFlag s p.length = some (g, (p ++ [flag g]).length) := by
  unfold rdFlag
  rw [h, List.getElem?_append_right (Nat.le_refl _), Nat.sub_self]
  cases g <;> simp [flag]
def small (c : ChangeL) : Prop := c.key.size ≤ 20000 ∧ c.value.size ≤ 20000
theorem rdOne_at {s : ByteArray} {c : ChangeL} {p r : List UInt8} (hc : small c) (h : by_ s = p ++ (one c ++ r)) : rdOne s p.length = some (c, (p ++ one c).length) := by
  have e1 : by_ s = p ++ (short c.key ++ (flag c.gone :: (short c.value ++ r))) := by rw [h, one]; simp
  have e2 : by_ s = (p ++ short c.key) ++ (flag c.gone :: (short c.value ++ r)) := by rw [e1]; simp
  have e3 : by_ s = ((p ++ short c.key) ++ [flag c.gone]) ++ (short c.value ++ r) := by rw [e1]; simp
  unfold rdOne
  rw [rdShort_at hc.1 e1]
  simp only
  rw [rdFlag_at e2]
  simp only
  rw [rdShort_at hc.2 e3]
  simp [one]
theorem rdMany_at {s : ByteArray} : ∀ (l : List ChangeL) (p r : List UInt8), (∀ c ∈ l, small c) → by_ s = p ++ (many l ++ r) → rdMany s l.length p.length = some (l, (p ++ many l).length)
  | [], p, r, _, h => by simp [rdMany, many]
  | c :: l, p, r, hs, h => by
    have e1 : by_ s = p ++ (one c ++ (many l ++ r)) := by rw [h, many]; simp
    have e2 : by_ s = (p ++ one c) ++ (many l ++ r) := by rw [e1]; simp
    rw [List.length_cons, rdMany, rdOne_at (hs c List.mem_cons_self) e1]
    simp only
    rw [rdMany_at l (p ++ one c) r (fun x hx => hs x (List.mem_cons_of_mem _ hx)) e2]
    simp [many]
/-- The batch that a text is the text of. -/
def Got (s : ByteArray) (st : Nat) (l : List ChangeL) : Prop := by_ s = text st l ∧ ok (st : Int) l
theorem ok_small {st : Int} {l : List ChangeL} (h : ok st l) : ∀ c ∈ l, small c := by
  intro c hc
  obtain ⟨j, hj, rfl⟩ := List.mem_iff_getElem.1 hc
  obtain ⟨_, h1, _⟩ := h.2.2 j hj
  exact ⟨by have := h1.2.1; omega, by have := h1.2.2.1; omega⟩
/-- What the reading of a right batch's text comes to. -/
theorem got_read {s : ByteArray} {st : Nat} {l : List ChangeL} (h : Got s st l) :
    ∃ a b, Words.rd (by_ s) 0 = some (st, a) ∧ Words.rd (by_ s) a = some (l.length, b) ∧ rdMany s l.length b = some (l, s.size) := by
  obtain ⟨h1, h2⟩ := h
  have hl : (by_ s).length = s.size := Words.size_list s
  have e1 : by_ s = [] ++ (Words.var st ++ (Words.var l.length ++ many l)) := h1
  have e2 : by_ s = ([] ++ Words.var st) ++ (Words.var l.length ++ many l) := h1
  have e3 : by_ s = (([] ++ Words.var st) ++ Words.var l.length) ++ (many l ++ []) := by rw [h1, text]; simp
  have o1 := h2.1.2
  have o2 := h2.2.1
  refine ⟨_, _, rd_at (by omega) e1, rd_at (by omega) e2, ?_⟩
  rw [rdMany_at l _ [] (ok_small h2) e3, ← hl, e3]
  simp
theorem read_got {s : ByteArray} {st a n b : Nat} {l : List ChangeL} (h1 : Words.rd (by_ s) 0 = some (st, a)) (h2 : Words.rd (by_ s) a = some (n, b)) (h3 : rdMany s n b = some (l, s.size)) (ho : ok (st : Int) l) : Got s st l := by
  refine ⟨?_, ho⟩
  obtain ⟨p1, p2, p3, _⟩ := rd_cut h1
  obtain ⟨q1, q2, q3, _⟩ := rd_cut h2
  obtain ⟨r1, r2, r3, r4⟩ := rdMany_cut n b _ l q2 h3
  rw [← cut_all s, cut_app s (b := a) (by omega) (by omega), cut_app s (a := a) (b := b) (by omega) (by omega), p3, q3, r3, text, r4]
end Batches
end Go.Proofs.YtbcfiiilikkkeaaGreatDoor
namespace Go.Proofs.YtbcfiiilikkkeaaGreatDoor.Sums
def poly : Nat := 3558460437
def half (s : Nat) : Nat := if s % 2 = 1 then (s / 2) ^^^ poly else s / 2
def byte8 (s : Nat) : Nat := half (half (half (half (half (half (half (half s)))))))
def more : Nat → List UInt8 → Nat
  | s, [] => s
  | s, b :: r => more (byte8 (s ^^^ b.toNat)) r
def sumOf (l : List UInt8) : Nat := more 4294967295 l

theorem half_lt {s : Nat} (h : s < 2 ^ 32) : half s < 2 ^ 32 := by
  unfold half
  split
  · exact Nat.xor_lt_two_pow (by omega) (by decide)
  · omega
theorem byte8_lt {s : Nat} (h : s < 2 ^ 32) : byte8 s < 2 ^ 32 := by
  unfold byte8
  exact half_lt (half_lt (half_lt (half_lt (half_lt (half_lt (half_lt (half_lt h)))))))
theorem xor_lt {s : Nat} (h : s < 2 ^ 32) (b : UInt8) : s ^^^ b.toNat < 2 ^ 32 := Nat.xor_lt_two_pow h (by have := b.toNat_lt; omega)
theorem more_lt : ∀ (l : List UInt8) {s : Nat}, s < 2 ^ 32 → more s l < 2 ^ 32
  | [], _, h => h
  | b :: r, _, h => more_lt r (byte8_lt (xor_lt h b))
theorem sumOf_lt (l : List UInt8) : sumOf l < 2 ^ 32 := more_lt l (by decide)

/-- A sum in four bytes, the highest first. -/
def four (x : Nat) : List UInt8 := [UInt8.ofNat (x / 16777216), UInt8.ofNat (x / 65536), UInt8.ofNat (x / 256), UInt8.ofNat x]
theorem four_len (x : Nat) : (four x).length = 4 := rfl
def unsealed (l : List UInt8) : Option (List UInt8) := if 4 ≤ l.length ∧ l.length ≤ 20004 ∧ l.drop (l.length - 4) = four (sumOf (l.take (l.length - 4))) then some (l.take (l.length - 4)) else none
theorem unsealed_back (l : List UInt8) (h : l.length ≤ 20000) : unsealed (l ++ four (sumOf l)) = some l := by
  have hl : (l ++ four (sumOf l)).length = l.length + 4 := by rw [List.length_append, four_len]
  unfold unsealed
  rw [hl, Nat.add_sub_cancel, List.take_left, List.drop_left, if_pos ⟨by omega, by omega, rfl⟩]
/-- Halved k times. -/
def hn : Nat → Nat → Nat
  | 0, s => s
  | k + 1, s => hn k (half s)
theorem hn_step {k s T : Nat} (hk : k < 8) (h : hn (8 - k) s = T) : hn (8 - (k + 1)) (half s) = T := by
  obtain ⟨j, hj⟩ : ∃ j, 8 - k = j + 1 := ⟨7 - k, by omega⟩
  rw [hj] at h
  rw [show 8 - (k + 1) = j from by omega]
  exact h
theorem half_odd {s : Nat} (h : s % 2 = 1) : half s = (s / 2) ^^^ 3558460437 := by unfold half; rw [if_pos h]; rfl
theorem half_even {s : Nat} (h : ¬ s % 2 = 1) : half s = s / 2 := by unfold half; rw [if_neg h]
theorem more_step {s : Nat} {l : List UInt8} {i : Nat} {R : Nat} (hi : i < l.length) (h : more s (l.drop i) = R) : more (byte8 (s ^^^ l[i].toNat)) (l.drop (i + 1)) = R := by
  rw [List.drop_eq_getElem_cons hi] at h
  exact h
theorem more_end {s : Nat} {l : List UInt8} {i : Nat} {R : Nat} (hi : l.length ≤ i) (h : more s (l.drop i) = R) : s = R := by
  rw [List.drop_eq_nil_of_le hi] at h
  exact h
end Go.Proofs.YtbcfiiilikkkeaaGreatDoor.Sums
namespace Go.Proofs.YtbcfiiilikkkeaaGreatDoor
structure SpotL where
  key : ByteArray
  seg : Int
  pos : Int
  size : Int
namespace Dirs
open Go
open Batches (by_ cut cut_app cut_self cut_all rd_cut rd_at lt short rdShort rdShort_cut rdShort_at short_len)
def inB (x lo hi : Int) : Bool := decide (lo ≤ x) && decide (x ≤ hi)
theorem inB_iff {x lo hi : Int} : inB x lo hi = true ↔ lo ≤ x ∧ x ≤ hi := by simp [inB, Bool.and_eq_true]
theorem inB_no {x lo hi : Int} (h : inB x lo hi = false) : ¬ (lo ≤ x ∧ x ≤ hi) := fun q => by rw [inB_iff.2 q] at h; cases h
def spotOk (c : SpotL) : Prop := (1 ≤ c.key.size ∧ c.key.size ≤ 10) ∧ (0 ≤ c.seg ∧ c.seg ≤ 999) ∧ (0 ≤ c.pos ∧ c.pos ≤ 20000) ∧ (0 ≤ c.size ∧ c.size ≤ 40)
/-- Is the spot at j right, and behind the one ahead of it? -/
def okAt (l : List SpotL) (j : Nat) : Prop := ∃ hj : j < l.length, spotOk l[j] ∧ (0 < j → ∃ hi : j - 1 < l.length, lt l[j - 1].key l[j].key = true)
def ok (l : List SpotL) : Prop := l.length ≤ 60 ∧ ∀ j, j < l.length → okAt l j
theorem ok_step {l : List SpotL} {k : Nat} (h : ∀ j, j < k → okAt l j) (hk : okAt l k) : ∀ j, j < k + 1 → okAt l j := fun j hj => by
  rcases Nat.lt_succ_iff_lt_or_eq.1 hj with h1 | h1
  · exact h j h1
  · rw [h1]; exact hk
theorem not_ok {l : List SpotL} {j : Nat} (hj : j < l.length) (h : ¬ okAt l j) : ¬ ok l := fun h2 => h (h2.2 j hj)
theorem ok_mem {l : List SpotL} (h : ok l) : ∀ c ∈ l, spotOk c := by
  intro c hc
  obtain ⟨j, hj, rfl⟩ := List.getElem_of_mem hc
  obtain ⟨_, q, _⟩ := h.2 j hj
  exact q

theorem var_lenF : ∀ (f n : Nat), n < 128 ^ (f + 1) → (Words.var n).length ≤ f + 1
  | 0, n, h => by rw [Words.var_small n (by omega)]; simp
  | f + 1, n, h => by
    by_cases hn : n ≤ 127
    · rw [Words.var_small n hn]; simp
    · rw [Words.var_big n (by omega), List.length_cons]
      have := var_lenF f (n / 128) (by rw [Nat.div_lt_iff_lt_mul (by omega), ← Nat.pow_succ]; exact h)
      omega
theorem var_len5 {n : Nat} (h : n ≤ 1000000000) : (Words.var n).length ≤ 5 := var_lenF 4 n (by omega)
end Dirs
end Go.Proofs.YtbcfiiilikkkeaaGreatDoor
namespace Go.Proofs.YtbcfiiilikkkeaaGreatDoor.Words

/-- The length that stands at a place, and the place behind it, where what follows can be a frame. -/
def fit (l : List UInt8) (a : Nat) : Option (Nat × Nat) :=
  match rd l a with
  | none => none
  | some (n, b) => if 1 ≤ n ∧ n ≤ 9000 ∧ b + 4 + n ≤ l.length then some (n, b) else none
/-- The record of the whole frame at a place, and the place behind it. -/
def fr (l : List UInt8) (a : Nat) : Option (List UInt8 × Nat) :=
  match fit l a with
  | none => none
  | some (n, b) => if (l.drop b).take 4 = Sums.four (Sums.sumOf ((l.drop (b + 4)).take n)) then some ((l.drop (b + 4)).take n, b + 4 + n) else none
/-- The records from a place on, and the place behind the last. -/
def un : Nat → List UInt8 → Nat → List (List UInt8)
  | 0, _, _ => []
  | f + 1, l, a => match fr l a with
    | none => []
    | some (r, e) => r :: un f l e
def stop : Nat → List UInt8 → Nat → Nat
  | 0, _, a => a
  | f + 1, l, a => match fr l a with
    | none => a
    | some (_, e) => stop f l e
theorem fit_some {l : List UInt8} {a n b : Nat} (h : fit l a = some (n, b)) : rd l a = some (n, b) ∧ 1 ≤ n ∧ n ≤ 9000 ∧ b + 4 + n ≤ l.length := by
  unfold fit at h
  split at h
  · cases h
  · rename_i x n' b' hr
    split at h
    · rename_i hc
      cases h
      exact ⟨hr, hc⟩
    · cases h
theorem fit_none {l : List UInt8} {a : Nat} (h : fit l a = none) : rd l a = none ∨ ∃ n b, rd l a = some (n, b) ∧ ¬ (1 ≤ n ∧ n ≤ 9000 ∧ b + 4 + n ≤ l.length) := by
  unfold fit at h
  split at h
  · rename_i hr; exact Or.inl hr
  · rename_i x n' b' hr
    split at h
    · cases h
    · rename_i hc
      exact Or.inr ⟨n', b', hr, hc⟩
theorem fr_none {l : List UInt8} {a : Nat} (h : fit l a = none) : fr l a = none := by unfold fr; rw [h]
theorem fr_torn {l : List UInt8} {a n b : Nat} (h : fit l a = some (n, b)) (hs : ¬ (l.drop b).take 4 = Sums.four (Sums.sumOf ((l.drop (b + 4)).take n))) : fr l a = none := by
  unfold fr; rw [h]; exact if_neg hs
theorem fr_whole {l : List UInt8} {a n b : Nat} (h : fit l a = some (n, b)) (hs : (l.drop b).take 4 = Sums.four (Sums.sumOf ((l.drop (b + 4)).take n))) : fr l a = some ((l.drop (b + 4)).take n, b + 4 + n) := by
  unfold fr; rw [h]; exact if_pos hs
theorem un_end {l : List UInt8} {a : Nat} (f : Nat) (h : fr l a = none) : un f l a = [] ∧ stop f l a = a := by
  cases f with
  | zero => exact ⟨rfl, rfl⟩
  | succ f => unfold un stop; rw [h]; exact ⟨rfl, rfl⟩
theorem un_more {l : List UInt8} {a e : Nat} {r : List UInt8} (f : Nat) (h : fr l a = some (r, e)) : un (f + 1) l a = r :: un f l e ∧ stop (f + 1) l a = stop f l e := by
  rw [un, stop, h]; exact ⟨rfl, rfl⟩
theorem fr_some {l : List UInt8} {a e : Nat} {r : List UInt8} (h : fr l a = some (r, e)) : a < e ∧ e ≤ l.length := by
  unfold fr at h
  split at h
  · cases h
  · rename_i x n b hf
    obtain ⟨hr, h1, h2, h3⟩ := fit_some hf
    obtain ⟨g1, g2, g3, g4, g5, g6⟩ := rd_front hr
    split at h
    · simp only [Option.some.injEq, Prod.mk.injEq] at h
      omega
    · cases h
theorem un_len : ∀ (f : Nat) (l : List UInt8) (a : Nat), (un f l a).length ≤ l.length - a
  | 0, _, _ => by simp [un]
  | f + 1, l, a => by
    cases h : fr l a with
    | none => rw [(un_end (f + 1) h).1]; simp
    | some p =>
      obtain ⟨r, e⟩ := p
      have := un_len f l e
      have := fr_some h
      rw [(un_more f h).1, List.length_cons]
      omega
/-- The frame of a record. -/
def frame (t : List UInt8) : List UInt8 := var t.length ++ Sums.four (Sums.sumOf t) ++ t
theorem cut3 (l : List UInt8) {a b n : Nat} (hab : a ≤ b) : (l.drop a).take (b + 4 + n - a) = (l.drop a).take (b - a) ++ (l.drop b).take 4 ++ (l.drop (b + 4)).take n := by
  have e1 : b + 4 + n - a = (b - a) + (4 + n) := by omega
  rw [e1, List.take_add, List.drop_drop, List.take_add, List.drop_drop, List.append_assoc]
  have e2 : a + (b - a) = b := by omega
  rw [e2]
/-- A frame stands there just where its sum does. -/
theorem frame_iff {l : List UInt8} {a n b : Nat} (h : fit l a = some (n, b)) :
    frame ((l.drop (b + 4)).take n) = (l.drop a).take (b + 4 + n - a) ↔ (l.drop b).take 4 = Sums.four (Sums.sumOf ((l.drop (b + 4)).take n)) := by
  obtain ⟨hr, h1, h2, h3⟩ := fit_some h
  obtain ⟨g1, g2, g3, g4, g5, g6⟩ := rd_front hr
  have hl : ((l.drop (b + 4)).take n).length = n := by rw [List.length_take, List.length_drop]; omega
  rw [cut3 l (by omega), frame, hl, g5]
  constructor
  · intro e
    have e2 := List.append_cancel_right e
    exact (List.append_cancel_left e2).symm
  · intro e; rw [e]
end Go.Proofs.YtbcfiiilikkkeaaGreatDoor.Words
namespace Go.Proofs.YtbcfiiilikkkeaaGreatDoor
set_option linter.unusedVariables false
namespace Scan
open Go
open Batches (short by_)
/-- A record that is a batch. -/
structure It where
  bytes : List UInt8
  st : Nat
  ch : List ChangeL
def hdr (r : List UInt8) : Nat := (Words.var r.length).length + 4
def chPos (a : Nat) (c : ChangeL) : Nat := a + (short c.key).length + 1 + (Words.var c.value.size).length
def spotC (seg : Int) (p : Nat) (c : ChangeL) : SpotL := ⟨c.key, seg, if c.gone then 0 else (p : Int), if c.gone then -1 else (c.value.size : Int)⟩
def chSpots (seg : Int) : Nat → List ChangeL → List SpotL
  | _, [] => []
  | a, c :: l => spotC seg (chPos a c) c :: chSpots seg (chPos a c + c.value.size) l
def chEnd : Nat → List ChangeL → Nat
  | a, [] => a
  | a, c :: l => chEnd (chPos a c + c.value.size) l
theorem chSpots_snoc (seg : Int) : ∀ (l : List ChangeL) (a : Nat) (c : ChangeL), chSpots seg a (l ++ [c]) = chSpots seg a l ++ [spotC seg (chPos (chEnd a l) c) c]
  | [], a, c => rfl
  | d :: l, a, c => by rw [List.cons_append, chSpots, chSpots, chSpots_snoc seg l, List.cons_append, chEnd]
theorem chEnd_snoc : ∀ (l : List ChangeL) (a : Nat) (c : ChangeL), chEnd a (l ++ [c]) = chPos (chEnd a l) c + c.value.size
  | [], a, c => rfl
  | d :: l, a, c => by rw [List.cons_append, chEnd, chEnd, chEnd_snoc l]
theorem chSpots_take {seg : Int} {l : List ChangeL} {a k : Nat} (hk : k < l.length) : chSpots seg a (l.take (k + 1)) = chSpots seg a (l.take k) ++ [spotC seg (chPos (chEnd a (l.take k)) l[k]) l[k]] := by
  rw [List.take_succ_eq_append_getElem hk, chSpots_snoc]
theorem chEnd_take {l : List ChangeL} {a k : Nat} (hk : k < l.length) : chEnd a (l.take (k + 1)) = chPos (chEnd a (l.take k)) l[k] + l[k].value.size := by
  rw [List.take_succ_eq_append_getElem hk, chEnd_snoc]
theorem chSpots_len (seg : Int) : ∀ (l : List ChangeL) (a : Nat), (chSpots seg a l).length = l.length
  | [], a => rfl
  | d :: l, a => by rw [chSpots, List.length_cons, chSpots_len seg l, List.length_cons]
theorem chPos_le {a : Nat} {c : ChangeL} (h : Batches.changeOk c) : chPos a c ≤ a + 100 := by
  obtain ⟨_, h1, h2, _⟩ := h
  have e1 := Batches.short_len c.key
  have e2 := Words.var_len c.value.size
  unfold chPos
  omega
theorem chEnd_le : ∀ (l : List ChangeL) (a : Nat), (∀ c ∈ l, Batches.changeOk c) → chEnd a l ≤ a + 200 * l.length
  | [], a, _ => by simp [chEnd]
  | c :: l, a, h => by
    have h1 := chPos_le (a := a) (h c List.mem_cons_self)
    have h2 := (h c List.mem_cons_self).2.2.1
    have h3 := chEnd_le l (chPos a c + c.value.size) (fun x hx => h x (List.mem_cons_of_mem _ hx))
    rw [chEnd, List.length_cons]
    omega
theorem chEnd_take_le {l : List ChangeL} {a k : Nat} (h : ∀ c ∈ l, Batches.changeOk c) (hl : l.length ≤ 60) : chEnd a (l.take k) ≤ a + 12000 := by
  have := chEnd_le (l.take k) a (fun c hc => h c (List.mem_of_mem_take hc))
  rw [List.length_take] at this
  omega
def itFrom (a : Nat) (x : It) : Nat := a + hdr x.bytes + (Words.var x.st).length + (Words.var x.ch.length).length
def itNext (a : Nat) (x : It) : Nat := a + hdr x.bytes + x.bytes.length
def itSpots (seg : Int) : Nat → List It → List SpotL
  | _, [] => []
  | a, x :: xs => chSpots seg (itFrom a x) x.ch ++ itSpots seg (itNext a x) xs
def itEnd : Nat → List It → Nat
  | a, [] => a
  | a, x :: xs => itEnd (itNext a x) xs
def itStamp : Int → List It → Int
  | s, [] => s
  | s, x :: xs => itStamp (if s < (x.st : Int) then (x.st : Int) else s) xs
theorem itSpots_snoc (seg : Int) : ∀ (l : List It) (a : Nat) (x : It), itSpots seg a (l ++ [x]) = itSpots seg a l ++ chSpots seg (itFrom (itEnd a l) x) x.ch
  | [], a, x => by simp [itSpots, itEnd]
  | d :: l, a, x => by rw [List.cons_append, itSpots, itSpots, itSpots_snoc seg l, List.append_assoc, itEnd]
theorem itEnd_snoc : ∀ (l : List It) (a : Nat) (x : It), itEnd a (l ++ [x]) = itNext (itEnd a l) x
  | [], a, x => rfl
  | d :: l, a, x => by rw [List.cons_append, itEnd, itEnd, itEnd_snoc l]
theorem itStamp_snoc : ∀ (l : List It) (s : Int) (x : It), itStamp s (l ++ [x]) = if itStamp s l < (x.st : Int) then (x.st : Int) else itStamp s l
  | [], s, x => rfl
  | d :: l, s, x => by rw [List.cons_append, itStamp, itStamp, itStamp_snoc l]
theorem itSpots_len {seg : Int} : ∀ (l : List It) (a : Nat), (∀ x ∈ l, x.ch.length ≤ 60) → (itSpots seg a l).length ≤ 60 * l.length
  | [], a, _ => by simp [itSpots]
  | x :: l, a, h => by
    have h1 := h x List.mem_cons_self
    have h2 := itSpots_len (seg := seg) l (itNext a x) (fun y hy => h y (List.mem_cons_of_mem _ hy))
    rw [itSpots, List.length_append, chSpots_len, List.length_cons]
    omega
theorem hdr_le (r : List UInt8) (h : r.length ≤ 9000) : hdr r ≤ 9 := by
  have := Dirs.var_len5 (n := r.length) (by omega)
  unfold hdr
  omega
theorem itEnd_le : ∀ (l : List It) (a : Nat), (∀ x ∈ l, x.bytes.length ≤ 9000) → itEnd a l ≤ a + 10000 * l.length
  | [], a, _ => by simp [itEnd]
  | x :: l, a, h => by
    have h1 := h x List.mem_cons_self
    have h0 := hdr_le x.bytes h1
    have h2 := itEnd_le l (itNext a x) (fun y hy => h y (List.mem_cons_of_mem _ hy))
    rw [itEnd, List.length_cons]
    unfold itNext at *
    omega
/-- The batches among the records, up to the first that is none. -/
def Reads (recs : List (List UInt8)) (items : List It) : Prop :=
  items.length ≤ recs.length ∧ (∀ i (h : i < items.length) (h2 : i < recs.length), items[i].bytes = recs[i] ∧ Batches.Got ⟨recs[i].toArray⟩ items[i].st items[i].ch) ∧ (∀ h : items.length < recs.length, ∀ st l, ¬ Batches.Got ⟨recs[items.length].toArray⟩ st l)
/-- Where the frames of some records end. -/
def recEnd : Nat → List (List UInt8) → Nat
  | a, [] => a
  | a, r :: rs => recEnd (a + hdr r + r.length) rs
theorem recEnd_ge : ∀ (rs : List (List UInt8)) (a : Nat), a + 4 * rs.length ≤ recEnd a rs
  | [], a => by simp [recEnd]
  | r :: rs, a => by
    have := recEnd_ge rs (a + hdr r + r.length)
    rw [recEnd, List.length_cons]
    unfold hdr at *
    omega
theorem recEnd_app : ∀ (xs ys : List (List UInt8)) (a : Nat), recEnd a (xs ++ ys) = recEnd (recEnd a xs) ys
  | [], ys, a => rfl
  | x :: xs, ys, a => by rw [List.cons_append, recEnd, recEnd, recEnd_app xs]
theorem recEnd_take {rs : List (List UInt8)} {a : Nat} (k : Nat) : recEnd a (rs.take k) + 4 * (rs.length - k) ≤ recEnd a rs := by
  have h := recEnd_ge (rs.drop k) (recEnd a (rs.take k))
  rw [← recEnd_app, List.take_append_drop, List.length_drop] at h
  exact h
theorem itEnd_rec : ∀ (l : List It) (a : Nat), itEnd a l = recEnd a (l.map fun x => x.bytes)
  | [], a => rfl
  | x :: l, a => by rw [itEnd, List.map_cons, recEnd, itEnd_rec l]; rfl
theorem reads_map {recs : List (List UInt8)} {items : List It} (h : Reads recs items) (k : Nat) (hk : k ≤ items.length) : (items.take k).map (fun x => x.bytes) = recs.take k := by
  apply List.ext_getElem
  · have := h.1
    simp only [List.length_map, List.length_take]; omega
  · intro i h1 h2
    simp only [List.length_map, List.length_take] at h1 h2
    simp only [List.getElem_map, List.getElem_take]
    exact (h.2.1 i (by omega) (by omega)).1
theorem reads_end {recs : List (List UInt8)} {items : List It} (h : Reads recs items) (k : Nat) (hk : k ≤ items.length) (a : Nat) : itEnd a (items.take k) = recEnd a (recs.take k) := by
  rw [itEnd_rec, reads_map h k hk]
/-- The frames of what is told of a file end where the telling stops. -/
theorem fr_shape {l : List UInt8} {a e : Nat} {r : List UInt8} (h : Words.fr l a = some (r, e)) : e = a + hdr r + r.length ∧ 1 ≤ r.length ∧ r.length ≤ 9000 := by
  unfold Words.fr at h
  split at h
  · cases h
  · rename_i n b hf
    obtain ⟨h1, h2, h3, h4⟩ := Words.fit_some hf
    obtain ⟨g1, g2, g3, g4, g5, g6⟩ := Words.rd_front h1
    split at h
    · simp only [Option.some.injEq, Prod.mk.injEq] at h
      obtain ⟨rfl, rfl⟩ := h
      have hl : ((l.drop (b + 4)).take n).length = n := by rw [List.length_take, List.length_drop]; omega
      have hv : (Words.var n).length = b - a := by rw [g5, List.length_take, List.length_drop]; omega
      unfold hdr
      rw [hl, hv]
      exact ⟨by omega, h2, h3⟩
    · cases h
theorem stop_rec : ∀ (f : Nat) (l : List UInt8) (a : Nat), Words.stop f l a = recEnd a (Words.un f l a)
  | 0, l, a => rfl
  | f + 1, l, a => by
    cases h : Words.fr l a with
    | none => rw [(Words.un_end (f + 1) h).1, (Words.un_end (f + 1) h).2]; rfl
    | some p =>
      obtain ⟨r, e⟩ := p
      rw [(Words.un_more f h).1, (Words.un_more f h).2, recEnd, stop_rec f, ← (fr_shape h).1]
theorem un_size : ∀ (f : Nat) (l : List UInt8) (a : Nat), ∀ r ∈ Words.un f l a, 1 ≤ r.length ∧ r.length ≤ 9000
  | 0, l, a, r, hr => (List.not_mem_nil hr).elim
  | f + 1, l, a, r, hr => by
    cases h : Words.fr l a with
    | none => rw [(Words.un_end (f + 1) h).1] at hr; exact (List.not_mem_nil hr).elim
    | some p =>
      obtain ⟨q, e⟩ := p
      rw [(Words.un_more f h).1] at hr
      rcases List.mem_cons.1 hr with rfl | hr
      · exact (fr_shape h).2
      · exact un_size f l e r hr
end Scan
end Go.Proofs.YtbcfiiilikkkeaaGreatDoor
