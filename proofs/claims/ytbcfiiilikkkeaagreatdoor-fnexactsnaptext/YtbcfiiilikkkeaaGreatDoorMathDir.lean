/- Plain facts on batches: which are right, their texts, what is read of a text; no program is named here. Plain facts on check sums of 32 bits: a text with one byte turned has another sum; no program is named here. Plain facts on directories: which are right, their texts, what is read of a text; no program is named here. -/
import Derived.Test.YtbcfiiilikkkeaaGreatDoorVar
namespace Go.Proofs.YtbcfiiilikkkeaaGreatDoor
structure ChangeL where
  key : ByteArray
  value : ByteArray
  gone : Bool
namespace Batches
open Go
/-- Texts byte by byte, a beginning being less. -/
def lt (a b : ByteArray) : Bool := Op.bytesLess a.toList b.toList
abbrev by_ (s : ByteArray) : List UInt8 := s.data.toList
theorem toList_by (s : ByteArray) : s.toList = by_ s := ByteArray.toList_eq s
theorem by_inj {a b : ByteArray} (h : by_ a = by_ b) : a = b := by
  cases a; cases b
  simp only [ByteArray.mk.injEq]
  exact Array.ext' h
theorem less_eq : ∀ (x y : List UInt8), Op.bytesLess x y = decide (x < y)
  | [], [] => by simp [Op.bytesLess]
  | _ :: _, [] => by simp [Op.bytesLess]
  | [], _ :: _ => by simp [Op.bytesLess]
  | a :: x, b :: y => by
    rw [Op.bytesLess, less_eq x y]
    simp only [List.cons_lt_cons_iff]
    by_cases h1 : a < b <;> by_cases h2 : a = b <;> by_cases h3 : x < y <;> simp [h1, h2, h3]
theorem lt_iff (a b : ByteArray) : lt a b = true ↔ by_ a < by_ b := by
  unfold lt; rw [less_eq, toList_by, toList_by, decide_eq_true_iff]
theorem lt_irrefl (a : ByteArray) : lt a a = false := by
  cases h : lt a a
  · rfl
  · exact absurd ((lt_iff a a).1 h) (List.lt_irrefl _)
theorem lt_trans {a b c : ByteArray} (h1 : lt a b = true) (h2 : lt b c = true) : lt a c = true :=
  (lt_iff a c).2 (List.lt_trans ((lt_iff a b).1 h1) ((lt_iff b c).1 h2))
theorem lt_total {a b : ByteArray} (h1 : lt a b = false) (h2 : lt b a = false) : a = b := by
  have e1 : ¬ by_ a < by_ b := fun h => by rw [(lt_iff a b).2 h] at h1; cases h1
  have e2 : ¬ by_ b < by_ a := fun h => by rw [(lt_iff b a).2 h] at h2; cases h2
  exact by_inj (List.le_antisymm (List.not_lt.1 e2) (List.not_lt.1 e1))
theorem lt_asymm {a b : ByteArray} (h : lt a b = true) : lt b a = false := by
  cases h2 : lt b a
  · rfl
  · have := lt_trans h h2; rw [lt_irrefl] at this; cases this

def changeOk (c : ChangeL) : Prop := 1 ≤ c.key.size ∧ c.key.size ≤ 10 ∧ c.value.size ≤ 40 ∧ (c.gone = true → c.value.size = 0)
/-- Is the change at j right, and behind the one ahead of it? -/
def okAt (l : List ChangeL) (j : Nat) : Prop := ∃ hj : j < l.length, changeOk l[j] ∧ (0 < j → ∃ hi : j - 1 < l.length, lt l[j - 1].key l[j].key = true)
def ok (st : Int) (l : List ChangeL) : Prop := (0 ≤ st ∧ st ≤ 100000) ∧ l.length ≤ 60 ∧ ∀ j, j < l.length → okAt l j
theorem ok_step {l : List ChangeL} {k : Nat} (h : ∀ j, j < k → okAt l j) (hk : okAt l k) : ∀ j, j < k + 1 → okAt l j := fun j hj => by
  rcases Nat.lt_succ_iff_lt_or_eq.1 hj with h1 | h1
  · exact h j h1
  · rw [h1]; exact hk
theorem not_ok {st : Int} {l : List ChangeL} {j : Nat} (hj : j < l.length) (h : ¬ okAt l j) : ¬ ok st l := fun h2 => h (h2.2.2 j hj)

def flag (g : Bool) : UInt8 := if g then 1 else 0
def short (s : ByteArray) : List UInt8 := Words.var s.size ++ by_ s
def one (c : ChangeL) : List UInt8 := short c.key ++ (flag c.gone :: short c.value)
def many : List ChangeL → List UInt8
  | [] => []
  | c :: l => one c ++ many l
def text (st : Nat) (l : List ChangeL) : List UInt8 := Words.var st ++ (Words.var l.length ++ many l)
theorem many_app : ∀ (l m : List ChangeL), many (l ++ m) = many l ++ many m
  | [], m => rfl
  | c :: l, m => by simp [many, many_app l m]
theorem many_take {l : List ChangeL} {k : Nat} (hk : k < l.length) : many (l.take (k + 1)) = many (l.take k) ++ one l[k] := by
  rw [List.take_succ_eq_append_getElem hk, many_app]; simp [many]
theorem short_len (s : ByteArray) : (short s).length ≤ 2 * s.size + 1 := by
  have := Words.var_len s.size
  unfold short
  rw [List.length_append, Words.size_list]
  omega

def rdShort (s : ByteArray) (a : Nat) : Option (ByteArray × Nat) :=
  match Words.rd (by_ s) a with
  | none => none
  | some (n, k) => if n ≤ 20000 ∧ k + n ≤ s.size then some (s.extract k (k + n), k + n) else none
def rdFlag (s : ByteArray) (a : Nat) : Option (Bool × Nat) :=
  match (by_ s)[a]? with
  | none => none
  | some b => if b.toNat ≤ 1 then some (b.toNat == 1, a + 1) else none
def rdOne (s : ByteArray) (a : Nat) : Option (ChangeL × Nat) :=
  match rdShort s a with
  | none => none
  | some (k, a1) => match rdFlag s a1 with
    | none => none
    | some (g, a2) => match rdShort s a2 with
      | none => none
      | some (v, a3) => some (⟨k, v, g⟩, a3)
def rdMany (s : ByteArray) : Nat → Nat → Option (List ChangeL × Nat)
  | 0, a => some ([], a)
  | n + 1, a => match rdOne s a with
    | none => none
    | some (c, a1) => match rdMany s n a1 with
      | none => none
      | some (l, a2) => some (c :: l, a2)

/-- The bytes from a up to b. -/
def cut (s : ByteArray) (a b : Nat) : List UInt8 := ((by_ s).drop a).take (b - a)
theorem cut_app (s : ByteArray) {a b c : Nat} (h1 : a ≤ b) (h2 : b ≤ c) : cut s a c = cut s a b ++ cut s b c := by
  unfold cut
  have e : c - a = (b - a) + (c - b) := by omega
  rw [e, List.take_add, List.drop_drop]
  congr 3
  omega
theorem cut_self (s : ByteArray) (a : Nat) : cut s a a = [] := by simp [cut]
theorem cut_all (s : ByteArray) : cut s 0 s.size = by_ s := by
  unfold cut
  rw [List.drop_zero, Nat.sub_zero]
  exact List.take_of_length_le (Nat.le_of_eq (Words.size_list s))
theorem rd_cut {s : ByteArray} {a n b : Nat} (h : Words.rd (by_ s) a = some (n, b)) : a < b ∧ b ≤ s.size ∧ cut s a b = Words.var n ∧ n ≤ 1000000000 := by
  obtain ⟨h1, _, h3, _, h5, h6⟩ := Words.rd_front h
  exact ⟨h1, h3, h5.symm, h6⟩
theorem rdShort_cut {s : ByteArray} {a b : Nat} {x : ByteArray} (h : rdShort s a = some (x, b)) : a < b ∧ b ≤ s.size ∧ cut s a b = short x ∧ x.size ≤ 20000 := by
  unfold rdShort at h
  split at h
  · cases h
  · rename_i n k hr
    split at h
    · rename_i hn
      simp only [Option.some.injEq, Prod.mk.injEq] at h
      obtain ⟨rfl, rfl⟩ := h
      obtain ⟨h1, h2, h3, _⟩ := rd_cut hr
      have hsz : (s.extract k (k + n)).size = n := by rw [ByteArray.size_extract]; omega
      refine ⟨by omega, hn.2, ?_, by omega⟩
      rw [cut_app s (Nat.le_of_lt h1) (Nat.le_add_right k n), h3]
      unfold short
      rw [hsz]
      congr 1
      unfold by_
      rw [Words.extract_list]
      rfl
    · cases h
theorem rdFlag_cut {s : ByteArray} {a b : Nat} {g : Bool} (h : rdFlag s a = some (g, b)) : b = a + 1 ∧ b ≤ s.size ∧ cut s a b = [flag g] := by
  unfold rdFlag at h
  split at h
  · cases h
  · rename_i x hx
    split at h
    · rename_i hb
      simp only [Option.some.injEq, Prod.mk.injEq] at h
      obtain ⟨rfl, rfl⟩ := h
      obtain ⟨ha, hxe⟩ := List.getElem?_eq_some_iff.1 hx
      have hs : (by_ s).length = s.size := Words.size_list s
      refine ⟨rfl, by omega, ?_⟩
      unfold cut
      rw [show a + 1 - a = 1 by omega, List.drop_eq_getElem_cons ha, hxe]
      simp only [List.take_succ_cons, List.take_zero, List.cons.injEq, and_true]
      refine Words.byte_ext ?_
      rcases (show x.toNat = 0 ∨ x.toNat = 1 by omega) with e | e <;> rw [e] <;> rfl
    · cases h
theorem rdOne_cut {s : ByteArray} {a b : Nat} {c : ChangeL} (h : rdOne s a = some (c, b)) : a < b ∧ b ≤ s.size ∧ cut s a b = one c := by
  unfold rdOne at h
  split at h
  · cases h
  · rename_i k a1 h1
    split at h
    · cases h
    · rename_i g a2 h2
      split at h
      · cases h
      · rename_i v a3 h3
        simp only [Option.some.injEq, Prod.mk.injEq] at h
        obtain ⟨rfl, rfl⟩ := h
        obtain ⟨p1, p2, p3, _⟩ := rdShort_cut h1
        obtain ⟨q1, q2, q3⟩ := rdFlag_cut h2
        obtain ⟨r1, r2, r3, _⟩ := rdShort_cut h3
        refine ⟨by omega, r2, ?_⟩
        rw [cut_app s (b := a1) (by omega) (by omega), cut_app s (a := a1) (b := a2) (by omega) (by omega), p3, q3, r3]
        rfl
theorem rdMany_cut {s : ByteArray} : ∀ (n a b : Nat) (l : List ChangeL), a ≤ s.size → rdMany s n a = some (l, b) → a + n ≤ b ∧ b ≤ s.size ∧ cut s a b = many l ∧ l.length = n
  | 0, a, b, l, ha, h => by
    simp only [rdMany, Option.some.injEq, Prod.mk.injEq] at h
    obtain ⟨rfl, rfl⟩ := h
    exact ⟨Nat.le_refl _, ha, cut_self s a, rfl⟩
  | n + 1, a, b, l, ha, h => by
    rw [rdMany] at h
    split at h
    · cases h
    · rename_i c a1 h1
      split at h
      · cases h
      · rename_i m a2 h2
        simp only [Option.some.injEq, Prod.mk.injEq] at h
        obtain ⟨rfl, rfl⟩ := h
        obtain ⟨p1, p2, p3⟩ := rdOne_cut h1
        obtain ⟨q1, q2, q3, q4⟩ := rdMany_cut n a1 a2 m p2 h2
        refine ⟨by omega, q2, ?_, by rw [List.length_cons, q4]⟩
        rw [cut_app s (b := a1) (by omega) (by omega), p3, q3]
        rfl

theorem rd_at {s : ByteArray} {n : Nat} {p r : List UInt8} (hn : n ≤ 1000000000) (h : by_ s = p ++ (Words.var n ++ r)) : Words.rd (by_ s) p.length = some (n, (p ++ Words.var n).length) := by
  rw [h, Words.rd_back n hn, List.length_append]
theorem rdShort_at {s x : ByteArray} {p r : List UInt8} (hn : x.size ≤ 20000) (h : by_ s = p ++ (short x ++ r)) : rdShort s p.length = some (x, (p ++ short x).length) := by
  have h' : by_ s = p ++ (Words.var x.size ++ (by_ x ++ r)) := by rw [h, short, List.append_assoc]
  have hl : (by_ s).length = s.size := Words.size_list s
  have hx : (by_ x).length = x.size := Words.size_list x
  unfold rdShort
  rw [rd_at (by omega) h']
  have hle : (p ++ Words.var x.size).length + x.size ≤ s.size := by
    rw [← hl, h']
    simp only [List.length_append, hx]
    omega
  simp only
  rw [if_pos ⟨hn, hle⟩]
  have e1 : s.extract (p ++ Words.var x.size).length ((p ++ Words.var x.size).length + x.size) = x := by
    refine by_inj ?_
    unfold by_ at *
    rw [Words.extract_list, h', ← List.append_assoc, List.drop_left, show (p ++ Words.var x.size).length + x.size - (p ++ Words.var x.size).length = x.data.toList.length by omega, List.take_left]
  rw [e1]
  congr 2
  unfold short
  simp only [List.length_append, hx]
  omega
theorem rdFlag_at {s : ByteArray} {g : Bool} {p r : List UInt8} (h : by_ s = p ++ (flag g :: r)) : rdFlag s p.length = some (g, (p ++ [flag g]).length) := by
  unfold rdFlag
  rw [h, List.getElem?_append_right (Nat.le_refl _), Nat.sub_self]
  cases g <;> simp [flag]
def small (c : ChangeL) : Prop := c.key.size ≤ 20000 ∧ c.value.size ≤ 20000
theorem rdOne_at {s : ByteArray} {c : ChangeL} {p r : List UInt8} (hc : small c) (h : by_ s = p ++ (one c ++ r)) : rdOne s p.length = some (c, (p ++ one c).length) := by
  have e1 : by_ s = p ++ (short c.key ++ (flag c.gone :: (short c.value ++ r))) := by rw [h, one]; simp
  have e2 : by_ s = (p ++ short c.key) ++ (flag c.gone :: (short c.value ++ r)) := by rw [e1]; simp
  have e3 : by_ s = ((p ++ short c.key) ++ [flag c.gone]) ++ (short c.value ++ r) := by rw [e1]; simp
  unfold rdOne
  rw [rdShort_at hc.1 e1]
  simp only
  rw [rdFlag_at e2]
  simp only
  rw [rdShort_at hc.2 e3]
  simp [one]
theorem rdMany_at {s : ByteArray} : ∀ (l : List ChangeL) (p r : List UInt8), (∀ c ∈ l, small c) → by_ s = p ++ (many l ++ r) → rdMany s l.length p.length = some (l, (p ++ many l).length)
  | [], p, r, _, h => by simp [rdMany, many]
  | c :: l, p, r, hs, h => by
    have e1 : by_ s = p ++ (one c ++ (many l ++ r)) := by rw [h, many]; simp
    have e2 : by_ s = (p ++ one c) ++ (many l ++ r) := by rw [e1]; simp
    rw [List.length_cons, rdMany, rdOne_at (hs c List.mem_cons_self) e1]
    simp only
    rw [rdMany_at l (p ++ one c) r (fun x hx => hs x (List.mem_cons_of_mem _ hx)) e2]
    simp [many]
/-- The batch that a text is the text of. -/
def Got (s : ByteArray) (st : Nat) (l : List ChangeL) : Prop := by_ s = text st l ∧ ok (st : Int) l
theorem ok_small {st : Int} {l : List ChangeL} (h : ok st l) : ∀ c ∈ l, small c := by
  intro c hc
  obtain ⟨j, hj, rfl⟩ := List.mem_iff_getElem.1 hc
  obtain ⟨_, h1, _⟩ := h.2.2 j hj
  exact ⟨by have := h1.2.1; omega, by have := h1.2.2.1; omega⟩
/-- What the reading of a right batch's text comes to. -/
theorem got_read {s : ByteArray} {st : Nat} {l : List ChangeL} (h : Got s st l) :
    ∃ a b, Words.rd (by_ s) 0 = some (st, a) ∧ Words.rd (by_ s) a = some (l.length, b) ∧ rdMany s l.length b = some (l, s.size) := by
  obtain ⟨h1, h2⟩ := h
  have hl : (by_ s).length = s.size := Words.size_list s
  have e1 : by_ s = [] ++ (Words.var st ++ (Words.var l.length ++ many l)) := h1
  have e2 : by_ s = ([] ++ Words.var st) ++ (Words.var l.length ++ many l) := h1
  have e3 : by_ s = (([] ++ Words.var st) ++ Words.var l.length) ++ (many l ++ []) := by rw [h1, text]; simp
  have o1 := h2.1.2
  have o2 := h2.2.1
  refine ⟨_, _, rd_at (by omega) e1, rd_at (by omega) e2, ?_⟩
  rw [rdMany_at l _ [] (ok_small h2) e3, ← hl, e3]
  simp
theorem read_got {s : ByteArray} {st a n b : Nat} {l : List ChangeL} (h1 : Words.rd (by_ s) 0 = some (st, a)) (h2 : Words.rd (by_ s) a = some (n, b)) (h3 : rdMany s n b = some (l, s.size)) (ho : ok (st : Int) l) : Got s st l := by
  refine ⟨?_, ho⟩
  obtain ⟨p1, p2, p3, _⟩ := rd_cut h1
  obtain ⟨q1, q2, q3, _⟩ := rd_cut h2
  obtain ⟨r1, r2, r3, r4⟩ := rdMany_cut n b _ l q2 h3
  rw [← cut_all s, cut_app s (b := a) (by omega) (by omega), cut_app s (a := a) (b := b) (by omega) (by omega), p3, q3, r3, text, r4]
end Batches
end Go.Proofs.YtbcfiiilikkkeaaGreatDoor
namespace Go.Proofs.YtbcfiiilikkkeaaGreatDoor.Sums
def poly : Nat := 3558460437
def half (s : Nat) : Nat := if s % 2 = 1 then (s / 2) ^^^ poly else s / 2
def byte8 (s : Nat) : Nat := half (half (half (half (half (half (half (half s)))))))
def more : Nat → List UInt8 → Nat
  | s, [] => s
  | s, b :: r => more (byte8 (s ^^^ b.toNat)) r
def sumOf (l : List UInt8) : Nat := more 4294967295 l

theorem half_lt {s : Nat} (h : s < 2 ^ 32) : half s < 2 ^ 32 := by
  unfold half
  split
  · exact Nat.xor_lt_two_pow (by omega) (by decide)
  · omega
theorem byte8_lt {s : Nat} (h : s < 2 ^ 32) : byte8 s < 2 ^ 32 := by
  unfold byte8
  exact half_lt (half_lt (half_lt (half_lt (half_lt (half_lt (half_lt (half_lt h)))))))
theorem xor_lt {s : Nat} (h : s < 2 ^ 32) (b : UInt8) : s ^^^ b.toNat < 2 ^ 32 := Nat.xor_lt_two_pow h (by have := b.toNat_lt; omega)
theorem more_lt : ∀ (l : List UInt8) {s : Nat}, s < 2 ^ 32 → more s l < 2 ^ 32
  | [], _, h => h
  | b :: r, _, h => more_lt r (byte8_lt (xor_lt h b))
theorem more_app : ∀ (l m : List UInt8) (s : Nat), more s (l ++ m) = more (more s l) m
  | [], _, _ => rfl
  | _ :: l, m, _ => more_app l m _
theorem sumOf_lt (l : List UInt8) : sumOf l < 2 ^ 32 := more_lt l (by decide)

/-- A sum in four bytes, the highest first. -/
def four (x : Nat) : List UInt8 := [UInt8.ofNat (x / 16777216), UInt8.ofNat (x / 65536), UInt8.ofNat (x / 256), UInt8.ofNat x]
theorem four_len (x : Nat) : (four x).length = 4 := rfl
def unsealed (l : List UInt8) : Option (List UInt8) := if 4 ≤ l.length ∧ l.length ≤ 20004 ∧ l.drop (l.length - 4) = four (sumOf (l.take (l.length - 4))) then some (l.take (l.length - 4)) else none
theorem unsealed_back (l : List UInt8) (h : l.length ≤ 20000) : unsealed (l ++ four (sumOf l)) = some l := by
  have hl : (l ++ four (sumOf l)).length = l.length + 4 := by rw [List.length_append, four_len]
  unfold unsealed
  rw [hl, Nat.add_sub_cancel, List.take_left, List.drop_left, if_pos ⟨by omega, by omega, rfl⟩]
/-- Halved k times. -/
def hn : Nat → Nat → Nat
  | 0, s => s
  | k + 1, s => hn k (half s)
theorem hn_step {k s T : Nat} (hk : k < 8) (h : hn (8 - k) s = T) : hn (8 - (k + 1)) (half s) = T := by
  obtain ⟨j, hj⟩ : ∃ j, 8 - k = j + 1 := ⟨7 - k, by omega⟩
  rw [hj] at h
  rw [show 8 - (k + 1) = j from by omega]
  exact h
theorem half_odd {s : Nat} (h : s % 2 = 1) : half s = (s / 2) ^^^ 3558460437 := by unfold half; rw [if_pos h]; rfl
theorem half_even {s : Nat} (h : ¬ s % 2 = 1) : half s = s / 2 := by unfold half; rw [if_neg h]
theorem more_step {s : Nat} {l : List UInt8} {i : Nat} {R : Nat} (hi : i < l.length) (h : more s (l.drop i) = R) : more (byte8 (s ^^^ l[i].toNat)) (l.drop (i + 1)) = R := by
  rw [List.drop_eq_getElem_cons hi] at h
  exact h
theorem more_end {s : Nat} {l : List UInt8} {i : Nat} {R : Nat} (hi : l.length ≤ i) (h : more s (l.drop i) = R) : s = R := by
  rw [List.drop_eq_nil_of_le hi] at h
  exact h
end Go.Proofs.YtbcfiiilikkkeaaGreatDoor.Sums
namespace Go.Proofs.YtbcfiiilikkkeaaGreatDoor
structure SpotL where
  key : ByteArray
  seg : Int
  pos : Int
  size : Int
namespace Dirs
open Go
open Batches (by_ cut cut_app cut_self cut_all rd_cut rd_at lt short rdShort rdShort_cut rdShort_at short_len)
def inB (x lo hi : Int) : Bool := decide (lo ≤ x) && decide (x ≤ hi)
theorem inB_iff {x lo hi : Int} : inB x lo hi = true ↔ lo ≤ x ∧ x ≤ hi := by simp [inB, Bool.and_eq_true]
theorem inB_no {x lo hi : Int} (h : inB x lo hi = false) : ¬ (lo ≤ x ∧ x ≤ hi) := fun q => by rw [inB_iff.2 q] at h; cases h
def spotOk (c : SpotL) : Prop := (1 ≤ c.key.size ∧ c.key.size ≤ 10) ∧ (0 ≤ c.seg ∧ c.seg ≤ 999) ∧ (0 ≤ c.pos ∧ c.pos ≤ 20000) ∧ (0 ≤ c.size ∧ c.size ≤ 40)
/-- Is the spot at j right, and behind the one ahead of it? -/
def okAt (l : List SpotL) (j : Nat) : Prop := ∃ hj : j < l.length, spotOk l[j] ∧ (0 < j → ∃ hi : j - 1 < l.length, lt l[j - 1].key l[j].key = true)
def ok (l : List SpotL) : Prop := l.length ≤ 60 ∧ ∀ j, j < l.length → okAt l j
theorem ok_step {l : List SpotL} {k : Nat} (h : ∀ j, j < k → okAt l j) (hk : okAt l k) : ∀ j, j < k + 1 → okAt l j := fun j hj => by
  rcases Nat.lt_succ_iff_lt_or_eq.1 hj with h1 | h1
  · exact h j h1
  · rw [h1]; exact hk
theorem not_ok {l : List SpotL} {j : Nat} (hj : j < l.length) (h : ¬ okAt l j) : ¬ ok l := fun h2 => h (h2.2 j hj)
theorem ok_mem {l : List SpotL} (h : ok l) : ∀ c ∈ l, spotOk c := by
  intro c hc
  obtain ⟨j, hj, rfl⟩ := List.getElem_of_mem hc
  obtain ⟨_, q, _⟩ := h.2 j hj
  exact q

def one (c : SpotL) : List UInt8 := short c.key ++ (Words.var c.seg.toNat ++ (Words.var c.pos.toNat ++ Words.var c.size.toNat))
def many : List SpotL → List UInt8
  | [] => []
  | c :: l => one c ++ many l
def text (l : List SpotL) : List UInt8 := Words.var l.length ++ many l
theorem many_app : ∀ (l m : List SpotL), many (l ++ m) = many l ++ many m
  | [], m => rfl
  | c :: l, m => by rw [List.cons_append, many, many, many_app l m, List.append_assoc]
theorem many_take {l : List SpotL} {k : Nat} (hk : k < l.length) : many (l.take (k + 1)) = many (l.take k) ++ one l[k] := by
  rw [List.take_succ_eq_append_getElem hk, many_app]; simp [many]
/-- A spot whose numbers can be written and read. -/
def small (c : SpotL) : Prop := c.key.size ≤ 20000 ∧ (0 ≤ c.seg ∧ c.seg ≤ 1000000000) ∧ (0 ≤ c.pos ∧ c.pos ≤ 1000000000) ∧ (0 ≤ c.size ∧ c.size ≤ 1000000000)
theorem spotOk_small {c : SpotL} (h : spotOk c) : small c := by
  obtain ⟨h1, h2, h3, h4⟩ := h
  exact ⟨by omega, by omega, by omega, by omega⟩
def rdSpot (s : ByteArray) (a : Nat) : Option (SpotL × Nat) :=
  match rdShort s a with
  | none => none
  | some (k, a1) => match Words.rd (by_ s) a1 with
    | none => none
    | some (g, a2) => match Words.rd (by_ s) a2 with
      | none => none
      | some (p, a3) => match Words.rd (by_ s) a3 with
        | none => none
        | some (z, a4) => some (⟨k, g, p, z⟩, a4)
theorem rdSpot_parts {s : ByteArray} {a b : Nat} {c : SpotL} (h : rdSpot s a = some (c, b)) :
    ∃ a1 a2 a3 g p z, rdShort s a = some (c.key, a1) ∧ Words.rd (by_ s) a1 = some (g, a2) ∧ Words.rd (by_ s) a2 = some (p, a3) ∧ Words.rd (by_ s) a3 = some (z, b) ∧ c.seg = (g : Int) ∧ c.pos = (p : Int) ∧ c.size = (z : Int) := by
  unfold rdSpot at h
  split at h
  · cases h
  · rename_i k a1 h1
    split at h
    · cases h
    · rename_i g a2 h2
      split at h
      · cases h
      · rename_i p a3 h3
        split at h
        · cases h
        · rename_i z a4 h4
          simp only [Option.some.injEq, Prod.mk.injEq] at h
          obtain ⟨rfl, rfl⟩ := h
          exact ⟨a1, a2, a3, g, p, z, h1, h2, h3, h4, rfl, rfl, rfl⟩
theorem rdSpot_cut {s : ByteArray} {a b : Nat} {c : SpotL} (h : rdSpot s a = some (c, b)) : a + 4 ≤ b ∧ b ≤ s.size ∧ cut s a b = one c ∧ small c := by
  obtain ⟨a1, a2, a3, g, p, z, h1, h2, h3, h4, e1, e2, e3⟩ := rdSpot_parts h
  obtain ⟨p1, p2, p3, p4⟩ := rdShort_cut h1
  obtain ⟨q1, q2, q3, q4⟩ := rd_cut h2
  obtain ⟨r1, r2, r3, r4⟩ := rd_cut h3
  obtain ⟨s1, s2, s3, s4⟩ := rd_cut h4
  refine ⟨by omega, s2, ?_, p4, by omega, by omega, by omega⟩
  rw [cut_app s (b := a1) (by omega) (by omega), cut_app s (a := a1) (b := a2) (by omega) (by omega), cut_app s (a := a2) (b := a3) (by omega) (by omega), p3, q3, r3, s3, one, e1, e2, e3]
  simp
theorem rdSpot_at {s : ByteArray} {c : SpotL} {p r : List UInt8} (hc : small c) (h : by_ s = p ++ (one c ++ r)) : rdSpot s p.length = some (c, (p ++ one c).length) := by
  obtain ⟨h1, h2, h3, h4⟩ := hc
  obtain ⟨k, g, q, z⟩ := c
  simp only at h1 h2 h3 h4
  obtain ⟨g, rfl⟩ := Int.eq_ofNat_of_zero_le h2.1
  obtain ⟨q, rfl⟩ := Int.eq_ofNat_of_zero_le h3.1
  obtain ⟨z, rfl⟩ := Int.eq_ofNat_of_zero_le h4.1
  have e0 : by_ s = p ++ (short k ++ (Words.var g ++ (Words.var q ++ (Words.var z ++ r)))) := by rw [h]; simp [one]
  have e1 : by_ s = (p ++ short k) ++ (Words.var g ++ (Words.var q ++ (Words.var z ++ r))) := by rw [e0]; simp
  have e2 : by_ s = ((p ++ short k) ++ Words.var g) ++ (Words.var q ++ (Words.var z ++ r)) := by rw [e0]; simp
  have e3 : by_ s = (((p ++ short k) ++ Words.var g) ++ Words.var q) ++ (Words.var z ++ r) := by rw [e0]; simp
  unfold rdSpot
  rw [rdShort_at h1 e0]
  simp only
  rw [rd_at (by omega) e1]
  simp only
  rw [rd_at (by omega) e2]
  simp only
  rw [rd_at (by omega) e3]
  simp [one]
def rdMany (s : ByteArray) : Nat → Nat → Option (List SpotL × Nat)
  | 0, a => some ([], a)
  | n + 1, a => match rdSpot s a with
    | none => none
    | some (c, a1) => match rdMany s n a1 with
      | none => none
      | some (l, a2) => some (c :: l, a2)
theorem rdMany_next {t : ByteArray} {m a e : Nat} {l : List SpotL} (h : rdMany t (m + 1) a = some (l, e)) : ∃ c a1 r, rdSpot t a = some (c, a1) ∧ rdMany t m a1 = some (r, e) ∧ l = c :: r := by
  rw [rdMany] at h
  split at h
  · cases h
  · rename_i c a1 h1
    split at h
    · cases h
    · rename_i r a2 h2
      simp only [Option.some.injEq, Prod.mk.injEq] at h
      obtain ⟨rfl, rfl⟩ := h
      exact ⟨c, a1, r, h1, h2, rfl⟩
theorem rdMany_torn {t : ByteArray} {m a : Nat} (h : rdMany t (m + 1) a = none) : rdSpot t a = none ∨ ∃ c a1, rdSpot t a = some (c, a1) ∧ rdMany t m a1 = none := by
  rw [rdMany] at h
  split at h
  · rename_i h1; exact Or.inl h1
  · rename_i c a1 h1
    split at h
    · rename_i h2; exact Or.inr ⟨c, a1, h1, h2⟩
    · cases h
theorem rdMany_cut {s : ByteArray} : ∀ (n a b : Nat) (l : List SpotL), a ≤ s.size → rdMany s n a = some (l, b) → a + 4 * n ≤ b ∧ b ≤ s.size ∧ cut s a b = many l ∧ l.length = n ∧ ∀ x ∈ l, small x
  | 0, a, b, l, ha, h => by
    simp only [rdMany, Option.some.injEq, Prod.mk.injEq] at h
    obtain ⟨rfl, rfl⟩ := h
    exact ⟨by omega, ha, by rw [cut_self]; rfl, rfl, fun x hx => (List.not_mem_nil hx).elim⟩
  | n + 1, a, b, l, ha, h => by
    obtain ⟨c, a1, r, h1, h2, rfl⟩ := rdMany_next h
    obtain ⟨p1, p2, p3, p4⟩ := rdSpot_cut h1
    obtain ⟨q1, q2, q3, q4, q5⟩ := rdMany_cut n a1 b r p2 h2
    refine ⟨by omega, q2, ?_, by simp [q4], fun x hx => ?_⟩
    · rw [cut_app s (b := a1) (by omega) (by omega), p3, q3]; simp [many]
    · rcases List.mem_cons.1 hx with rfl | hx
      · exact p4
      · exact q5 x hx
theorem rdMany_at {s : ByteArray} : ∀ (l : List SpotL) (p r : List UInt8), (∀ x ∈ l, small x) → by_ s = p ++ (many l ++ r) → rdMany s l.length p.length = some (l, (p ++ many l).length)
  | [], p, r, _, h => by simp [rdMany, many]
  | c :: l, p, r, hs, h => by
    have e1 : by_ s = p ++ (one c ++ (many l ++ r)) := by rw [h, many]; simp
    have e2 : by_ s = (p ++ one c) ++ (many l ++ r) := by rw [e1]; simp
    rw [List.length_cons, rdMany, rdSpot_at (hs c List.mem_cons_self) e1]
    simp only
    rw [rdMany_at l (p ++ one c) r (fun x hx => hs x (List.mem_cons_of_mem _ hx)) e2]
    simp [many]
/-- What is read of a text, up to e. -/
def Gets (u : ByteArray) (l : List SpotL) (a0 e : Nat) : Prop := l.length ≤ 60 ∧ Words.rd (by_ u) 0 = some (l.length, a0) ∧ rdMany u l.length a0 = some (l, e)
def Torn (u : ByteArray) : Prop := Words.rd (by_ u) 0 = none ∨ (∃ n a0, Words.rd (by_ u) 0 = some (n, a0) ∧ ¬ n ≤ 60) ∨ (∃ n a0, Words.rd (by_ u) 0 = some (n, a0) ∧ n ≤ 60 ∧ rdMany u n a0 = none)
theorem torn_or (u : ByteArray) : Torn u ∨ ∃ l a0 e, Gets u l a0 e := by
  rcases h0 : Words.rd (by_ u) 0 with _ | ⟨n, a0⟩
  · exact Or.inl (Or.inl h0)
  by_cases hn : n ≤ 60
  · rcases h1 : rdMany u n a0 with _ | ⟨l, e⟩
    · exact Or.inl (Or.inr (Or.inr ⟨n, a0, h0, hn, h1⟩))
    · have q1 := (rdMany_cut _ _ _ _ (rd_cut h0).2.1 h1).2.2.2.1
      subst q1
      exact Or.inr ⟨l, a0, e, hn, h0, h1⟩
  · exact Or.inl (Or.inr (Or.inl ⟨n, a0, h0, hn⟩))
def sealed (t : List UInt8) : List UInt8 := t ++ Sums.four (Sums.sumOf t)
def Got (t : ByteArray) (l : List SpotL) : Prop := by_ t = sealed (text l) ∧ ok l
theorem var_lenF : ∀ (f n : Nat), n < 128 ^ (f + 1) → (Words.var n).length ≤ f + 1
  | 0, n, h => by rw [Words.var_small n (by omega)]; simp
  | f + 1, n, h => by
    by_cases hn : n ≤ 127
    · rw [Words.var_small n hn]; simp
    · rw [Words.var_big n (by omega), List.length_cons]
      have := var_lenF f (n / 128) (by rw [Nat.div_lt_iff_lt_mul (by omega), ← Nat.pow_succ]; exact h)
      omega
theorem var_len5 {n : Nat} (h : n ≤ 1000000000) : (Words.var n).length ≤ 5 := var_lenF 4 n (by omega)
theorem one_len {c : SpotL} (h : spotOk c) : (one c).length ≤ 40 := by
  obtain ⟨h1, h2, h3, h4⟩ := h
  have e0 := short_len c.key
  have e1 := var_len5 (n := c.seg.toNat) (by omega)
  have e2 := var_len5 (n := c.pos.toNat) (by omega)
  have e3 := var_len5 (n := c.size.toNat) (by omega)
  simp only [one, List.length_append]
  omega
theorem many_len : ∀ (l : List SpotL), (∀ c ∈ l, spotOk c) → (many l).length ≤ 40 * l.length
  | [], _ => by simp [many]
  | c :: l, h => by
    have h1 := one_len (h c List.mem_cons_self)
    have h2 := many_len l (fun x hx => h x (List.mem_cons_of_mem _ hx))
    simp only [many, List.length_append, List.length_cons]
    omega
theorem text_len {l : List SpotL} (h : ok l) : (text l).length ≤ 3000 := by
  have h1 := many_len l (ok_mem h)
  have h2 := h.1
  have h3 := var_len5 (n := l.length) (by omega)
  simp only [text, List.length_append]
  omega
theorem text_gets {u : ByteArray} {l : List SpotL} (h1 : by_ u = text l) (h2 : ok l) : ∃ a0, Gets u l a0 u.size := by
  have hl : (by_ u).length = u.size := Words.size_list u
  have e0 : by_ u = [] ++ (Words.var l.length ++ (many l ++ [])) := by rw [h1]; simp [text]
  have e1 : by_ u = ([] ++ Words.var l.length) ++ (many l ++ []) := by rw [e0]; simp
  have q := rdMany_at l _ [] (fun c hc => spotOk_small (ok_mem h2 c hc)) e1
  have hq : (([] ++ Words.var l.length) ++ many l).length = u.size := by rw [← hl, e1]; simp
  rw [hq] at q
  exact ⟨_, h2.1, rd_at (by have := h2.1; omega) e0, q⟩
theorem gets_text {u : ByteArray} {l : List SpotL} {a0 : Nat} (h : Gets u l a0 u.size) : by_ u = text l := by
  obtain ⟨h0, h1, h2⟩ := h
  obtain ⟨p1, p2, p3, _⟩ := rd_cut h1
  obtain ⟨q1, q2, q3, _⟩ := rdMany_cut _ _ _ _ p2 h2
  rw [← cut_all u, cut_app u (b := a0) (by omega) (by omega), p3, q3]
  rfl
theorem unsealed_iff {t u : List UInt8} : Sums.unsealed t = some u ↔ t = sealed u ∧ u.length ≤ 20000 := by
  unfold sealed
  constructor
  · intro h
    unfold Sums.unsealed at h
    split at h
    · rename_i hc
      simp only [Option.some.injEq] at h
      subst h
      obtain ⟨h1, h2, h3⟩ := hc
      rw [← h3]
      exact ⟨(List.take_append_drop _ _).symm, by rw [List.length_take]; omega⟩
    · cases h
  · rintro ⟨rfl, h⟩
    exact Sums.unsealed_back u h
theorem got_unsealed {t : ByteArray} {l : List SpotL} (h : Got t l) : Sums.unsealed (by_ t) = some (text l) := unsealed_iff.2 ⟨h.1, by have := text_len h.2; omega⟩
theorem unsealed_got {t : ByteArray} {l : List SpotL} (h : Sums.unsealed (by_ t) = some (text l)) (ho : ok l) : Got t l := ⟨(unsealed_iff.1 h).1, ho⟩
end Dirs
end Go.Proofs.YtbcfiiilikkkeaaGreatDoor
