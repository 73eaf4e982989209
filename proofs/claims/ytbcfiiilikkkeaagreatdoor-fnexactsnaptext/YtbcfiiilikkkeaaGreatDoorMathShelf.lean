/- Plain facts on decimal figures; no program is named here. Plain facts on shelves: what is told of a disk, what cleans it, its map, a batch added; no program is named here. -/
import Derived.Test.YtbcfiiilikkkeaaGreatDoorVar
import Derived.Test.YtbcfiiilikkkeaaGreatDoorMathAt
import Derived.Test.YtbcfiiilikkkeaaGreatDoorMathMan
namespace Go.Proofs.YtbcfiiilikkkeaaGreatDoor.Words
def digF : Nat → Nat → List UInt8
  | 0, _ => []
  | f + 1, m => if m = 0 then [] else digF f (m / 10) ++ [fig (m % 10)]
def dig (m : Nat) : List UInt8 := digF m m
def dec (m : Nat) : List UInt8 := if m = 0 then [48] else dig m
theorem digF_zero (f : Nat) : digF f 0 = [] := by cases f <;> simp [digF]
theorem digF_fuel : ∀ (f g m : Nat), m ≤ f → m ≤ g → digF f m = digF g m
  | 0, g, m, h, _ => by
    obtain rfl : m = 0 := by omega
    rw [digF_zero, digF_zero]
  | f + 1, g, m, h, k => by
    by_cases hm : m = 0
    · subst hm; rw [digF_zero, digF_zero]
    · obtain ⟨g, rfl⟩ : ∃ g', g = g' + 1 := ⟨g - 1, by omega⟩
      rw [digF, digF, if_neg hm, if_neg hm, digF_fuel f g (m / 10) (by omega) (by omega)]
theorem dig_zero : dig 0 = [] := rfl
theorem dig_step (m : Nat) (h : m ≠ 0) : dig m = dig (m / 10) ++ [fig (m % 10)] := by
  unfold dig
  obtain ⟨f, hf⟩ : ∃ f, m = f + 1 := ⟨m - 1, by omega⟩
  have h1 : digF m m = digF (f + 1) m := by rw [← hf]
  rw [h1, digF, if_neg h, digF_fuel f (m / 10) (m / 10) (by omega) (by omega)]
theorem dig_len : ∀ (k m : Nat), m < 10 ^ k → (dig m).length ≤ k
  | 0, m, h => by
    obtain rfl : m = 0 := by simpa using h
    simp [dig_zero]
  | k + 1, m, h => by
    by_cases hm : m = 0
    · subst hm; simp [dig_zero]
    · rw [dig_step m hm, List.length_append]
      have := dig_len k (m / 10) (by rw [Nat.pow_succ] at h; omega)
      simp; omega
/-- The value of figures. -/
def numF : List UInt8 → Nat → Nat
  | [], n => n
  | b :: r, n => numF r (10 * n + (b.toNat - 48))
def isFig (b : UInt8) : Prop := 48 ≤ b.toNat ∧ b.toNat ≤ 57
/-- What ReadDecimal reads: n so far of the figures ahead, 'first' where there were none. -/
def rdD : List UInt8 → Nat → Bool → Option Nat
  | [], n, first => if first then none else some n
  | b :: r, n, first => if b.toNat < 48 ∨ 57 < b.toNat then none else if first = false ∧ n = 0 then none else if 1000000000 < 10 * n + (b.toNat - 48) then none else rdD r (10 * n + (b.toNat - 48)) false
theorem numF_snoc : ∀ (p : List UInt8) (b : UInt8) (n : Nat), numF (p ++ [b]) n = 10 * numF p n + (b.toNat - 48)
  | [], _, _ => rfl
  | c :: p, b, n => by simp only [List.cons_append, numF]; exact numF_snoc p b _
theorem numF_app : ∀ (p r : List UInt8) (n : Nat), numF (p ++ r) n = numF r (numF p n)
  | [], _, _ => rfl
  | c :: p, r, n => by simp only [List.cons_append, numF]; exact numF_app p r _
theorem numF_le : ∀ (r : List UInt8) (n : Nat), n ≤ numF r n
  | [], _ => Nat.le_refl _
  | b :: r, n => by
    have := numF_le r (10 * n + (b.toNat - 48))
    rw [numF]; omega
theorem dig_num : ∀ (f m : Nat), m ≤ f → numF (dig m) 0 = m
  | 0, m, h => by
    obtain rfl : m = 0 := by omega
    rfl
  | f + 1, m, h => by
    by_cases hm : m = 0
    · subst hm; rfl
    · rw [dig_step m hm, numF_snoc, dig_num f (m / 10) (by omega), fig_low _ (by omega)]
      omega
theorem dig_fig : ∀ (f m : Nat), m ≤ f → ∀ b ∈ dig m, isFig b
  | 0, m, h => by
    obtain rfl : m = 0 := by omega
    simp [dig_zero]
  | f + 1, m, h => by
    by_cases hm : m = 0
    · subst hm; simp [dig_zero]
    · rw [dig_step m hm]
      intro b hb
      rcases List.mem_append.1 hb with hb | hb
      · exact dig_fig f (m / 10) (by omega) b hb
      · rw [List.mem_singleton.1 hb]
        unfold isFig
        rw [fig_low _ (by omega)]; omega
theorem dig_head : ∀ (f m : Nat), m ≤ f → m ≠ 0 → ∃ h t, dig m = h :: t ∧ h.toNat ≠ 48
  | 0, m, h, hm => by omega
  | f + 1, m, h, hm => by
    rw [dig_step m hm]
    by_cases h10 : m / 10 = 0
    · rw [h10, dig_zero]
      exact ⟨_, [], rfl, by rw [fig_low _ (by omega)]; omega⟩
    · obtain ⟨a, t, e, ha⟩ := dig_head f (m / 10) (by omega) h10
      exact ⟨a, t ++ [fig (m % 10)], by rw [e]; rfl, ha⟩
theorem dec_num (m : Nat) : numF (dec m) 0 = m := by
  unfold dec
  split
  · rename_i h; subst h; rfl
  · exact dig_num m m (Nat.le_refl _)
theorem dec_fig (m : Nat) : ∀ b ∈ dec m, isFig b := by
  unfold dec
  split
  · intro b hb; rw [List.mem_singleton.1 hb]; exact ⟨by decide, by decide⟩
  · exact dig_fig m m (Nat.le_refl _)
theorem dec_ne (m : Nat) : dec m ≠ [] := by
  unfold dec
  split
  · simp
  · rename_i h
    rw [dig_step m h]; simp
theorem dec_len (m : Nat) (h : m ≤ 1000000000) : (dec m).length ≤ 10 := by
  unfold dec
  split
  · simp
  · exact dig_len 10 m (by omega)
theorem dec_more (n : Nat) (b : UInt8) (h : n ≠ 0) (hb : isFig b) : dec (10 * n + (b.toNat - 48)) = dec n ++ [b] := by
  unfold isFig at hb
  have e1 : (10 * n + (b.toNat - 48)) / 10 = n := by omega
  have e2 : (10 * n + (b.toNat - 48)) % 10 = b.toNat - 48 := by omega
  have e3 : fig (b.toNat - 48) = b := byte_ext (by rw [fig_low _ (by omega)]; omega)
  rw [dec, if_neg (by omega), dec, if_neg h, dig_step _ (by omega), e1, e2, e3]
theorem dec_one (b : UInt8) (hb : isFig b) : dec (b.toNat - 48) = [b] := by
  unfold isFig at hb
  have e3 : fig (b.toNat - 48) = b := byte_ext (by rw [fig_low _ (by omega)]; omega)
  unfold dec
  split
  · rename_i h
    have : b = 48 := byte_ext (by show b.toNat = 48; omega)
    rw [this]
  · rename_i h
    have e1 : (b.toNat - 48) / 10 = 0 := by omega
    have e2 : (b.toNat - 48) % 10 = b.toNat - 48 := by omega
    rw [dig_step _ h, e1, e2, e3, dig_zero]; rfl
theorem dec_zero_only {m : Nat} {r : List UInt8} (h : dec m = 48 :: r) : r = [] := by
  unfold dec at h
  split at h
  · simpa using h.symm
  · rename_i hm
    obtain ⟨a, t, e, ha⟩ := dig_head m m (Nat.le_refl _) hm
    rw [e] at h
    simp only [List.cons.injEq] at h
    rw [h.1] at ha
    exact absurd rfl ha
/-- Behind some figures: what is read on. -/
theorem rdD_on : ∀ (r : List UInt8) (n N : Nat), n ≤ 1000000000 → (rdD r n false = some N ↔ N ≤ 1000000000 ∧ dec N = dec n ++ r)
  | [], n, N, hn => by
    simp only [rdD, List.append_nil]
    constructor
    · intro h
      simp only [Bool.false_eq_true, if_false, Option.some.injEq] at h
      subst h; exact ⟨hn, rfl⟩
    · rintro ⟨_, h⟩
      have := congrArg (fun l => numF l 0) h
      simp only [dec_num] at this
      simp [this]
  | b :: r, n, N, hn => by
    rw [rdD]
    by_cases hb : b.toNat < 48 ∨ 57 < b.toNat
    · rw [if_pos hb]
      constructor
      · intro h; simp at h
      · rintro ⟨_, h⟩
        have := dec_fig N b (by rw [h]; simp)
        unfold isFig at this
        omega
    · rw [if_neg hb]
      have hf : isFig b := by unfold isFig; omega
      by_cases h0 : n = 0
      · subst h0
        rw [if_pos ⟨rfl, rfl⟩]
        constructor
        · intro h; simp at h
        · rintro ⟨_, h⟩
          have e : dec 0 = [48] := rfl
          rw [e] at h
          have := dec_zero_only h
          simp at this
      · rw [if_neg (by rintro ⟨_, h⟩; exact h0 h)]
        by_cases hM : 1000000000 < 10 * n + (b.toNat - 48)
        · rw [if_pos hM]
          constructor
          · intro h; simp at h
          · rintro ⟨hN, h⟩
            have e := congrArg (fun l => numF l 0) h
            simp only [dec_num, numF_app, numF] at e
            have := numF_le r (10 * n + (b.toNat - 48))
            omega
        · rw [if_neg hM, rdD_on r _ N (by omega), dec_more n b h0 hf]
          simp
theorem rdD_iff (l : List UInt8) (N : Nat) : rdD l 0 true = some N ↔ N ≤ 1000000000 ∧ dec N = l := by
  cases l with
  | nil =>
    simp only [rdD, if_true]
    constructor
    · intro h; simp at h
    · rintro ⟨_, h⟩; exact absurd h (dec_ne N)
  | cons b r =>
    rw [rdD]
    by_cases hb : b.toNat < 48 ∨ 57 < b.toNat
    · rw [if_pos hb]
      constructor
      · intro h; simp at h
      · rintro ⟨_, h⟩
        have := dec_fig N b (by rw [h]; simp)
        unfold isFig at this
        omega
    · have hf : isFig b := by unfold isFig; omega
      rw [if_neg hb, if_neg (by simp), if_neg (by omega), rdD_on r _ N (by omega)]
      rw [show 10 * 0 + (b.toNat - 48) = b.toNat - 48 from by omega, dec_one b hf]
      rfl
theorem rdD_long {l : List UInt8} (h : 10 < l.length) : rdD l 0 true = none := by
  cases e : rdD l 0 true with
  | none => rfl
  | some N =>
    have := (rdD_iff l N).1 e
    have := dec_len N this.1
    rw [(rdD_iff l N).1 e |>.2] at this
    omega
theorem rdD_nofig {l : List UInt8} {b : UInt8} (hb : b ∈ l) (h : ¬ isFig b) : rdD l 0 true = none := by
  cases e : rdD l 0 true with
  | none => rfl
  | some N => exact absurd (dec_fig N b (by rw [((rdD_iff l N).1 e).2]; exact hb)) h
theorem rdD_great {l : List UInt8} (h : 1000000000 < numF l 0) : rdD l 0 true = none := by
  cases e : rdD l 0 true with
  | none => rfl
  | some N =>
    have := (rdD_iff l N).1 e
    rw [← this.2, dec_num] at h
    omega
theorem rdD_other {l : List UInt8} (h : dec (numF l 0) ≠ l) : rdD l 0 true = none := by
  cases e : rdD l 0 true with
  | none => rfl
  | some N =>
    have := (rdD_iff l N).1 e
    rw [← this.2, dec_num] at h
    exact absurd rfl h
theorem rdD_yes {l : List UInt8} (h1 : numF l 0 ≤ 1000000000) (h : dec (numF l 0) = l) : rdD l 0 true = some (numF l 0) := (rdD_iff l _).2 ⟨h1, h⟩
end Go.Proofs.YtbcfiiilikkkeaaGreatDoor.Words
namespace Go.Proofs.YtbcfiiilikkkeaaGreatDoor
set_option linter.unusedVariables false
structure ShelfL where
  man : ManL
  dir : List SpotL
  stamp : Int
namespace Dirs
open Go
open Batches (lt)
def spotOkB (c : SpotL) : Bool := decide ((1 ≤ c.key.size ∧ c.key.size ≤ 10) ∧ (0 ≤ c.seg ∧ c.seg ≤ 999) ∧ (0 ≤ c.pos ∧ c.pos ≤ 20000) ∧ (0 ≤ c.size ∧ c.size ≤ 40))
theorem spotOkB_iff (c : SpotL) : spotOkB c = true ↔ spotOk c := decide_eq_true_iff
def okAtB (l : List SpotL) (j : Nat) : Bool := match l[j]? with
  | none => false
  | some f => spotOkB f && (j == 0 || match l[j - 1]? with | none => false | some e => lt e.key f.key)
def okB (l : List SpotL) : Bool := decide (l.length ≤ 60) && (List.range l.length).all (okAtB l)
theorem okAtB_iff (l : List SpotL) (j : Nat) : okAtB l j = true ↔ okAt l j := by
  unfold okAtB okAt
  by_cases hj : j < l.length
  · rw [List.getElem?_eq_getElem hj]
    simp only [Bool.and_eq_true, spotOkB_iff, Bool.or_eq_true, beq_iff_eq]
    constructor
    · rintro ⟨h1, h2⟩
      refine ⟨hj, h1, fun hp => ⟨by omega, ?_⟩⟩
      rcases h2 with h2 | h2
      · omega
      · rw [List.getElem?_eq_getElem (show j - 1 < l.length by omega)] at h2; exact h2
    · rintro ⟨_, h1, h2⟩
      refine ⟨h1, ?_⟩
      by_cases hz : j = 0
      · exact Or.inl hz
      · right
        obtain ⟨hi, h3⟩ := h2 (by omega)
        rw [List.getElem?_eq_getElem hi]; exact h3
  · rw [List.getElem?_eq_none (by omega)]
    simp [hj]
theorem okB_iff (l : List SpotL) : okB l = true ↔ ok l := by
  unfold okB ok
  simp only [Bool.and_eq_true, decide_eq_true_eq, List.all_eq_true, List.mem_range, okAtB_iff]
end Dirs
namespace Mans
open Go
open Batches (by_ by_inj)
def okB (m : ManL) : Bool := decide ((1 ≤ m.segs.length ∧ m.segs.length ≤ 8) ∧ (0 ≤ m.next ∧ m.next ≤ 1000)) && (asc 0 (m.next - 1) m.segs && (decide ((0 ≤ m.base ∧ m.base ≤ 100000) ∧ (0 ≤ m.term ∧ m.term ≤ 100000)) && confOk m.conf))
theorem okB_iff (m : ManL) : okB m = true ↔ ok m := by
  unfold okB ok
  simp only [Bool.and_eq_true, decide_eq_true_eq]
  exact ⟨fun ⟨⟨h1, h2⟩, h3, ⟨h4, h5⟩, h6⟩ => ⟨h1, h2, h3, h4, h5, h6⟩, fun ⟨h1, h2, h3, h4, h5, h6⟩ => ⟨⟨h1, h2⟩, h3, ⟨h4, h5⟩, h6⟩⟩
def rest4 (u : ByteArray) (l : List Int) (x y z : Nat) (a4 : Nat) : Option ManL :=
  match Words.rd (by_ u) a4 with
  | none => none
  | some (k, a5) => match rdMany u k a5 with
    | none => none
    | some (c, e) => if (decide (e = u.size) && okB ⟨l, x, y, z, c⟩) = true then some ⟨l, x, y, z, c⟩ else none
def rest1 (u : ByteArray) (l : List Int) (a1 : Nat) : Option ManL :=
  match Words.rd (by_ u) a1 with
  | none => none
  | some (x, a2) => match Words.rd (by_ u) a2 with
    | none => none
    | some (y, a3) => match Words.rd (by_ u) a3 with
      | none => none
      | some (z, a4) => rest4 u l x y z a4
def rest0 (u : ByteArray) : Option ManL :=
  match Words.rd (by_ u) 0 with
  | none => none
  | some (n, a0) => match rdMany u n a0 with
    | none => none
    | some (l, a1) => rest1 u l a1
/-- A text read as a manifest. -/
def manOf (t : ByteArray) : Option ManL := match Sums.unsealed (by_ t) with
  | none => none
  | some u => rest0 ⟨u.toArray⟩
theorem rest4_some {u : ByteArray} {l : List Int} {x y z a4 : Nat} {m : ManL} (h : rest4 u l x y z a4 = some m) : ∃ k a5, Words.rd (by_ u) a4 = some (k, a5) ∧ rdMany u k a5 = some (m.conf, u.size) ∧ m = ⟨l, x, y, z, m.conf⟩ ∧ ok m := by
  unfold rest4 at h
  split at h
  · cases h
  · rename_i k a5 h1
    split at h
    · cases h
    · rename_i c e h2
      split at h
      · rename_i hc
        rw [Bool.and_eq_true, decide_eq_true_eq, okB_iff] at hc
        simp only [Option.some.injEq] at h
        subst h
        exact ⟨k, a5, h1, by rw [h2, hc.1], rfl, hc.2⟩
      · cases h
theorem rest1_some {u : ByteArray} {l : List Int} {a1 : Nat} {m : ManL} (h : rest1 u l a1 = some m) : ∃ x y z a2 a3 a4, Words.rd (by_ u) a1 = some (x, a2) ∧ Words.rd (by_ u) a2 = some (y, a3) ∧ Words.rd (by_ u) a3 = some (z, a4) ∧ rest4 u l x y z a4 = some m := by
  unfold rest1 at h
  split at h
  · cases h
  · rename_i x a2 h1
    split at h
    · cases h
    · rename_i y a3 h2
      split at h
      · cases h
      · rename_i z a4 h3
        exact ⟨x, y, z, a2, a3, a4, h1, h2, h3, h⟩
theorem rest0_some {u : ByteArray} {m : ManL} (h : rest0 u = some m) : by_ u = text m ∧ ok m := by
  unfold rest0 at h
  split at h
  · cases h
  · rename_i n a0 h0
    split at h
    · cases h
    · rename_i l a1 h1
      obtain ⟨x, y, z, a2, a3, a4, h2, h3, h4, h5⟩ := rest1_some h
      obtain ⟨k, a5, h6, h7, h8, h9⟩ := rest4_some h5
      have q1 := (rdMany_cut _ _ _ _ (Batches.rd_cut h0).2.1 h1).2.2.2.1
      have q2 := (rdMany_cut _ _ _ _ (Batches.rd_cut h6).2.1 h7).2.2.2.1
      have g : Gets u m a0 a1 a2 a3 a4 a5 u.size := by
        obtain ⟨o1, o2, o3, o4, o5, o6⟩ := id h9
        obtain ⟨g1, g2⟩ := confOk_iff.1 o6
        rw [h8] at o1 ⊢
        subst q1 q2
        exact ⟨o1.2, h0, h1, h2, h3, h4, g1.2, h6, h7, by simp, by simp, by simp⟩
      exact ⟨gets_text g, h9⟩
theorem rest0_gets {u : ByteArray} {m : ManL} {a0 a1 a2 a3 a4 a5 : Nat} (h : Gets u m a0 a1 a2 a3 a4 a5 u.size) (ho : ok m) : rest0 u = some m := by
  have e : (⟨m.segs, (m.next.toNat : Int), (m.base.toNat : Int), (m.term.toNat : Int), m.conf⟩ : ManL) = m := by
    have h2 := h.i2; have h3 := h.i3; have h4 := h.i4
    clear h ho
    cases m
    simp only [ManL.mk.injEq, true_and, and_true] at *
    omega
  unfold rest0
  rw [h.r0]
  simp only
  rw [h.r1]
  simp only
  unfold rest1
  rw [h.r2]
  simp only
  rw [h.r3]
  simp only
  rw [h.r4]
  simp only
  unfold rest4
  rw [h.r5]
  simp only
  rw [h.r6]
  simp only
  rw [e, if_pos]
  rw [Bool.and_eq_true, okB_iff]
  exact ⟨by simp, ho⟩
theorem manOf_iff {t : ByteArray} {m : ManL} : manOf t = some m ↔ Got t m := by
  constructor
  · intro h
    unfold manOf at h
    split at h
    · cases h
    · rename_i u hu
      obtain ⟨h1, h2⟩ := rest0_some h
      exact unsealed_got (by rw [hu]; exact congrArg some h1) h2
  · intro h
    unfold manOf
    rw [got_unsealed h]
    simp only
    obtain ⟨a0, a1, a2, a3, a4, a5, g⟩ := text_gets (u := ⟨(text m).toArray⟩) rfl h.2
    exact rest0_gets g h.2
end Mans
namespace Shelves
open Go
open Batches (by_ by_inj lt)
open Scan (segEnd segSpots segStamp Full)
open Disks (fileAt textOf RawL nameIs)
def nameM : ByteArray := ⟨#[109]⟩
def nameNew : ByteArray := ⟨#[109, 43]⟩
/-- The name of a segment. -/
def segName (n : Int) : ByteArray := if 0 ≤ n ∧ n ≤ 999 then ⟨(103 :: Words.dec n.toNat).toArray⟩ else ⟨#[]⟩
theorem segName_in {n : Int} (h : 0 ≤ n ∧ n ≤ 999) : by_ (segName n) = 103 :: Words.dec n.toNat := by
  unfold segName; rw [if_pos h]
/-- The number of a segment's name. -/
def segOf (name : ByteArray) : Option Nat := match Words.rdD ((by_ name).drop 1) 0 true with
  | none => none
  | some n => if (by_ (segName n) == by_ name) = true then some n else none
theorem segOf_iff {name : ByteArray} {n : Nat} : segOf name = some n ↔ n ≤ 999 ∧ name = segName n := by
  unfold segOf
  constructor
  · intro h
    split at h
    · cases h
    · rename_i k hk
      split at h
      · rename_i he
        simp only [Option.some.injEq] at h
        subst h
        have e := by_inj (beq_iff_eq.1 he)
        refine ⟨?_, e.symm⟩
        by_cases hle : k ≤ 999
        · exact hle
        · exfalso
          have h0 : segName (k : Int) = ⟨#[]⟩ := by unfold segName; rw [if_neg (by omega)]
          have hd := (Words.rdD_iff _ _).1 hk
          rw [← e, h0] at hd
          exact Words.dec_ne k (by rw [hd.2]; rfl)
      · cases h
  · rintro ⟨h1, rfl⟩
    have e := segName_in (n := (n : Int)) (by omega)
    rw [e, List.drop_one, List.tail_cons, (Words.rdD_iff _ n).2 ⟨by omega, by simp⟩]
    simp only
    rw [e, if_pos (by simp)]
def textAt (l : List FileL) (n : Int) : List UInt8 := by_ (textOf l (segName n))
def dirOf (l : List FileL) : List SpotL → List Int → List SpotL
  | d, [] => d
  | d, n :: r => dirOf l (Dirs.more d (segSpots n (textAt l n))) r
def stOf (l : List FileL) : Int → List Int → Int
  | s, [] => s
  | s, n :: r => stOf l (if s < segStamp (textAt l n) then segStamp (textAt l n) else s) r
theorem dirOf_app (l : List FileL) : ∀ (r q : List Int) (d : List SpotL), dirOf l d (r ++ q) = dirOf l (dirOf l d r) q
  | [], q, d => rfl
  | n :: r, q, d => by rw [List.cons_append, dirOf, dirOf, dirOf_app l r]
theorem stOf_app (l : List FileL) : ∀ (r q : List Int) (s : Int), stOf l s (r ++ q) = stOf l (stOf l s r) q
  | [], q, s => rfl
  | n :: r, q, s => by rw [List.cons_append, stOf, stOf, stOf_app l r]
theorem dirOf_all {l : List FileL} {p : SpotL → Prop} : ∀ (r : List Int) (d : List SpotL), (∀ x ∈ d, p x) → (∀ n ∈ r, ∀ x ∈ segSpots n (textAt l n), p x) → ∀ x ∈ dirOf l d r, p x
  | [], d, h, _ => h
  | n :: r, d, h, h2 => dirOf_all r _ (Dirs.more_all _ _ h (h2 n List.mem_cons_self)) (fun m hm => h2 m (List.mem_cons_of_mem _ hm))
/-- The last of a manifest's segments. -/
def lastOf (m : ManL) : Int := m.segs.getLast?.getD 0
/-- The shelf that a disk has, and how far the batches of its last segment go; or a code. -/
def load (l : List FileL) : Except Int (ShelfL × Nat) :=
  if Disks.okB l = true then
    match fileAt l nameM with
    | none => .error 2
    | some t => match Mans.manOf t with
      | none => .error 2
      | some m =>
        if (m.segs.all fun n => (fileAt l (segName n)).isSome) = true then
          if (m.segs.dropLast.all fun n => decide (segEnd (textAt l n) = (textAt l n).length)) = true then
            if Dirs.okB (dirOf l [] m.segs) = true then .ok (⟨m, dirOf l [] m.segs, stOf l m.base m.segs⟩, segEnd (textAt l (lastOf m))) else .error 4
          else .error 4
        else .error 3
  else .error 1
structure Loads (l : List FileL) (s : ShelfL) (e : Nat) : Prop where
  disk : Disks.ok l
  man : ∃ t, fileAt l nameM = some t ∧ Mans.Got t s.man
  segs : ∀ n ∈ s.man.segs, (fileAt l (segName n)).isSome = true
  full : ∀ n ∈ s.man.segs.dropLast, Full (textAt l n)
  dir : s.dir = dirOf l [] s.man.segs
  stamp : s.stamp = stOf l s.man.base s.man.segs
  right : Dirs.ok s.dir
  ends : e = segEnd (textAt l (lastOf s.man))
theorem load_iff {l : List FileL} {s : ShelfL} {e : Nat} : load l = .ok (s, e) ↔ Loads l s e := by
  constructor
  · intro h
    unfold load at h
    split at h
    · rename_i h0
      split at h
      · cases h
      · rename_i t ht
        split at h
        · cases h
        · rename_i m hm
          split at h
          · rename_i h1
            split at h
            · rename_i h2
              split at h
              · rename_i h3
                simp only [Except.ok.injEq, Prod.mk.injEq] at h
                obtain ⟨rfl, rfl⟩ := h
                refine ⟨(Disks.okB_iff l).1 h0, ⟨t, ht, Mans.manOf_iff.1 hm⟩, List.all_eq_true.1 h1, fun n hn => ?_, rfl, rfl, (Dirs.okB_iff _).1 h3, rfl⟩
                have q := List.all_eq_true.1 h2 n hn
                rw [decide_eq_true_eq] at q
                exact q
              · cases h
            · cases h
          · cases h
    · cases h
  · rintro ⟨h0, ⟨t, ht, hm⟩, h1, h2, h3, h4, h5, rfl⟩
    unfold load
    rw [if_pos ((Disks.okB_iff l).2 h0), ht]
    simp only
    rw [Mans.manOf_iff.2 hm]
    simp only
    rw [if_pos (List.all_eq_true.2 h1), if_pos (List.all_eq_true.2 fun n hn => by have q := h2 n hn; unfold Full at q; rw [decide_eq_true_eq]; exact q), if_pos ((Dirs.okB_iff _).2 (by rw [← h3]; exact h5)), ← h3, ← h4]
def drop1 (n : ByteArray) : RawL := ⟨4, n, ⟨#[]⟩, ⟨#[]⟩⟩
def put1 (n t : ByteArray) : RawL := ⟨1, n, ⟨#[]⟩, t⟩
/-- A file whose name is a segment's that the manifest has not. -/
def stray (m : ManL) (f : FileL) : Bool := match segOf f.1 with
  | none => false
  | some n => !(m.segs.contains (n : Int))
def upTo (t : List UInt8) (e : Nat) : ByteArray := ⟨(t.take e).toArray⟩
/-- The raw writes that clean a disk. -/
def cleans (l : List FileL) (m : ManL) (e : Nat) : List RawL :=
  (if (fileAt l nameNew).isSome = true then [drop1 nameNew] else []) ++ (((l.filter (stray m)).map fun f => drop1 f.1) ++ (if e < (textAt l (lastOf m)).length then [put1 (segName (lastOf m)) (upTo (textAt l (lastOf m)) e)] else []))
def opens (l : List FileL) : Except Int (ShelfL × List RawL) := match load l with
  | .error c => .error c
  | .ok (s, e) => .ok (s, cleans l s.man e)
theorem segs_ne {m : ManL} (h : Mans.ok m) : m.segs = m.segs.dropLast ++ [lastOf m] ∧ ∀ n ∈ m.segs, 0 ≤ n ∧ n ≤ 999 := by
  have h1 := h.1.1
  have hne : m.segs ≠ [] := fun e => by rw [e] at h1; simp at h1
  refine ⟨?_, fun n hn => ?_⟩
  · unfold lastOf
    rw [List.getLast?_eq_some_getLast hne, Option.getD_some, List.dropLast_concat_getLast]
  · have := Mans.asc_in _ _ _ h.2.2.1 n hn
    have := h.2.1
    omega
end Shelves
end Go.Proofs.YtbcfiiilikkkeaaGreatDoor
