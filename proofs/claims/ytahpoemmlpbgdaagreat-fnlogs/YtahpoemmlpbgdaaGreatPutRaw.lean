/- Plain facts on raw writes. Raw writes copied and measured; disks marked and found marked: szRaw, toRaw, markDisk, heldDisk, walked. The call of the specification's PutRaw, walked. -/
import Derived.Test.YtahpoemmlpbgdaaGreatDiskOk
import Derived.Test.YtahpoemmlpbgdaaGreatPut
import Derived.Laws.AppendOwnNone
namespace Go.Proofs.YtahpoemmlpbgdaaGreat.Disks
open Go
abbrev RawL := Go.Proofs.YtahpoemmlpbgdaaGreat.RawL
def textOf (l : List FileL) (n : ByteArray) : ByteArray := match l.find? (nameIs n) with | some f => f.2 | none => ⟨#[]⟩
theorem textOf_is (l : List FileL) (n : ByteArray) : TextIs l n (textOf l n) := by
  unfold textOf
  cases h : l.find? (nameIs n) with
  | none =>
    left
    refine ⟨fun j hj => ?_, rfl⟩
    have := List.find?_eq_none.1 h l[j] (List.getElem_mem _)
    simpa using this
  | some f =>
    right
    obtain ⟨hf, k, hk, he, h2⟩ := List.find?_eq_some_iff_getElem.1 h
    refine ⟨k, hk, ⟨hk, by rw [he]; exact hf, fun j hj => by simpa using h2 j hj⟩, by rw [he]⟩
def rawOut (l : List FileL) (r : RawL) : List FileL :=
  if r.kind = 1 then put l (r.name, r.text) else if r.kind = 2 then put l (r.name, textOf l r.name ++ r.text)
  else if r.kind = 3 then (if (r.to.toList == r.name.toList) = true then l else put (drop l r.name) (r.to, textOf l r.name)) else drop l r.name
def good (l : List FileL) (r : RawL) : Prop := ok l ∧ (1 ≤ r.kind ∧ r.kind ≤ 4) ∧ (None l r.name → r.kind < 3)
def goodB (l : List FileL) (r : RawL) : Bool := okB l && decide (1 ≤ r.kind ∧ r.kind ≤ 4) && (l.any (nameIs r.name) || decide (r.kind < 3))
theorem any_iff (l : List FileL) (n : ByteArray) : l.any (nameIs n) = true ↔ ¬ None l n := by
  rw [List.any_eq_true]
  constructor
  · rintro ⟨f, hf, h⟩ h2
    obtain ⟨j, hj, rfl⟩ := List.mem_iff_getElem.1 hf
    rw [h2 j hj] at h; cases h
  · intro h
    rcases at_or_none l n with h2 | ⟨k, hk, h2, _⟩
    · exact absurd h2 h
    · exact ⟨_, List.getElem_mem _, h2⟩
theorem goodB_iff (l : List FileL) (r : RawL) : goodB l r = true ↔ good l r := by
  unfold goodB good
  rw [Bool.and_eq_true, Bool.and_eq_true, okB_iff, decide_eq_true_iff, Bool.or_eq_true, any_iff, decide_eq_true_iff]
  constructor
  · rintro ⟨⟨h1, h2⟩, h3⟩
    exact ⟨h1, h2, fun h => h3.resolve_left (fun h4 => h4 h)⟩
  · rintro ⟨h1, h2, h4⟩
    refine ⟨⟨h1, h2⟩, ?_⟩
    rcases Classical.em (None l r.name) with h5 | h5
    · exact Or.inr (h4 h5)
    · exact Or.inl h5
def putRaw (l : List FileL) (r : RawL) : Option (List FileL) := if (goodB l r && okB (rawOut l r)) = true then some (rawOut l r) else none
theorem putRaw_pos {l : List FileL} {r : RawL} (h : good l r ∧ ok (rawOut l r)) : putRaw l r = some (rawOut l r) := by
  unfold putRaw
  rw [if_pos (by rw [Bool.and_eq_true, goodB_iff, okB_iff]; exact h)]
theorem putRaw_neg {l : List FileL} {r : RawL} (h : ¬ (good l r ∧ ok (rawOut l r))) : putRaw l r = none := by
  unfold putRaw
  rw [if_neg (fun h2 => h (by rw [Bool.and_eq_true, goodB_iff, okB_iff] at h2; exact h2))]
theorem putRaw_some {l l' : List FileL} {r : RawL} (h : putRaw l r = some l') : good l r ∧ ok (rawOut l r) ∧ l' = rawOut l r := by
  rcases Classical.em (good l r ∧ ok (rawOut l r)) with h2 | h2
  · rw [putRaw_pos h2] at h; cases h; exact ⟨h2.1, h2.2, rfl⟩
  · rw [putRaw_neg h2] at h; cases h
theorem put_len (l : List FileL) (f : FileL) : (put l f).length ≤ l.length + 1 + l.length := by
  unfold put
  rw [List.length_append, List.length_append]
  have h1 := List.length_filter_le (fun e => lt e.1 f.1) l
  have h2 := List.length_filter_le (fun e => gt e.1 f.1) l
  simp only [List.length_cons, List.length_nil]
  omega
theorem put_mem {l : List FileL} {f e : FileL} (h : e ∈ put l f) : e = f ∨ e ∈ l := by
  unfold put at h
  simp only [List.mem_append, List.mem_filter, List.mem_singleton] at h
  rcases h with (⟨h, _⟩ | h) | ⟨h, _⟩
  · exact Or.inr h
  · exact Or.inl h
  · exact Or.inr h
end Go.Proofs.YtahpoemmlpbgdaaGreat.Disks
namespace Go.Proofs.YtahpoemmlpbgdaaGreat
open Go.RowKit

def rawV (r : Disks.RawL) : Value := .agg #[.int .i64 r.kind, .string r.name, .string r.to, .string r.text]
end Go.Proofs.YtahpoemmlpbgdaaGreat
namespace Go.Proofs.YtahpoemmlpbgdaaGreat
open Go.RowKit

theorem FilesAt.cells {w : World} {a : Option Addr} {g off : Nat} {l : List FileL} (h : FilesAt w a g off l) : ∀ j u, (cellsF l)[j]? = some u → w.cell? ((⟨g, off, none⟩ : Addr).add j) = some u := by
  intro j u hu
  rw [Addr.add_lit]
  have hj : j < l.length * 2 := by rw [← cellsF_len]; exact (List.getElem?_eq_some_iff.1 hu).1
  rcases Nat.mod_two_eq_zero_or_one j with h2 | h2
  · obtain ⟨k, rfl⟩ : ∃ k, j = k * 2 := ⟨j / 2, by omega⟩
    rw [(cellsF_at l k (by omega)).1] at hu
    rw [← Option.some.inj hu]
    exact (h.2 k (by omega)).1
  · obtain ⟨k, rfl⟩ : ∃ k, j = k * 2 + 1 := ⟨j / 2, by omega⟩
    rw [(cellsF_at l k (by omega)).2] at hu
    rw [← Option.some.inj hu]
    exact (h.2 k (by omega)).2
theorem cellsF_one {l : List FileL} : ∀ u ∈ cellsF l, u.oneCell' = true := by
  intro u hu
  unfold cellsF at hu
  obtain ⟨f, _, hf⟩ := List.mem_flatMap.1 hu
  exact two_strings f.1 f.2 u hf
theorem own_filesAt {w : World} {base : Nat} {v : Value} {l : List FileL} (h : w.ownsRow base 38 2 v l.length (cellsF l)) : ∃ a g cap, v = .slice a l.length cap ∧ FilesAt w a g 0 l := by
  rcases h.2 with ⟨h1, h2⟩ | ⟨g, cap, cur, h1, _⟩
  · refine ⟨none, 0, 0, by rw [h1, h2], fun hp => by omega, fun j hj => by omega⟩
  · subst h1
    exact ⟨_, g, cap, rfl, own_files rfl h⟩
/-- 'append(x, d.Files...)' onto a row of the call's own. -/
theorem wpList_append_files {w : World} {ops : Array Oper} {rest : List Oper} {o : Oper} {act : Act} {Q : Exit → Act → World → Prop} (hgd : o.guard = none) (s x : Operand)
    (ho : o.op = .call { callee := .builtin .append, args := #[s, x], argTypes := #[39, 39] }) (base : Nat) (v : Value) (n : Nat) (xs : List Value) (hs : act.eval s = v) (hown : w.ownsRow base 38 2 v n xs)
    (a : Option Addr) (g off cap : Nat) (l : List FileL) (hx : act.eval x = .slice a l.length cap) (hf : FilesAt w a g off l) (hnil : a = none → cap = 0) (h63 : n + l.length ≤ 4194304) (hbase : base ≤ w.heap.size)
    (h : ∀ v' w', w'.ownsRow base 38 2 v' (n + l.length) (xs ++ cellsF l) → w.grownBy w' v.ownBlock → wpList Tryz.prog ops Q rest (act.put o.dst v') w') : wpList Tryz.prog ops Q (o :: rest) act w := by
  obtain ⟨i0, hi, hz0, hz1, hz2⟩ := info_parts Tryz.info38
  cases a with
  | none =>
    have hl : l = [] := by
      cases l with
      | nil => rfl
      | cons f r => have := hf.1 (by simp); cases this
    subst hl
    rw [hnil rfl] at hx
    refine wpList_append_own_none hgd s x 39 ho base 38 i0 2 Tryz.underlying39 hi v n xs hs hown hx ?_
    refine h v w ?_ (World.grownBy.refl _ _)
    simpa [cellsF] using hown
  | some ad =>
    have had : 0 < l.length → ad = ⟨g, off, none⟩ := fun hp => Option.some.inj (hf.1 hp)
    refine wpList_append_own w hgd s x 39 ho base 38 i0 (.agg #[.string ByteArray.empty, .string ByteArray.empty]) 2 32 Tryz.underlying39 hi hz0 hz1 hz2 rfl (by decide) v n xs hs hown ad l.length cap (cellsF l) hx (cellsF_len l) ?_ cellsF_one (by unfold maxLen; omega) (by omega) hbase ?_
    · intro j u hu
      have hp : 0 < l.length := by
        have := (List.getElem?_eq_some_iff.1 hu).1
        rw [cellsF_len] at this
        omega
      rw [had hp]
      exact hf.cells j u hu
    · intro v' w' h1 h2 _
      exact h v' w' h1 h2

def rawC (r : Disks.RawL) : Obj := .cells #[.int .i64 r.kind, .string r.name, .string r.to, .string r.text] 69
/-- What a call of PutRaw keeps. -/
structure RawAt (h : Nat) (D : Value) (r : Disks.RawL) (W : World) : Prop where
  d : W.heap[h]? = some (.cells #[D] 41 (0, 0))
  r : W.heap[h + 1]? = some (rawC r)
  res : W.heap[h + 1 + 1]? = some (.cells #[.slice none 0 0] 41 (0, 0))
theorem RawAt.lt {h : Nat} {D : Value} {r : Disks.RawL} {W : World} (p : RawAt h D r W) : h + 1 + 1 < W.heap.size := (Array.getElem?_eq_some_iff.1 p.res).1
theorem RawAt.kept {h : Nat} {D : Value} {r : Disks.RawL} {W W' : World} (p : RawAt h D r W) (hb : Below W.heap.size W W') : RawAt h D r W' := by
  have := p.lt
  exact ⟨(hb.block _ (by omega)).trans p.d, (hb.block _ (by omega)).trans p.r, (hb.block _ (by omega)).trans p.res⟩
theorem RawAt.drew {h : Nat} {D : Value} {r : Disks.RawL} {W : World} (p : RawAt h D r W) : RawAt h D r W.drew := ⟨p.d, p.r, p.res⟩
theorem RawAt.cd {h : Nat} {D : Value} {r : Disks.RawL} {W : World} (p : RawAt h D r W) : W.cell? ⟨h, 0, none⟩ = some D := cell_of_row _ _ 0 _ _ _ p.d
theorem RawAt.c0 {h : Nat} {D : Value} {r : Disks.RawL} {W : World} (p : RawAt h D r W) : W.cell? ⟨h + 1, 0, none⟩ = some (.int .i64 r.kind) := cell_of_row _ _ 0 _ _ _ p.r
theorem RawAt.c1 {h : Nat} {D : Value} {r : Disks.RawL} {W : World} (p : RawAt h D r W) : W.cell? ⟨h + 1, 1, none⟩ = some (.string r.name) := cell_of_row _ _ 1 _ _ _ p.r
theorem RawAt.c2 {h : Nat} {D : Value} {r : Disks.RawL} {W : World} (p : RawAt h D r W) : W.cell? ⟨h + 1, 2, none⟩ = some (.string r.to) := cell_of_row _ _ 2 _ _ _ p.r
theorem RawAt.c3 {h : Nat} {D : Value} {r : Disks.RawL} {W : World} (p : RawAt h D r W) : W.cell? ⟨h + 1, 3, none⟩ = some (.string r.text) := cell_of_row _ _ 3 _ _ _ p.r
theorem RawAt.cr {h : Nat} {D : Value} {r : Disks.RawL} {W : World} (p : RawAt h D r W) : W.cell? ⟨h + 1 + 1, 0, none⟩ = some (.slice none 0 0) := cell_of_row _ _ 0 _ _ _ p.res
theorem RawAt.fr {h : Nat} {D : Value} {r : Disks.RawL} {W : World} (p : RawAt h D r W) : W.frozen? ⟨h + 1 + 1, 0, none⟩ = false := frozen_of_row _ _ _ _ _ p.res
theorem RawAt.start (w : World) (D : Value) (r : Disks.RawL) : RawAt w.heap.size D r (((w.alloc (.cells #[D] 41)).alloc (rawC r)).alloc (.cells #[.slice none 0 0] 41)) :=
  ⟨three_0 w _ _ _, three_1 w _ _ _, three_2 w _ _ _⟩

/-- What PutRaw answers with. -/
def putPost (w : World) (o : Option (List FileL)) (e : Ending) (w' : World) : Prop :=
  ∃ v : Value, e = .returned (.tuple #[.agg #[v], .bool o.isSome]) ∧ w'.ownsRow w.heap.size 38 2 v (o.getD []).length (cellsF (o.getD [])) ∧ Below w.heap.size w w'

theorem ok_sizes {l : List FileL} (h : Disks.ok l) : ∀ f ∈ l, f.1.size ≤ 12 ∧ f.2.size ≤ 20000 := by
  intro f hf
  obtain ⟨j, hj, rfl⟩ := List.mem_iff_getElem.1 hf
  obtain ⟨_, h1, _⟩ := h.2 j hj
  exact ⟨h1.2.1, h1.2.2⟩
theorem RawAt.set {h : Nat} {D : Value} {r : Disks.RawL} {W : World} (p : RawAt h D r W) (b j : Nat) (x : Value) (hb : h + 1 + 1 < b) : RawAt h D r (W.setCell ⟨b, j, none⟩ x) :=
  ⟨(Below.heap_setCell W ⟨b, j, none⟩ x h (by simp; omega)).trans p.d, (Below.heap_setCell W ⟨b, j, none⟩ x (h + 1) (by simp; omega)).trans p.r, (Below.heap_setCell W ⟨b, j, none⟩ x (h + 1 + 1) (by simp; omega)).trans p.res⟩
theorem put_some {l L : List FileL} {r : Disks.RawL} (hg : Disks.good l r) (hL : L = Disks.rawOut l r) (hok : Disks.ok L) : Disks.putRaw l r = some L := by
  rw [Disks.putRaw_pos ⟨hg, by rw [← hL]; exact hok⟩, hL]
theorem put_none {l L : List FileL} {r : Disks.RawL} (hL : L = Disks.rawOut l r) (hok : ¬ Disks.ok L) : Disks.putRaw l r = none := by
  rw [Disks.putRaw_neg (fun h => hok (by rw [hL]; exact h.2))]
theorem putPost_some {w w' : World} {o : Option (List FileL)} {L : List FileL} {v : Value} (ho : o = some L) (hown : w'.ownsRow w.heap.size 38 2 v L.length (cellsF L)) (hb : Below w.heap.size w w') : putPost w o (.returned (.tuple #[.agg #[v], .bool true])) w' := by
  subst ho
  exact ⟨v, rfl, hown, hb⟩
theorem putPost_none {w w' : World} {o : Option (List FileL)} (ho : o = none) (hb : Below w.heap.size w w') : putPost w o (.returned (.tuple #[.agg #[.slice none 0 0], .bool false])) w' := by
  subst ho
  exact ⟨_, rfl, World.ownsRow_nil _ _ _ _, hb⟩
theorem cell_far {w : World} {b c j i : Nat} {x v : Value} (h : w.cell? ⟨c, i, none⟩ = some v) (hne : c ≠ b) : (w.setCell ⟨b, j, none⟩ x).cell? ⟨c, i, none⟩ = some v :=
  (World.cell?_of_block (a := ⟨c, i, none⟩) (Below.heap_setCell w ⟨b, j, none⟩ x c hne)).trans h
end Go.Proofs.YtahpoemmlpbgdaaGreat
