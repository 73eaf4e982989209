/- What the walks share: rows that a call owns, regions that draw their order and whose calls lay memory of their own alone, a measure. Small calls that chapter 15 makes, walked: l01In, stampOk, ShortText, byteOf. Right commands and their texts as plain lists; no program is named here. -/
import Derived.Test.YtpedpdgkbmpfjaaDoorMathBatch
import Derived.BigQuiet
import Derived.Deep.RegionWith
import Derived.Deep.QuietTactic
import Derived.Deep.RegionHeld3
import Derived.Deep.RegionLaw
import Derived.Deep.AppendLies
namespace Go.Proofs.YtpedpdgkbmpfjaaDoor
open Go.RowKit

/-- A world that has all of W's memory as it was. -/
structure Abv (W : World) where
  w : World
  b : Below W.heap.size W w
theorem Abv.ne (W : World) : Nonempty (Abv W) := ⟨⟨W, Below.refl _ _⟩⟩
theorem Abv.cell {W : World} {p : Addr} {v : Value} (h : W.cell? p = some v) (x : Abv W) : x.w.cell? p = some v := by
  rw [x.b.cell (p := p) (World.block_lt_of_cell? W _ h)]; exact h
theorem calls_above {P : Program} {f : FuncId} {args : Array Value} {W : World} {v : Value} {x : Abv W} (h : Calls P f args x.w fun e w' => e = .returned v ∧ Below x.w.heap.size x.w w') :
    Calls P f args x.w fun e w'' => e = .returned v ∧ ∃ y : Abv W, w'' = y.w :=
  h.mono fun _ w' ⟨he, hb⟩ => ⟨he, ⟨w', x.b.trans (hb.mono x.b.size)⟩, rfl⟩
theorem wp_region_above {P : Program} {id : Nat} {Q : Exit → Act → World → Prop} {a : Act} {w : World} {l : List Oper} (hm : P.follows .mixedOrders = true) (hB : Region.lexB .any l.toArray = true)
    (h : wpQuiet P l.toArray (fun w' => ∃ x : Abv w, w' = x.w) (fun a' => ∀ w', (∃ x : Abv w, w' = x.w) → Q .normal a' w') l a) : (Code.region id l.toArray true).wp P Q a w :=
  wp_region_quiet (C := fun w' => ∃ x : Abv w, w' = x.w) hm hB ⟨⟨w.drew, (Below.refl _ _).drew⟩, rfl⟩ (by simpa using h)

theorem own_kept {B : Nat} {e : TypeId} {k : Nat} {v : Value} {n : Nat} {xs : List Value} {w w' : World} (h : w.ownsRow B e k v n xs) (hb : Below w.heap.size w w') : w'.ownsRow B e k v n xs := by
  refine ⟨h.1, ?_⟩
  rcases h.2 with h1 | ⟨g, cap, cur, h2, hg, hh, h3⟩
  · exact .inl h1
  · exact .inr ⟨g, cap, cur, h2, hg, by rw [hb.block g (Array.getElem?_eq_some_iff.1 hh).1]; exact hh, h3⟩
theorem grown_set (w : World) (g j : Nat) (v : Value) : w.grownBy (w.setCell ⟨g, j, none⟩ v) (some g) :=
  ⟨rfl, rfl, rfl, by simp [World.setCell], fun k _ hk => Below.heap_setCell w ⟨g, j, none⟩ v k (fun e => hk (by simp [e]))⟩
theorem own_set {B : Nat} {e : TypeId} {k : Nat} {v : Value} {n : Nat} {xs : List Value} {w : World} (h : w.ownsRow B e k v n xs) (g j : Nat) (x : Value) (hne : v.ownBlock ≠ some g) : (w.setCell ⟨g, j, none⟩ x).ownsRow B e k v n xs :=
  h.kept (grown_set w g j x) (Or.inr hne)
theorem own_mono {w : World} {base base' : Nat} {t : TypeId} {sz : Nat} {v : Value} {n : Nat} {xs : List Value} (h : w.ownsRow base t sz v n xs) (hb : base' ≤ base) : w.ownsRow base' t sz v n xs := by
  refine ⟨h.1, ?_⟩
  rcases h.2 with h1 | ⟨g, cap, cur, h2, hg, h3⟩
  · exact .inl h1
  · exact .inr ⟨g, cap, cur, h2, Nat.le_trans hb hg, h3⟩
theorem own_below' {w w' : World} {g : Nat} (h : Below w.heap.size w w') : w.grownBy w' (some g) := ⟨h.os, h.tape, h.output, h.size, fun k hk _ => h.block k hk⟩
theorem ans_no {R : Bool} {p : Prop} (h : R = true ↔ p) (hp : ¬ p) : R = false := by
  cases R with
  | false => rfl
  | true => exact absurd (h.1 rfl) hp
theorem two_set {W : World} {Z : Nat} {a0 a1 : Value} {t : TypeId} (h : W.heap[Z]? = some (.cells #[a0, a1] t (0, 0))) (v0 v1 : Value) :
    ((W.setCell ⟨Z, 0, none⟩ v0).setCell ⟨Z, 1, none⟩ v1).heap[Z]? = some (.cells #[v0, v1] t (0, 0)) := by
  have h1 := heap_setCell_same W Z 0 _ t v0 h
  have h2 := heap_setCell_same _ Z 1 _ t v1 h1
  simpa using h2
theorem two_cell {W : World} {Z : Nat} {a0 a1 : Value} {t : TypeId} (h : W.heap[Z]? = some (.cells #[a0, a1] t (0, 0))) (v0 v1 : Value) :
    let L := (W.setCell ⟨Z, 0, none⟩ v0).setCell ⟨Z, 1, none⟩ v1
    L.cell? ⟨Z, 0, none⟩ = some v0 ∧ L.cell? ⟨Z, 1, none⟩ = some v1 :=
  have h4 := two_set h v0 v1
  ⟨cell_of_row _ _ 0 _ _ _ h4, cell_of_row _ _ 1 _ _ _ h4⟩
theorem set_far {W : World} {R Z : Nat} {o : Obj} (h : W.heap[Z]? = some o) (hne : Z ≠ R) (j : Nat) (v : Value) : (W.setCell ⟨R, j, none⟩ v).heap[Z]? = some o := (Below.heap_setCell W ⟨R, j, none⟩ v Z (by simpa using hne)).trans h
theorem grown_below {w w1 w2 : World} {g : Nat} (h : w.grownBy w1 (some g)) (hb : Below w1.heap.size w1 w2) : w.grownBy w2 (some g) := h.trans (own_below' hb)
theorem grown_drewN {w w' : World} {row : Option Nat} (h : w.grownBy w' row) (n : Nat) : w.grownBy (w'.drewN n) row := ⟨h.os, h.tape, h.output, h.size, h.block⟩
theorem grown_keep {w w' : World} {k g : Nat} {o : Obj} (h : w.heap[k]? = some o) (hg : w.grownBy w' (some g)) (hne : k ≠ g) : w'.heap[k]? = some o :=
  (hg.block k (Array.getElem?_eq_some_iff.1 h).1 (fun e => hne (Option.some.inj e))).trans h
theorem grown_alloc {w : World} (o : Obj) (g : Nat) : w.grownBy (w.alloc o) (some g) := own_below' ((Below.refl _ _).alloc (Nat.le_refl _) _)
theorem grown_new {w W : World} {g k : Nat} (h : w.grownBy W (some g)) (hk : w.heap.size ≤ k) (j : Nat) (v : Value) : w.grownBy (W.setCell ⟨k, j, none⟩ v) (some g) := h.andThen (grown_set W k j v) (fun r e => Or.inl (by cases e; exact hk))
theorem own_slice {w : World} {base : Nat} {t : TypeId} {sz : Nat} {v : Value} {n : Nat} {xs : List Value} (h : w.ownsRow base t sz v n xs) : ∃ a c, v = .slice a n c := by
  rcases h.2 with ⟨rfl, rfl⟩ | ⟨g, cap, cur, rfl, _⟩
  · exact ⟨_, _, rfl⟩
  · exact ⟨_, _, rfl⟩
theorem own_not {W : World} {b k n : Nat} {e t : TypeId} {v : Value} {xs : List Value} (h : W.ownsRow b e k v n xs) {q : Nat} {cs : Array Value} {fz : Nat × Nat} (ho : W.heap[q]? = some (.cells cs t fz)) (hne : e ≠ t) : v.ownBlock ≠ some q := by
  intro hq
  rcases h.2 with ⟨h1, _⟩ | ⟨g, cap, cur, h1, _, hh, _⟩
  · rw [h1] at hq; simp [Value.ownBlock] at hq
  · rw [h1] at hq
    obtain rfl : g = q := by simpa [Value.ownBlock] using hq
    rw [ho] at hh; cases hh; exact hne rfl
theorem grown_keep' {w w' : World} {k : Nat} {o : Obj} {r : Option Nat} (h : w.heap[k]? = some o) (hg : w.grownBy w' r) (hne : r ≠ some k) : w'.heap[k]? = some o :=
  (hg.block k (Array.getElem?_eq_some_iff.1 h).1 (fun e => hne e.symm)).trans h
end Go.Proofs.YtpedpdgkbmpfjaaDoor
namespace Go.Proofs.YtpedpdgkbmpfjaaDoor
open Go.RowKit
set_option linter.unusedVariables false
set_option linter.unusedSimpArgs false

theorem in_is (n lo hi : Int) (R : Bool) (hR : R = true ↔ lo ≤ n ∧ n ≤ hi) (w : World) : Calls Tryd.prog 24 #[.int .i64 n, .int .i64 lo, .int .i64 hi] w fun e w' => e = .returned (.bool R) ∧ w' = w := by
  by_cases h1 : lo ≤ n
  · by_cases h2 : n ≤ hi
    · obtain rfl : R = true := hR.2 ⟨h1, h2⟩
      clear hR
      go_enter Tryd.func24, Tryd.ntmps24
      go_wp2
      go_ret
      exact ⟨rfl, rfl⟩
    · obtain rfl : R = false := ans_no hR (fun h => h2 h.2)
      clear hR
      go_enter Tryd.func24, Tryd.ntmps24
      go_wp2
      go_ret
      exact ⟨rfl, rfl⟩
  · obtain rfl : R = false := ans_no hR (fun h => h1 h.1)
    clear hR
    go_enter Tryd.func24, Tryd.ntmps24
    go_wp2
    go_ret
    exact ⟨rfl, rfl⟩
theorem stampOk_is (st : Int) (R : Bool) (hR : R = true ↔ 0 ≤ st ∧ st ≤ 100000) (w : World) :
    Calls Tryd.prog 33 #[.int .i64 st] w fun e w' => e = .returned (.bool R) ∧ w' = w := by
  by_cases h1 : 0 ≤ st
  · by_cases h2 : st ≤ 100000
    · obtain rfl : R = true := hR.2 ⟨h1, h2⟩
      clear hR
      go_enter Tryd.func33, Tryd.ntmps33
      go_wp2
      go_ret
      exact ⟨rfl, rfl⟩
    · obtain rfl : R = false := ans_no hR (fun h => h2 h.2)
      clear hR
      go_enter Tryd.func33, Tryd.ntmps33
      go_wp2
      go_ret
      exact ⟨rfl, rfl⟩
  · obtain rfl : R = false := ans_no hR (fun h => h1 h.1)
    clear hR
    go_enter Tryd.func33, Tryd.ntmps33
    go_wp2
    go_ret
    exact ⟨rfl, rfl⟩
end Go.Proofs.YtpedpdgkbmpfjaaDoor
namespace Go.Proofs.YtpedpdgkbmpfjaaDoor
set_option linter.unusedVariables false
set_option linter.unusedSimpArgs false

/-- A command. -/
structure CmdL where
  op : Int
  ses : Int
  seq : Int
  key : ByteArray
  val : ByteArray
  old : ByteArray

namespace Cmds
open Batches (by_ by_inj)
def inB (lo hi x : Int) : Bool := decide (lo ≤ x) && decide (x ≤ hi)
theorem inB_iff {lo hi x : Int} : inB lo hi x = true ↔ lo ≤ x ∧ x ≤ hi := by simp [inB]
def em (s : ByteArray) : Bool := s.toList.isEmpty
theorem em_iff {s : ByteArray} : em s = true ↔ s = ⟨#[]⟩ := by
  unfold em
  rw [ByteArray.toList_eq]
  constructor
  · intro h
    apply by_inj
    simpa [by_] using h
  · rintro rfl; rfl
theorem em_size {s : ByteArray} : em s = true ↔ s.size = 0 := by
  rw [em_iff]
  constructor
  · rintro rfl; rfl
  · intro h
    apply by_inj
    have : (by_ s).length = s.size := Words.size_list s
    rw [h] at this
    rw [List.length_eq_zero_iff.1 this]
/-- The fields that an op does not use are zero; an op that is none has no such. -/
def leftB (c : CmdL) : Bool :=
  if c.op = 1 then (decide (c.ses = 0) && decide (c.seq = 0)) && (em c.val && em c.old)
  else if c.op = 2 ∨ c.op = 4 then em c.val && em c.old
  else if c.op = 3 then em c.old
  else decide (c.op = 5)
/-- A right command. -/
def okC (c : CmdL) : Bool := ((inB 0 100000 c.ses && inB 0 100000 c.seq) && (decide (c.key.size < 10) && (decide (c.val.size ≤ 12) && decide (c.old.size ≤ 12)))) && ((em c.key == decide (c.op = 1)) && leftB c)
structure Fits (c : CmdL) : Prop where
  op : 1 ≤ c.op ∧ c.op ≤ 5
  ses : 0 ≤ c.ses ∧ c.ses ≤ 100000
  seq : 0 ≤ c.seq ∧ c.seq ≤ 100000
  key : c.key.size ≤ 9
  val : c.val.size ≤ 12
  old : c.old.size ≤ 12
theorem leftB_op {c : CmdL} (h : leftB c = true) : 1 ≤ c.op ∧ c.op ≤ 5 := by
  unfold leftB at h
  split at h
  · omega
  · split at h
    · omega
    · split at h
      · omega
      · simp at h; omega
theorem fits {c : CmdL} (h : okC c = true) : Fits c := by
  simp only [okC, Bool.and_eq_true, inB_iff, decide_eq_true_eq] at h
  obtain ⟨⟨⟨h1, h2⟩, h3, h4, h5⟩, h6, h7⟩ := h
  exact ⟨leftB_op h7, h1, h2, by omega, h4, h5⟩
end Cmds
end Go.Proofs.YtpedpdgkbmpfjaaDoor
