/- Leaders, in plain mathematics: no program is named but an address. -/
import Derived.Test.YtddmogggdckneaaSpecLog
namespace Go.Proofs.Ytddmogggdckneaa
/-- A leader as its five cells. -/
structure LcL where
  node : Int
  term : Int
  start : Int
  sterm : Int
  ents : Option Addr × Nat × Nat
structure LdL where
  node : Int
  term : Int
  log : LogL
structure WcL where
  thing : Int
  saw : Int
def lcOf (r : LdL) (b : Option Addr) (cb : Nat) : LcL := ⟨r.node, r.term, r.log.start, r.log.sterm, (b, r.log.ents.length, cb)⟩
def wcOf (r : LcL) : WcL := ⟨r.term, r.node⟩
def lcPair (r : LcL) : Int × Int := (r.term, r.node)
def lcPairs (l : List LcL) : List (Int × Int) := l.map lcPair
def wcPair (r : WcL) : Int × Int := (r.thing, r.saw)
def wcPairs (l : List WcL) : List (Int × Int) := l.map wcPair
def wcS (l : List LcL) : List WcL := l.map wcOf
theorem wcPairs_wcS (l : List LcL) : wcPairs (wcS l) = lcPairs l := by simp [wcPairs, wcS, lcPairs, wcPair, wcOf, lcPair, Function.comp_def]
def totLd : List LdL → Nat
  | [] => 0
  | r :: l => totEn r.log.ents + 1 + totLd l
theorem totLd_app : ∀ (l m : List LdL), totLd (l ++ m) = totLd l + totLd m
  | [], m => by simp [totLd]
  | r :: l, m => by simp only [List.cons_append, totLd, totLd_app l m]; omega
theorem totLd_len : ∀ l : List LdL, l.length ≤ totLd l
  | [] => by simp [totLd]
  | r :: l => by have := totLd_len l; simp only [List.length_cons, totLd]; omega
theorem totLd_mem : ∀ {l : List LdL} {r : LdL}, r ∈ l → totEn r.log.ents + 1 ≤ totLd l
  | x :: l, r, h => by
    rcases List.mem_cons.1 h with rfl | h
    · simp only [totLd]; omega
    · have := totLd_mem h; simp only [totLd]; omega
theorem totLd_take {l : List LdL} {j : Nat} (hj : j < l.length) : totLd (l.take (j + 1)) = totLd (l.take j) + (totEn l[j].log.ents + 1) := by
  rw [List.take_succ_eq_append_getElem hj, totLd_app]; simp [totLd]
end Go.Proofs.Ytddmogggdckneaa
