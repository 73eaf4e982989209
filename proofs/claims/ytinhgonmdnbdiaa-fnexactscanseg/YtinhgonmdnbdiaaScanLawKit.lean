/- What the exact law of ScanSeg needs: an answer of two rows, how few spots there are. -/
import Derived.Test.YtinhgonmdnbdiaaSpecScan
import Derived.Test.YtinhgonmdnbdiaaMarkSpot
import Derived.Test.YtinhgonmdnbdiaaMarkTexts
import Derived.Test.YtinhgonmdnbdiaaLaw
namespace Go.Proofs.Ytinhgonmdnbdiaa
open Go.RowKit
set_option linter.unusedVariables false

/-- An answer of two rows and a number. -/
def TwoPost (w : World) (SP : List SpotL) (TX : List (List UInt8)) (ST : Int) (en : Ending) (w' : World) : Prop :=
  ∃ v1 v2, en = .returned (.tuple #[v1, v2, .int .i64 ST]) ∧ w'.ownsRow w.heap.size 56 4 v1 SP.length (cellsSpot SP) ∧ w'.ownsRow w.heap.size 9 1 v2 TX.length (cellsS TX) ∧ Below w.heap.size w w'
/-- A call that answers with two rows of its own. -/
theorem LawS.call2 {w W W' : World} {bs : List (Nat × Obj)} {rows : List RowD} (h : LawS w bs rows W) (hb : Below W.heap.size W W') {v u : Value} {e f : TypeId} {z y n m : Nat} {xs ys : List Value} (hv : W'.ownsRow W.heap.size e z v n xs) (hu : W'.ownsRow W.heap.size f y u m ys) (hne : f ≠ e) : LawS w bs (⟨u, f, y, m, ys⟩ :: ⟨v, e, z, n, xs⟩ :: rows) W' := by
  have h2 := h.call hb hv
  refine ⟨h2.below, h2.has, fun p hp => ?_, fun p hp q hq => ?_, List.Pairwise.cons (fun q hq => ?_) h2.apart, h.dist, h.up⟩
  · rcases List.mem_cons.1 hp with rfl | hp
    · exact own_mono hu h.below.size
    · exact h2.own p hp
  · rcases List.mem_cons.1 hq with rfl | hq
    · intro e
      have h3 := (hu.lt _ e).1
      have h4 := h.bsz p hp
      omega
    · exact h2.sep p hp q hq
  · cases e : u.ownBlock with
    | none => exact Or.inl rfl
    | some k =>
      right
      intro e2
      rcases List.mem_cons.1 hq with rfl | hq
      · exact own_apart hu hv hne k e e2.symm
      · have h3 := (hu.lt _ e).1
        have h4 := h.rsz q hq k e2.symm
        omega
theorem many_ge : ∀ l : List ChangeL, l.length ≤ (Batches.many l).length
  | [] => by simp [Batches.many]
  | c :: l => by
    have := many_ge l
    rw [Batches.many, List.length_append, List.length_cons, Batches.one, List.length_append, List.length_cons]
    omega
theorem got_len {r : List UInt8} {st : Nat} {l : List ChangeL} (h : Batches.Got ⟨r.toArray⟩ st l) : l.length ≤ r.length := by
  have h1 := h.1
  have h2 := many_ge l
  have h3 : r = Batches.text st l := by simpa [Batches.by_] using h1
  rw [h3, Batches.text, List.length_append, List.length_append]
  omega
theorem spots_end {seg : Int} : ∀ (l : List Scan.It) (a : Nat), (∀ x ∈ l, x.ch.length ≤ x.bytes.length) → a + (Scan.itSpots seg a l).length ≤ Scan.itEnd a l
  | [], a, _ => by simp [Scan.itSpots, Scan.itEnd]
  | x :: l, a, h => by
    have h1 := h x List.mem_cons_self
    have h2 := spots_end (seg := seg) l (Scan.itNext a x) (fun y hy => h y (List.mem_cons_of_mem _ hy))
    rw [Scan.itSpots, Scan.itEnd, List.length_append, Scan.chSpots_len]
    unfold Scan.itNext at *
    omega
theorem spots_few {s : ByteArray} {seg : Int} {items : List Scan.It} (h : Scan.Reads (unS s) items) : (Scan.itSpots seg 0 items).length ≤ 20000 := by
  have h1 := spots_end (seg := seg) items 0 (fun x hx => by
    obtain ⟨i, hi, rfl⟩ := List.getElem_of_mem hx
    obtain ⟨q1, q2⟩ := h.2.1 i hi (by have := h.1; omega)
    rw [q1]
    exact got_len q2)
  have h2 := Scan.reads_end h items.length (Nat.le_refl _) 0
  rw [List.take_length] at h2
  have h3 := Scan.recEnd_take (rs := unS s) (a := 0) items.length
  have h4 := unE_rec s
  have h5 := unE_le s
  omega
end Go.Proofs.Ytinhgonmdnbdiaa
