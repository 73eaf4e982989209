/- Rows of files in memory: two cells each; no program is named but for its types. -/
import Derived.Test.YtjpokcjpogkafaaDoorDiskBase
namespace Go.Proofs.YtjpokcjpogkafaaDoor
open Go.RowKit

abbrev FileL := ByteArray × ByteArray
/-- A slice at a whose elements are these files. -/
def FilesAt (w : World) (a : Option Addr) (g off : Nat) (l : List FileL) : Prop :=
  (0 < l.length → a = some ⟨g, off, none⟩) ∧ ∀ j (hj : j < l.length), w.cell? ⟨g, off + j * 2, none⟩ = some (.string l[j].1) ∧ w.cell? ⟨g, off + j * 2 + 1, none⟩ = some (.string l[j].2)
theorem FilesAt.lt {w : World} {a : Option Addr} {g off : Nat} {l : List FileL} (h : FilesAt w a g off l) (hl : 0 < l.length) : g < w.heap.size := by
  have := World.block_lt_of_cell? w _ (h.2 0 hl).1
  exact this
theorem FilesAt.kept {w w' : World} {a : Option Addr} {g off : Nat} {l : List FileL} (h : FilesAt w a g off l) (hb : Below w.heap.size w w') : FilesAt w' a g off l := by
  refine ⟨h.1, fun j hj => ?_⟩
  have hg := h.lt (by omega)
  rw [hb.cell (p := ⟨g, off + j * 2, none⟩) hg, hb.cell (p := ⟨g, off + j * 2 + 1, none⟩) hg]
  exact h.2 j hj
/-- How much files hold. -/
def tot : List FileL → Nat
  | [] => 0
  | f :: r => f.1.size + f.2.size + 1 + tot r
theorem tot_app : ∀ (l m : List FileL), tot (l ++ m) = tot l + tot m
  | [], m => by simp [tot]
  | f :: r, m => by simp only [List.cons_append, tot, tot_app r m]; omega
theorem tot_len : ∀ l : List FileL, l.length ≤ tot l
  | [] => by simp [tot]
  | f :: r => by have := tot_len r; simp only [List.length_cons, tot]; omega
theorem tot_mem : ∀ {l : List FileL} {f : FileL}, f ∈ l → f.1.size + f.2.size + 1 ≤ tot l
  | x :: r, f, h => by
    rcases List.mem_cons.1 h with rfl | h
    · simp only [tot]; omega
    · have := tot_mem h; simp only [tot]; omega
theorem tot_take {l : List FileL} {j : Nat} (hj : j < l.length) : tot (l.take (j + 1)) = tot (l.take j) + (l[j].1.size + l[j].2.size + 1) := by
  rw [List.take_succ_eq_append_getElem hj, tot_app]; simp [tot]
/-- The cells of a row of files. -/
def cellsF (l : List FileL) : List Value := l.flatMap fun f => [.string f.1, .string f.2]
theorem cellsF_len : ∀ l : List FileL, (cellsF l).length = l.length * 2
  | [] => rfl
  | f :: r => by have := cellsF_len r; simp only [cellsF, List.flatMap_cons, List.length_append, List.length_cons, List.length_nil] at *; omega
theorem cellsF_app (l m : List FileL) : cellsF (l ++ m) = cellsF l ++ cellsF m := by simp [cellsF]
theorem cellsF_at : ∀ (l : List FileL) (j : Nat) (hj : j < l.length), (cellsF l)[j * 2]? = some (.string l[j].1) ∧ (cellsF l)[j * 2 + 1]? = some (.string l[j].2)
  | f :: r, 0, _ => ⟨rfl, rfl⟩
  | f :: r, j + 1, hj => by
    have := cellsF_at r j (by simpa using hj)
    simpa [cellsF, Nat.add_mul, Nat.add_assoc] using this
theorem cellsF_set : ∀ (l : List FileL) (j : Nat) (f : FileL), cellsF (l.set j f) = ((cellsF l).set (j * 2) (.string f.1)).set (j * 2 + 1) (.string f.2)
  | [], j, f => by simp [cellsF]
  | x :: r, 0, f => by simp [cellsF]
  | x :: r, j + 1, f => by
    have := cellsF_set r j f
    simp only [cellsF, List.set_cons_succ, List.flatMap_cons, List.cons_append, List.nil_append, Nat.add_mul] at *
    rw [this]
theorem cellsF_empty : ∀ n : Nat, cellsF (List.replicate n (ByteArray.empty, ByteArray.empty)) = List.replicate (n * 2) (.string ByteArray.empty)
  | 0 => rfl
  | n + 1 => by
    have := cellsF_empty n
    rw [show (n + 1) * 2 = n * 2 + 1 + 1 by omega]
    simp only [cellsF, List.replicate_succ, List.flatMap_cons, List.cons_append, List.nil_append] at *
    rw [this]
theorem made_files (n : Nat) : (madeCells #[Value.string ByteArray.empty, Value.string ByteArray.empty] (n * 2)).toList = cellsF (List.replicate n (ByteArray.empty, ByteArray.empty)) := by
  rw [cellsF_empty]
  have key : ∀ i : Nat, (#[Value.string ByteArray.empty, Value.string ByteArray.empty] : Array Value)[i % 2]! = .string ByteArray.empty := by
    intro i
    rcases Nat.mod_two_eq_zero_or_one i with h | h <;> rw [h] <;> rfl
  simp only [madeCells, Array.toList_map, show (#[Value.string ByteArray.empty, Value.string ByteArray.empty] : Array Value).size = 2 from rfl, key]
  rw [List.map_const']
  simp
theorem cell_set2 {w : World} {p q : Addr} {u x y : Value} (hq : w.cell? q = some u) : ((w.setCell p x).setCell q y).cell? q = some y := by
  obtain ⟨v', h⟩ := cell?_setCell_some (p := p) (x := x) hq
  exact World.cell?_setCell_same _ _ _ h
theorem Tryd.info40 : (Tryd.prog.info? 40).map (fun i => (i.zero, i.size, i.bytes)) = some (some (.agg #[.string ByteArray.empty, .string ByteArray.empty]), 2, 32) := by kernel_rfl
theorem own_files {w : World} {base : Nat} {e : TypeId} {g n cap : Nat} {l : List FileL} (hn : l.length = n) (h : w.ownsRow base e 2 (.slice (some ⟨g, 0, none⟩) n cap) n (cellsF l)) : FilesAt w (some ⟨g, 0, none⟩) g 0 l := by
  refine ⟨fun _ => rfl, fun j hj => ?_⟩
  rw [Nat.zero_add, h.cellAt (j * 2) (by omega), h.cellAt (j * 2 + 1) (by omega)]
  exact cellsF_at l j hj
end Go.Proofs.YtjpokcjpogkafaaDoor
