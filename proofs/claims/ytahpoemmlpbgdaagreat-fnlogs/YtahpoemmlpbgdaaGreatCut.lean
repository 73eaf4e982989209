/- Lists of raw writes in memory, 4 cells each; measured, copied, held against each other, marked. Made by program. A list of raw writes cut: plainly; and the program's longestPart and beginningOf, walked. -/
import Derived.Test.YtahpoemmlpbgdaaGreatRaws
import Derived.Test.YtahpoemmlpbgdaaGreatPutRaw
import Derived.Test.YtahpoemmlpbgdaaGreatMarkA
import Derived.Test.YtahpoemmlpbgdaaGreatImplSteps
import Derived.WalkKit
import Derived.WalkSpells
import Derived.WalkLawsBesides
import Derived.Laws.IdiomStrings
import Derived.Laws.BytesArg
import Derived.Laws.BitsAllLaws
import Derived.BigQuiet
import Derived.Laws.AppendOwnNone
import Derived.Deep.RegionHeld3
import Derived.Deep.DeepCutAuto
import Derived.Test.YtahpoemmlpbgdaaGreatDiskOk
namespace Go.Proofs.YtahpoemmlpbgdaaGreat
open Go.RowKit
set_option linter.unusedVariables false
set_option linter.unusedSimpArgs false

def cellsRaw (l : List Disks.RawL) : List Value := l.flatMap fun r => [.int .i64 r.kind, .string r.name, .string r.to, .string r.text]
theorem cellsRaw_len : ∀ l : List Disks.RawL, (cellsRaw l).length = l.length * 4
  | [] => rfl
  | r :: l => by have := cellsRaw_len l; simp only [cellsRaw, List.flatMap_cons, List.length_append, List.length_cons, List.length_nil] at *; omega
theorem cellsRaw_app (l m : List Disks.RawL) : cellsRaw (l ++ m) = cellsRaw l ++ cellsRaw m := by simp [cellsRaw]
theorem cellsRaw_at : ∀ (l : List Disks.RawL) (j : Nat) (hj : j < l.length), (cellsRaw l)[j * 4]? = some (.int .i64 l[j].kind) ∧ (cellsRaw l)[j * 4 + 1]? = some (.string l[j].name) ∧ (cellsRaw l)[j * 4 + 2]? = some (.string l[j].to) ∧ (cellsRaw l)[j * 4 + 3]? = some (.string l[j].text)
  | r :: l, 0, _ => ⟨rfl, rfl, rfl, rfl⟩
  | r :: l, j + 1, hj => by
    have := cellsRaw_at l j (by simpa using hj)
    simpa [cellsRaw, Nat.add_mul, Nat.add_assoc] using this
theorem cellsRaw_own {w : World} {base : Nat} {e : TypeId} {g n cap : Nat} {l : List Disks.RawL} (hn : l.length = n) (h : w.ownsRow base e 4 (.slice (some ⟨g, 0, none⟩) n cap) n (cellsRaw l)) : RawsAt w (some ⟨g, 0, none⟩) g 0 l := by
  refine ⟨fun _ => rfl, fun j hj => ?_⟩
  rw [Nat.zero_add, h.cellAt (j * 4) (by omega), h.cellAt (j * 4 + 1) (by omega), h.cellAt (j * 4 + 2) (by omega), h.cellAt (j * 4 + 3) (by omega)]
  exact cellsRaw_at l j hj
theorem cellsRaw_slice {w : World} {base : Nat} {v : Value} {l : List Disks.RawL} (h : w.ownsRow base 69 4 v l.length (cellsRaw l)) : ∃ a g cap, v = .slice a l.length cap ∧ RawsAt w a g 0 l := by
  rcases h.2 with ⟨h1, h2⟩ | ⟨g, cap, cur, h1, _⟩
  · exact ⟨none, 0, 0, by rw [h1, h2], fun q => by omega, fun j hj => by omega⟩
  · subst h1; exact ⟨_, g, cap, rfl, cellsRaw_own rfl h⟩
def smallRaw (B : Nat) (r : Disks.RawL) : Prop := r.name.size ≤ B ∧ r.to.size ≤ B ∧ r.text.size ≤ B
theorem RawsAt.cellsAll {w : World} {a : Option Addr} {g off : Nat} {l : List Disks.RawL} (h : RawsAt w a g off l) : ∀ j u, (cellsRaw l)[j]? = some u → w.cell? ((⟨g, off, none⟩ : Addr).add j) = some u := by
  intro j u hu
  rw [Addr.add_lit]
  have hj : j < l.length * 4 := by rw [← cellsRaw_len]; exact (List.getElem?_eq_some_iff.1 hu).1
  obtain ⟨k, i, hi, rfl⟩ : ∃ k i, i < 4 ∧ j = k * 4 + i := ⟨j / 4, j % 4, by omega, by omega⟩
  have h1 := cellsRaw_at l k (by omega)
  have h2 := h.2 k (by omega)
  have h3 : i = 0 ∨ i = 1 ∨ i = 2 ∨ i = 3 := by omega
  rcases h3 with rfl | rfl | rfl | rfl
  · rw [show k * 4 + 0 = k * 4 from by omega, h1.1] at hu
    rw [← Option.some.inj hu]
    simpa [Nat.add_assoc] using h2.1
  · rw [h1.2.1] at hu
    rw [← Option.some.inj hu]
    simpa [Nat.add_assoc] using h2.2.1
  · rw [h1.2.2.1] at hu
    rw [← Option.some.inj hu]
    simpa [Nat.add_assoc] using h2.2.2.1
  · rw [h1.2.2.2] at hu
    rw [← Option.some.inj hu]
    simpa [Nat.add_assoc] using h2.2.2.2
theorem cellsRaw_one {l : List Disks.RawL} : ∀ u ∈ cellsRaw l, u.oneCell' = true := by
  intro u hu
  unfold cellsRaw at hu
  obtain ⟨r, _, hr⟩ := List.mem_flatMap.1 hu
  simp only [List.mem_cons, List.not_mem_nil, or_false] at hr
  rcases hr with rfl | rfl | rfl | rfl <;> rfl
/-- 'append(x, y...)' onto a row of the call's own. -/
theorem wpList_appendRaw {w : World} {ops : Array Oper} {rest : List Oper} {o : Oper} {act : Act} {Q : Exit → Act → World → Prop} (hgd : o.guard = none) (s x : Operand)
    (ho : o.op = .call { callee := .builtin .append, args := #[s, x], argTypes := #[34, 34] }) (base : Nat) (v : Value) (n : Nat) (xs : List Value) (hs : act.eval s = v) (hown : w.ownsRow base 69 4 v n xs)
    (a : Option Addr) (g off cap : Nat) (l : List Disks.RawL) (hx : act.eval x = .slice a l.length cap) (hf : RawsAt w a g off l) (hnil : a = none → cap = 0) (h63 : n + l.length ≤ 2097152) (hbase : base ≤ w.heap.size)
    (h : ∀ v' w', w'.ownsRow base 69 4 v' (n + l.length) (xs ++ cellsRaw l) → w.grownBy w' v.ownBlock → wpList Tryz.prog ops Q rest (act.put o.dst v') w') : wpList Tryz.prog ops Q (o :: rest) act w := by
  obtain ⟨i0, hi, hz0, hz1, hz2⟩ := info_parts Tryz.info69
  cases a with
  | none =>
    have hl : l = [] := by
      cases l with
      | nil => rfl
      | cons f r => have := hf.1 (by simp); cases this
    subst hl
    rw [hnil rfl] at hx
    refine wpList_append_own_none hgd s x 34 ho base 69 i0 4 Tryz.underlying34 hi v n xs hs hown hx ?_
    refine h v w ?_ (World.grownBy.refl _ _)
    simpa [cellsRaw] using hown
  | some ad =>
    have had : 0 < l.length → ad = ⟨g, off, none⟩ := fun hp => Option.some.inj (hf.1 hp)
    refine wpList_append_own w hgd s x 34 ho base 69 i0 (.agg #[.int .i64 0, .string ByteArray.empty, .string ByteArray.empty, .string ByteArray.empty]) 4 56 Tryz.underlying34 hi hz0 hz1 hz2 rfl (by decide) v n xs hs hown ad l.length cap (cellsRaw l) hx (cellsRaw_len l) ?_ cellsRaw_one (by unfold maxLen; omega) (by omega) hbase ?_
    · intro j u hu
      have hp : 0 < l.length := by
        have := (List.getElem?_eq_some_iff.1 hu).1
        rw [cellsRaw_len] at this
        omega
      rw [had hp]
      exact hf.cellsAll j u hu
    · intro v' w' h1 h2 _
      exact h v' w' h1 h2
end Go.Proofs.YtahpoemmlpbgdaaGreat
namespace Go.Proofs.YtahpoemmlpbgdaaGreat
open Go.RowKit
set_option linter.unusedVariables false

namespace Disks
/-- How many bytes of a raw write may be done in part. -/
def part (r : RawL) : Nat := if 1 ≤ r.kind ∧ r.kind ≤ 2 then r.text.size else 0
def room (rs : List RawL) (wh : Nat) : Nat := match rs[wh]? with
  | some r => part r
  | none => 0
def begin (r : RawL) (pt : Nat) : RawL := ⟨r.kind, r.name, r.to, r.text.extract 0 pt⟩
def cutDone (rs : List RawL) (wh pt : Nat) : List RawL := rs.take wh ++ (match rs[wh]? with
  | some r => if 0 < pt then [begin r pt] else []
  | none => [])
def cutIn (l : List FileL) (rs : List RawL) (WH PT : Int) : Prop := ok l ∧ rs.length ≤ 60 ∧ (0 ≤ WH ∧ WH ≤ rs.length) ∧ (0 ≤ PT ∧ PT ≤ room rs WH.toNat)
def cutInB (l : List FileL) (rs : List RawL) (WH PT : Int) : Bool := okB l && decide (rs.length ≤ 60) && decide (0 ≤ WH ∧ WH ≤ rs.length) && decide (0 ≤ PT ∧ PT ≤ room rs WH.toNat)
theorem cutInB_iff (l : List FileL) (rs : List RawL) (WH PT : Int) : cutInB l rs WH PT = true ↔ cutIn l rs WH PT := by
  unfold cutInB cutIn
  rw [Bool.and_eq_true, Bool.and_eq_true, Bool.and_eq_true, okB_iff, decide_eq_true_iff, decide_eq_true_iff, decide_eq_true_iff]
  exact ⟨fun ⟨⟨⟨h1, h2⟩, h3⟩, h4⟩ => ⟨h1, h2, h3, h4⟩, fun ⟨h1, h2, h3, h4⟩ => ⟨⟨⟨h1, h2⟩, h3⟩, h4⟩⟩
def whole (l : List FileL) (d : List RawL) : Option (List FileL) := if (run l d).2 = d.length then some (run l d).1 else none
def cutAll (l : List FileL) (rs : List RawL) (WH PT : Int) : Option (List FileL) := if cutInB l rs WH PT = true then whole l (cutDone rs WH.toNat PT.toNat) else none
theorem cutAll_in {l : List FileL} {rs : List RawL} {WH PT : Int} (h : cutIn l rs WH PT) : cutAll l rs WH PT = whole l (cutDone rs WH.toNat PT.toNat) := by
  unfold cutAll; rw [if_pos ((cutInB_iff _ _ _ _).2 h)]
theorem cutAll_out {l : List FileL} {rs : List RawL} {WH PT : Int} (h : ¬ cutIn l rs WH PT) : cutAll l rs WH PT = none := by
  unfold cutAll; rw [if_neg (fun q => h ((cutInB_iff _ _ _ _).1 q))]
theorem cutDone_zero (rs : List RawL) (wh : Nat) : cutDone rs wh 0 = rs.take wh := by
  unfold cutDone
  cases rs[wh]? <;> simp
theorem cutDone_part {rs : List RawL} {wh pt : Nat} (h : wh < rs.length) (hp : 0 < pt) : cutDone rs wh pt = rs.take wh ++ [begin rs[wh] pt] := by
  unfold cutDone
  rw [List.getElem?_eq_getElem h]
  simp [hp]
theorem room_pos {rs : List RawL} {wh : Nat} (h : 0 < room rs wh) : wh < rs.length := by
  unfold room at h
  by_cases q : wh < rs.length
  · exact q
  · rw [List.getElem?_eq_none (by omega)] at h; simp at h
theorem room_at {rs : List RawL} {wh : Nat} (h : wh < rs.length) : room rs wh = part rs[wh] := by
  unfold room; rw [List.getElem?_eq_getElem h]
end Disks
theorem RawsAt.take {w : World} {a : Option Addr} {g off : Nat} {rs : List Disks.RawL} (h : RawsAt w a g off rs) (k : Nat) : RawsAt w a g off (rs.take k) := by
  refine ⟨fun hp => h.1 (by rw [List.length_take] at hp; omega), fun j hj => ?_⟩
  have hj' : j < rs.length := by rw [List.length_take] at hj; omega
  simp only [List.getElem_take]
  exact h.2 j hj'
theorem elem53 : Tryz.prog.underlying 34 = some (.slice (Tryz.prog.elem 34)) := by kernel_rfl
theorem slice_from (ra : Option Addr) (n rcap wh : Nat) (h : wh ≤ n) (wx : World) : (Instr.slice 34 (.slice ra n rcap) (some (.int .i64 (wh : Int))) none none).run Tryz.prog wx = .ok (.slice (if rcap = wh then ra else ra.map (·.add (wh * 4))) (n - wh) (rcap - wh)) wx := by
  rw [run_slice_l wx 34 ra n rcap elem53 .i64 _ (by omega) (by omega), show (sizeOf (Tryz.prog.elem 34)).run Tryz.prog wx = .ok 4 wx by kernel_rfl]
  simp [Result.andThen, sliced]
theorem slice_to (ra : Option Addr) (n rcap wh : Nat) (h : wh ≤ rcap) (wx : World) : (Instr.slice 34 (.slice ra n rcap) none (some (.int .i64 (wh : Int))) none).run Tryz.prog wx = .ok (.slice (if rcap = 0 then ra else ra.map (·.add 0)) wh rcap) wx := by
  rw [run_slice_h wx 34 ra n rcap elem53 .i64 _ (by omega) (by omega), show (sizeOf (Tryz.prog.elem 34)).run Tryz.prog wx = .ok 4 wx by kernel_rfl]
  simp [Result.andThen, sliced]
theorem to_at {ra : Option Addr} {rg roff rcap : Nat} (rs : List Disks.RawL) (wh : Nat) (hw : wh ≤ rs.length) (hcap : rs.length ≤ rcap) (hnil : ra = none → rcap = 0) : ∃ SA : Option Addr, (∀ wx, (Instr.slice 34 (.slice ra rs.length rcap) none (some (.int .i64 (wh : Int))) none).run Tryz.prog wx = .ok (.slice SA (rs.take wh).length rcap) wx) ∧ (SA = none → rcap = 0) ∧ ∀ w, RawsAt w ra rg roff rs → RawsAt w SA rg roff (rs.take wh) := by
  refine ⟨_, fun wx => by rw [slice_to ra rs.length rcap wh (by omega) wx, List.length_take, Nat.min_eq_left hw], ?_, fun w h => ⟨fun hp => ?_, (h.take wh).2⟩⟩
  · split
    · exact fun _ => by assumption
    · intro e
      cases ra with
      | none => exact hnil rfl
      | some x => cases e
  · have hp' : 0 < rs.length := by rw [List.length_take] at hp; omega
    rw [if_neg (by omega), h.1 hp', Option.map_some, Addr.add_lit, Nat.add_zero]
end Go.Proofs.YtahpoemmlpbgdaaGreat
