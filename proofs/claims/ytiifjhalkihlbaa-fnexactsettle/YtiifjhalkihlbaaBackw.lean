/- slices.Backward over a list of entries, as an iterator: its contract. -/
import Derived.RangeFuncNested
import Derived.RangeFuncBound
import Derived.RangeFuncCalls
import Derived.RangeFuncLeaves
import Derived.Shelf.Abstract
import Derived.WalkKit
import Derived.OwnWalkIn
import Derived.TacticsInMore
import Derived.LoopNIn
import Derived.LoopIn
import Derived.Test.YtiifjhalkihlbaaConfAtS
namespace Go.Proofs.Ytiifjhalkihlbaa
open Go.RowKit Go.Shelf
open Ents (okB confOf)
set_option linter.unusedVariables false
set_option linter.unusedSimpArgs false
attribute [local go_sem] Oper.semAt_some
abbrev GoodE := { e : EntL // okB e = true }
abbrev NGood := Nat × GoodE
def encG (x : NGood) : Array Value := #[.int .i64 (x.1 : Int), .agg #[.int .i64 x.2.1.term, .int .i64 x.2.1.kind, .string x.2.1.data]]
/-- What a list yields backward. -/
def backL (zs : List GoodE) : Nat → List NGood
  | 0 => []
  | k + 1 => backL zs k ++ (match zs[zs.length - 1 - k]? with | some z => [(zs.length - 1 - k, z)] | none => [])
theorem backL_succ {zs : List GoodE} {k : Nat} (h : k < zs.length) : backL zs (k + 1) = backL zs k ++ [(zs.length - 1 - k, zs[zs.length - 1 - k]'(by omega))] := by
  have : zs[zs.length - 1 - k]? = some (zs[zs.length - 1 - k]'(by omega)) := List.getElem?_eq_getElem (by omega)
  simp only [backL, this]
theorem backL_len {zs : List GoodE} : ∀ {k : Nat}, k ≤ zs.length → (backL zs k).length = k
  | 0, _ => rfl
  | k + 1, h => by rw [backL_succ (by omega), List.length_append, backL_len (by omega)]; rfl
set_option maxRecDepth 100000 in
set_option maxHeartbeats 4000000 in
theorem back1_in (F : Fence) (n : Nat) (h94 : F.fn 94) (hro : F.round = none) (hn : 1 ≤ n) (l Bs n₀ g off len cap : Nat) (a : Option Addr) (zs : List GoodE) (hl : len = zs.length) (hreach : len ≤ 1048576) (hg : 0 < len → g < n₀) (J Jx : List NGood → World → Prop)
    (hY : ∀ pre x W, J pre W → pre.length < len → YieldAt F (n - 1) Try.prog l (encG x) W fun e W' =>
      (e = .returned (.bool true) ∧ J (pre ++ [x]) W' ∧ Below n₀ W W') ∨ (e = .returned (.bool false) ∧ Jx (pre ++ [x]) W'))
    (W : World) (hBn : Bs < n₀) (hBs : W.cell? ⟨Bs, 0, none⟩ = some (.slice a len cap)) (hf : EnAt W a g off (zs.map (·.1))) (h0 : J [] W) :
    CallsIn F n Try.prog 94 #[.func (.yield l) #[] #[], .pointer (some ⟨Bs, 0, none⟩)] W fun e W' => (∃ v, e = .returned v) ∧
      ((∃ ys, ys = backL zs len ∧ J ys W') ∨ (∃ pre, (∃ k, k ≤ len ∧ pre = backL zs k) ∧ Jx pre W')) := by
  refine callsIn_of_wp Try.func94 rfl h94 ?_ hro
  simp only [Try.ntmps94, List.size_toArray, List.length_cons, List.length_nil, Nat.reduceAdd, Nat.reduceSub, Array.replicate_succ, Array.replicate_zero, List.push_toArray, List.append_toArray, List.nil_append, List.cons_append]
  have HF : Hid (EnAt W a g off (zs.map (·.1))) := hf
  have HL : Hid (len = zs.length) := hl
  have HG : Hid (0 < len → g < n₀) := hg
  clear hf hl hg
  gi_wp2
  gi_loopw [3] (fun i wr => ∃ k : Nat, k ≤ len ∧ i = .int .i64 ((len : Int) - 1 - (k : Int)) ∧ J (backL zs k) wr ∧ Below n₀ W wr)
    (fun i _ => (intOf i + 1).toNat)
  case atStart => exact ⟨0, Nat.zero_le _, by simp, h0, Below.refl _ _⟩
  case round =>
    obtain ⟨k, hk, rfl, hJs, hnx⟩ := hrel
    have hbs := (hnx.cell (p := ⟨Bs, 0, none⟩) hBn).trans hBs
    by_cases hlt : k < len
    · have hkl : k < zs.length := by rw [← HL.out]; exact hlt
      obtain ⟨m, hm⟩ : ∃ m : Nat, m = len - 1 - k := ⟨_, rfl⟩
      have hml : m < (zs.map (·.1)).length := by simp; have := HL.out; omega
      have hgn := HG.out (by omega)
      have hcc := HF.out.2 m hml
      have ea := HF.out.1 (by omega)
      rw [← hnx.cell (p := ⟨g, off + m * 3, none⟩) hgn, ← hnx.cell (p := ⟨g, off + m * 3 + 1, none⟩) hgn, ← hnx.cell (p := ⟨g, off + m * 3 + 2, none⟩) hgn] at hcc
      obtain ⟨z, hz⟩ : ∃ z : GoodE, z = zs[m]'(by simpa using hml) := ⟨_, rfl⟩
      have hz' : (zs.map (·.1))[m] = z.1 := by rw [hz]; simp
      rw [hz'] at hcc
      have HSU : Hid (backL zs (k + 1) = backL zs k ++ [(m, z)]) := by
        show _ = _
        rw [backL_succ hkl]
        have e1 : zs.length - 1 - k = m := by rw [hm, HL.out]
        simp only [e1, hz]
      obtain ⟨fn, tmps, assign, body, hy, hR⟩ := hY _ (m, z) wr hJs (by rw [backL_len (by omega)]; exact hlt)
      have hi : (len : Int) - 1 - (k : Int) = (m : Int) := by omega
      rw [hi]
      have hm0 : (0 : Int) ≤ (m : Int) := by omega
      have hm1 : (m : Int) < (len : Int) := by omega
      have HM : Hid (m = len - 1 - k) := hm
      subst ea
      obtain ⟨F0, hF0⟩ : ∃ F0, F0 = z.1.term := ⟨_, rfl⟩
      obtain ⟨F1, hF1⟩ : ∃ F1, F1 = z.1.kind := ⟨_, rfl⟩
      obtain ⟨F2, hF2⟩ : ∃ F2, F2 = z.1.data := ⟨_, rfl⟩
      unfold encG at hy
      dsimp only at hy
      simp only [← hF0, ← hF1, ← hF2] at hcc hy
      obtain ⟨c0, c1, c2⟩ := hcc
      clear hm hi hz hz' hF0 hF1 hF2 hkl hml
      gi_wp2
      refine hR.mono ?_
      rintro e W3 (⟨rfl, hJ3, hk3⟩ | ⟨rfl, hJx3⟩)
      · gi_wp2
        go_roundw
        case rel => exact ⟨k + 1, by omega, by have := HM.out; simp; omega, by rw [HSU.out]; exact hJ3, hnx.trans hk3⟩
        case measure => have := HM.out; simp [intOf]
      · gi_wp2
        refine bodyPost_ret (results_none rfl _ _ _) rfl ?_
        exact ⟨⟨_, rfl⟩, .inr ⟨_, ⟨k + 1, by omega, HSU.out.symm⟩, hJx3⟩⟩
    · obtain rfl : k = len := by omega
      have hi : (k : Int) - 1 - (k : Int) = -1 := by omega
      rw [hi]
      gi_wp2
      go_end0
      exact ⟨⟨_, rfl⟩, .inl ⟨_, rfl, hJs⟩⟩
set_option maxHeartbeats 1000000 in
theorem back_in (F : Fence) (n : Nat) (h87 : F.fn 87) (hro : F.round = none) (a : Option Addr) (len cap : Nat) (w : World) :
    CallsIn F n Try.prog 87 #[.slice a len cap] w fun e w' => e = .returned (.func (.func 94) #[] #[.pointer (some ⟨w.heap.size, 0, none⟩)]) ∧ w' = w.alloc (.cells #[.slice a len cap] 31) := by
  refine callsIn_of_wp Try.func87 rfl h87 ?_ hro
  simp only [Try.ntmps87, List.size_toArray, List.length_cons, List.length_nil, Nat.reduceAdd, Nat.reduceSub, Array.replicate_succ, Array.replicate_zero, List.push_toArray, List.append_toArray, List.nil_append, List.cons_append]
  gi_wp2
  go_ret
  exact ⟨rfl, rfl⟩
theorem back_stops (F : Fence) (n : Nat) (h94 : F.fn 94) (hro : F.round = none) (hn : 1 ≤ n) (Bs g off cap : Nat) (a : Option Addr) (zs : List GoodE) (hreach : zs.length ≤ 1048576) (w : World)
    (hc : w.cell? ⟨Bs, 0, none⟩ = some (.slice a zs.length cap)) (hf : EnAt w a g off (zs.map (·.1))) :
    SeqStopsK F n Try.prog 94 #[.pointer (some ⟨Bs, 0, none⟩)] encG (Below w.heap.size) (fun ys => ys = backL zs zs.length) (fun pre => ∃ k, k ≤ zs.length ∧ pre = backL zs k) zs.length w := fun l J Jx W hW _ _ hY h0 => by
  have hB := World.block_lt_of_cell? w _ hc
  exact back1_in F n h94 hro hn l Bs w.heap.size g off zs.length cap a zs rfl hreach (fun h => hf.lt (by simpa using h)) J Jx hY W hB ((hW.cell (p := ⟨Bs, 0, none⟩) hB).trans hc) (hf.kept hW) h0
end Go.Proofs.Ytiifjhalkihlbaa
