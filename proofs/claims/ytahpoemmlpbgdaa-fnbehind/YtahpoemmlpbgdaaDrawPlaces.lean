/- The call of DrawPlaces, walked: twelve numbers below 10000. -/
import Derived.Test.YtahpoemmlpbgdaaDrawA
import Derived.Test.YtahpoemmlpbgdaaConfA
namespace Go.Proofs.Ytahpoemmlpbgdaa
open Go.RowKit

set_option maxHeartbeats 1000000 in
set_option maxRecDepth 100000 in
theorem drawPlaces_any {B cap len b off : Nat} {a : Option Addr} {z : Nat → Int} (w : World) (hB : B ≤ w.heap.size) (hc : Code B w a len b off z) :
    Calls Try.prog 17 #[.slice a len cap] w fun e w' => ∃ (v : Value) (l : List Int), e = .returned v ∧ l.length = 12 ∧ (∀ x ∈ l, 0 ≤ x ∧ x < 10000) ∧ w'.ownsRow w.heap.size 3 1 v 12 (cellsI l) ∧ Below w.heap.size w w' := by
  obtain ⟨i0, hi, hz0, hz1, hz2⟩ := info_parts Try.info3
  have HC : Hid (Code B w a len b off z) := hc
  clear hc
  go_enter Try.func17, Try.ntmps17
  go_wp2_with fail
  refine (new_any w hB HC.out).mono ?_
  rintro e w1 ⟨rfl, hc1, hb1⟩
  go_wp2_with fail
  refine (byte_any w1 hc1).mono ?_
  rintro e w2 ⟨x0, rfl, _, _, hc2, hg2⟩
  have hb2 : Below w.heap.size w w2 := hb1.grown hg2 hb1.size (fun k hk => by cases hk; exact Nat.le_refl _)
  have hs1 := hb1.size
  have hgz := hc2.lt
  have HC2 : Hid (Cur B w2 w.heap.size a len cap b off z) := hc2
  have HB2 : Hid (Below w.heap.size w w2) := hb2
  clear hc1 hb1 hg2 hc2 hb2
  go_wp2
  go_loopw [4, 5] (fun v i wr => ∃ (k : Nat) (pre : List Int), k ≤ 12 ∧ i = .int .i64 (k : Int) ∧ pre.length = k ∧ (∀ x ∈ pre, 0 ≤ x ∧ x < 10000) ∧ wr.ownsRow w2.heap.size 3 1 v pre.length (cellsI pre) ∧ Cur B wr w.heap.size a len cap b off z ∧ w2.grownBy wr (some w.heap.size))
    (fun _ i _ => 12 - (intOf i).toNat)
  case atStart =>
    have hg0 := World.grownBy_alloc w2 (.cells #[] 3) (some w.heap.size)
    refine ⟨0, [], by omega, rfl, rfl, by simp, World.ownsRow_made w2 #[] 0 (Nat.le_refl _) (by unfold maxLen; omega) rfl, ?_, hg0⟩
    exact HC2.out.kept hg0 (fun r e => by cases e; exact Or.inr rfl) (by rw [Below.heap_alloc _ _ _ hgz])
  case round =>
    obtain ⟨k, pre, hk, rfl, hlen, hall, hown, hcur, hgr⟩ := hrel
    have HL : Hid (_ = _) := hlen
    have HA : Hid (∀ x ∈ pre, 0 ≤ x ∧ x < 10000) := hall
    have hpl : pre.length ≤ 12 := by omega
    clear hlen hall
    by_cases hlt : k < 12
    · go_wp2_with fail
      refine (below_any 10000 (by omega) wr hcur).mono ?_
      rintro e w3 ⟨x, rfl, ⟨hx0, _, hx2⟩, hc1, hg1⟩
      have hx1 := hx2 (by omega)
      have hne : ∀ r, u4.ownBlock = some r → r ≠ w.heap.size := fun r hr e => by have := (hown.lt r hr).1; omega
      have hown1 := hown.kept hg1 (by
        cases e : u4.ownBlock with
        | none => exact Or.inl rfl
        | some r => exact Or.inr (fun e2 => hne r e (Option.some.inj e2)))
      have hgr1 := hgr.trans hg1
      have hbz := hgr1.size
      have HC1 : Hid (Cur B w3 w.heap.size a len cap b off z) := hc1
      have HNE : Hid (∀ r, u4.ownBlock = some r → r ≠ w.heap.size) := hne
      have hgz1 := hc1.lt
      clear hc1 hne hown hg1 hgr hcur hx2
      go_wp2_with (at_builtin; refine wpList_append_own _ rfl _ _ 39 rfl w2.heap.size 3 i0 (.int .i64 0) 1 8 Try.underlying39 hi hz0 hz1 hz2 rfl (by decide) _ _ _ rfl (hown1.alloc _) ⟨w3.heap.size, 0, none⟩ 1 1 [.int .i64 x] rfl rfl ?c1 ?c2 ?c3 ?c4 ?c5 ?_)
      case c1 =>
        intro j u hj
        match j, hj with
        | 0, hj => simp at hj; subst hj; simp [Addr.add]
      case c2 => intro u hu; simp at hu; subst hu; rfl
      case c3 => unfold maxLen; omega
      case c4 => omega
      case c5 => simp; omega
      intro v' w4 hown2 hgrow _
      go_wp2
      go_roundw
      case rel =>
        have hga := World.grownBy_alloc w3 (.cells #[.int .i64 x] 3) (some w.heap.size)
        have hrow : ∀ r, u4.ownBlock = some r → w2.heap.size ≤ r := fun r hr => (hown1.lt r hr).1
        refine ⟨k + 1, pre ++ [x], by omega, by go_num, by rw [List.length_append, HL.out]; rfl, ?_, ownI_snoc hown2, ?_, (hgr1.trans hga).andThen hgrow (fun j hj => Or.inl (hrow j hj))⟩
        · intro y hy
          rcases List.mem_append.1 hy with h | h
          · exact HA.out y h
          · obtain rfl := List.mem_singleton.1 h
            exact ⟨hx0, hx1⟩
        · have hcA : Cur B (w3.alloc (.cells #[.int .i64 x] 3)) w.heap.size a len cap b off z := HC1.out.kept hga (fun r e => by cases e; exact Or.inr rfl) (by rw [Below.heap_alloc _ _ _ hgz1])
          refine hcA.kept hgrow (fun r hr => Or.inl (by have := hrow r hr; omega)) (hgrow.block w.heap.size (by simp; omega) (fun e => HNE.out w.heap.size e.symm rfl))
      case measure => simp [intOf]; omega
    · go_wp2
      go_ret
      have hk12 : pre.length = 12 := by rw [HL.out]; omega
      rw [hk12] at hown
      exact ⟨u4, pre, rfl, hk12, HA.out, own_mono hown (by omega), HB2.out.grown hgr HB2.out.size (fun k hk => by cases hk; exact Nat.le_refl _)⟩
end Go.Proofs.Ytahpoemmlpbgdaa
