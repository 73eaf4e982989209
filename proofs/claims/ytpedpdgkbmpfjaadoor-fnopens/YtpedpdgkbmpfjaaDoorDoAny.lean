/- The calls of MapDo, the specification's and the program's, walked. Made by program. The call of the program's MapDo, of a list wherever it lies. -/
import Derived.Test.YtpedpdgkbmpfjaaDoorCutPut
import Derived.Test.YtpedpdgkbmpfjaaDoorSideDo
namespace Go.Proofs.YtpedpdgkbmpfjaaDoor
open Go.RowKit
set_option linter.unusedVariables false

namespace Maps
theorem fold_ok : ∀ (cs : List ChangeL) (m : List PairL), (∀ p ∈ m, pairOk p) → (∀ c ∈ cs, Batches.changeOk c) → ∀ p ∈ cs.foldl stepC m, pairOk p
  | [], m, h, _ => h
  | c :: cs, m, h1, h2 => fold_ok cs _ (stepC_ok h1 (h2 c List.mem_cons_self)) (fun d hd => h2 d (List.mem_cons_of_mem _ hd))
theorem ok_small {l : List PairL} (h : ∀ p ∈ l, pairOk p) : ∀ p ∈ l, smallPair 2097152 p := fun p hp => by
  obtain ⟨_, h2, h3⟩ := h p hp
  exact ⟨by omega, by omega⟩
theorem done_ok {m : List PairL} {st : Int} {cs : List ChangeL} (h1 : ok m) (h2 : Batches.ok st cs) : ∀ p ∈ doing m cs, pairOk p := by
  obtain ⟨_, a1, a2⟩ := (ok_iff m).1 h1
  obtain ⟨_, _, b1, b2⟩ := (okC_iff st cs).1 h2
  rw [← fold_doing cs m a2 b2]
  exact fold_ok cs m a1 b1
theorem done_fold {m : List PairL} {st : Int} {cs : List ChangeL} (h1 : ok m) (h2 : Batches.ok st cs) : cs.foldl stepC m = doing m cs :=
  fold_doing cs m ((ok_iff m).1 h1).2.2 ((okC_iff st cs).1 h2).2.2.2
end Maps
/-- What MapDo is to answer. -/
def DoR (m : List PairL) (st : Int) (cs : List ChangeL) (out : List PairL) (R : Bool) : Prop :=
  ((Maps.ok m ∧ Batches.ok st cs) ∧ Maps.ok (Maps.doing m cs) ∧ out = Maps.doing m cs ∧ R = true) ∨ (¬ ((Maps.ok m ∧ Batches.ok st cs) ∧ Maps.ok (Maps.doing m cs)) ∧ out = [] ∧ R = false)
theorem doR_no {m : List PairL} {st : Int} {cs : List ChangeL} {out : List PairL} {R : Bool} (h : DoR m st cs out R) (hn : ¬ ((Maps.ok m ∧ Batches.ok st cs) ∧ Maps.ok (Maps.doing m cs))) : out = [] ∧ R = false := by
  rcases h with ⟨h1, h2, _⟩ | ⟨_, h⟩
  · exact absurd ⟨h1, h2⟩ hn
  · exact h
theorem doR_yes {m : List PairL} {st : Int} {cs : List ChangeL} {out : List PairL} {R : Bool} (h : DoR m st cs out R) (hn : (Maps.ok m ∧ Batches.ok st cs) ∧ Maps.ok (Maps.doing m cs)) : out = Maps.doing m cs ∧ R = true := by
  rcases h with ⟨_, _, h⟩ | ⟨h, _⟩
  · exact h
  · exact absurd hn h
theorem below_undrew {w w' : World} (h : Below w.drew.heap.size w.drew w') : Below w.heap.size w w' := ((Below.refl _ _).drew).trans h
end Go.Proofs.YtpedpdgkbmpfjaaDoor
namespace Go.Proofs.YtpedpdgkbmpfjaaDoor
open Go.RowKit
set_option linter.unusedVariables false

set_option maxHeartbeats 4000000 in
set_option maxRecDepth 100000 in
theorem implDo_at {aA : Option Addr} {gA offA capA : Nat} {aB : Option Addr} {gB offB capB : Nat} (m : List PairL) (hlm : m.length ≤ 2097152) (hsm : ∀ c ∈ m, smallPair 2097152 c) (st : Int) (cs : List ChangeL) (hlc : cs.length ≤ 2097152) (hsc : ∀ c ∈ cs, smallChange 2097152 c) (out : List PairL) (R : Bool) (hR : DoR m st cs out R)
    (w : World) (hfA : PairAt w aA gA offA m) (hfB : ChangeAt w aB gB offB cs) :
    Calls Tryd.prog 59 #[.slice aA m.length capA, .agg #[.int .i64 st, .slice aB cs.length capB]] w fun e w' => ∃ v, e = .returned (.tuple #[v, .bool R]) ∧ w'.ownsRow w.heap.size 48 2 v out.length (cellsPair out) ∧ Below w.heap.size w w' := by
  obtain ⟨i0, hi, hz0, hz1, hz2⟩ := info_parts Tryd.info48
  have HSM : Hid (∀ c ∈ m, smallPair 2097152 c) := hsm
  have HSC : Hid (∀ c ∈ cs, smallChange 2097152 c) := hsc
  have HR : Hid (DoR m st cs out R) := hR
  have HFA0 : Hid (PairAt w aA gA offA m) := hfA
  have HFB0 : Hid (ChangeAt w aB gB offB cs) := hfB
  clear hsm hsc hR hfA hfB
  go_enter Tryd.func59, Tryd.ntmps59
  go_wp2_with fail
  obtain ⟨W0, hW0⟩ : ∃ W0, W0 = w.alloc (Obj.cells #[Value.int IntKind.i64 st, Value.slice aB cs.length capB] 102) := ⟨_, rfl⟩
  have hB0 : Below w.heap.size w W0 := by rw [hW0]; exact (Below.refl _ _).alloc (Nat.le_refl _) _
  have hq : W0.heap[w.heap.size]? = some (Obj.cells #[Value.int IntKind.i64 st, Value.slice aB cs.length capB] 102 (0, 0)) := by rw [hW0]; exact heap_alloc_new w _
  rw [← hW0]
  clear hW0
  obtain ⟨bb, hbb⟩ : ∃ bb, bb = w.heap.size := ⟨_, rfl⟩
  rw [← hbb] at hq ⊢
  have HB0 : Hid (Below w.heap.size w W0) := hB0
  have HFA : Hid (PairAt W0 aA gA offA m) := HFA0.out.kept hB0
  have HFB : Hid (ChangeAt W0 aB gB offB cs) := HFB0.out.kept hB0
  have HD : Hid (∀ w', Below W0.heap.size W0 w' → w'.cell? ⟨bb, 0, none⟩ = some (.int .i64 st) ∧ w'.cell? ⟨bb, 1, none⟩ = some (.slice aB cs.length capB)) := fun w' h => by
    have e := (h.block _ (Array.getElem?_eq_some_iff.1 hq).1).trans hq
    exact ⟨cell_of_row _ _ 0 _ _ _ e, cell_of_row _ _ 1 _ _ _ e⟩
  clear hq hbb hB0 HFA0 HFB0
  by_cases h1 : Maps.ok m
  · refine (implMapOk_any true m hlm _ HFA.out HSM.out (by simp [h1])).mono ?_
    rintro e w1 ⟨rfl, hb1⟩
    obtain ⟨d0, d1⟩ := HD.out w1 hb1
    go_wp2_with fail
    by_cases h2 : Batches.ok st cs
    · refine (implOk_any true st cs hlc _ (HFB.out.kept hb1) HSC.out (by simp [h2])).mono ?_
      rintro e w2 ⟨rfl, hb2⟩
      have hw2 : Below W0.heap.size W0 w2 := hb1.trans (hb2.mono hb1.size)
      have HOK : Hid (Maps.ok m ∧ Batches.ok st cs) := ⟨h1, h2⟩
      have hm60 := h1.1
      have hc60 := h2.2.1
      clear h1 h2 hb1 hb2 d0 d1
      obtain ⟨d0, d1⟩ := HD.out w2 hw2
      go_wp2_with fail
      refine (sideDo_is m cs hm60 hc60 HSM.out HSC.out w2 (HFA.out.kept hw2) (HFB.out.kept hw2)).mono ?_
      rintro e w3 ⟨v, rfl, hown, hb3⟩
      obtain ⟨va, vc, rfl⟩ := own_slice hown
      obtain ⟨L, hL⟩ : ∃ L, L = Maps.doing m cs := ⟨_, rfl⟩
      rw [← hL] at hown ⊢
      have HL : Hid (L = Maps.doing m cs) := hL
      have hw3 : Below w.heap.size w w3 := HB0.out.trans ((hw2.trans (hb3.mono hw2.size)).mono HB0.out.size)
      have HO : Hid (w3.ownsRow w.heap.size 48 2 (.slice va L.length vc) L.length (cellsPair L)) := own_mono hown (Nat.le_trans HB0.out.size hw2.size)
      have HLS : Hid (∀ p ∈ L, smallPair 2097152 p) := by show ∀ p ∈ L, smallPair 2097152 p; rw [hL]; exact Maps.ok_small (Maps.done_ok HOK.out.1 HOK.out.2)
      have hLL : L.length ≤ 2097152 := by rw [hL]; exact Nat.le_trans (Maps.doing_len m cs) (by omega)
      clear hL hown hb3 hw2 d0 d1
      go_wp2_with fail
      obtain ⟨_, gL, _, eL, hAt⟩ := cellsPair_slice HO.out
      cases eL
      by_cases h3 : Maps.ok L
      · have HC : Hid (out = L ∧ R = true) := by rw [HL.out]; exact doR_yes HR.out ⟨HOK.out, by rw [← HL.out]; exact h3⟩
        refine (implMapOk_any true L hLL _ hAt HLS.out (by simp [h3])).mono ?_
        rintro e w4 ⟨rfl, hb4⟩
        have HO4 : Hid (w4.ownsRow w.heap.size 48 2 (.slice va L.length vc) L.length (cellsPair L)) := own_kept HO.out hb4
        have hw4 : Below w.heap.size w w4 := hw3.trans (hb4.mono hw3.size)
        clear hb4 hAt h3
        go_wp2
        go_ret2
        rw [HC.out.1, HC.out.2]
        exact ⟨_, rfl, HO4.out, hw4⟩
      · have HC : Hid (out = [] ∧ R = false) := doR_no HR.out (fun h => h3 (by rw [HL.out]; exact h.2))
        refine (implMapOk_any false L hLL _ hAt HLS.out (by simp [h3])).mono ?_
        rintro e w4 ⟨rfl, hb4⟩
        have hw4 : Below w.heap.size w w4 := hw3.trans (hb4.mono hw3.size)
        clear hb4 hAt h3
        go_wp2
        go_ret2
        rw [HC.out.1, HC.out.2]
        exact ⟨_, rfl, World.ownsRow_nil _ _ _ _, hw4⟩
    · refine (implOk_any false st cs hlc _ (HFB.out.kept hb1) HSC.out (by simp [h2])).mono ?_
      rintro e w2 ⟨rfl, hb2⟩
      have hw2 : Below w.heap.size w w2 := HB0.out.trans ((hb1.trans (hb2.mono hb1.size)).mono HB0.out.size)
      have HC : Hid (out = [] ∧ R = false) := doR_no HR.out (fun h => h2 h.1.2)
      clear hb1 hb2 d0 d1 h2
      go_wp2
      go_ret2
      rw [HC.out.1, HC.out.2]
      exact ⟨_, rfl, World.ownsRow_nil _ _ _ _, hw2⟩
  · refine (implMapOk_any false m hlm _ HFA.out HSM.out (by simp [h1])).mono ?_
    rintro e w1 ⟨rfl, hb1⟩
    have hw1 : Below w.heap.size w w1 := HB0.out.trans (hb1.mono HB0.out.size)
    have HC : Hid (out = [] ∧ R = false) := doR_no HR.out (fun h => h1 h.1.1)
    clear hb1 h1
    go_wp2
    go_ret2
    rw [HC.out.1, HC.out.2]
    exact ⟨_, rfl, World.ownsRow_nil _ _ _ _, hw1⟩
end Go.Proofs.YtpedpdgkbmpfjaaDoor
