/- The specification's ConfText, ReadConf and Most, walked. -/
import Derived.Test.YtimacmijinblmaaGreatKit
import Derived.Test.YtimacmijinblmaaGreatConfLaw
namespace Go.Proofs.YtimacmijinblmaaGreat
open Go.RowKit
open Ents (confB confS confOf readC)
set_option linter.unusedVariables false
set_option linter.unusedSimpArgs false

theorem confB_take {l : List Int} {k : Nat} (h : k < l.length) : confB (l.take (k + 1)) = confB (l.take k) ++ [UInt8.ofNat l[k].toNat] := by
  unfold confB
  rw [List.take_succ_eq_append_getElem h, List.map_append]; rfl
def confTuple (l : List Int) : Value := if Mans.confOk l = true then .tuple #[.string (confS l), .bool true] else .tuple #[.string ⟨#[]⟩, .bool false]
set_option maxHeartbeats 2000000 in
set_option maxRecDepth 100000 in
theorem specConfText_is {a : Option Addr} {g off cap : Nat} (l : List Int) (hlen : l.length ≤ 1048576) (w : World) (hf : IntAt w a g off l) :
    Calls Tryz.prog 46 #[.slice a l.length cap] w fun e w' => e = .returned (confTuple l) ∧ Below w.heap.size w w' := by
  obtain ⟨i0, hi, hz0, hz1, hz2⟩ := info_parts Tryz.info5
  obtain ⟨R, hR⟩ : ∃ R, R = Mans.confOk l := ⟨_, rfl⟩
  have HF : Hid (∀ W', Below w.heap.size w W' → IntAt W' a g off l) := fun W' h => hf.kept h
  have HC : Hid (Calls Tryz.prog 38 #[.slice a l.length cap] w fun e w' => e = .returned (.bool R) ∧ Below w.heap.size w w') := specConf_is l hlen R hR.symm w hf
  unfold confTuple
  rw [← hR]
  have HR : Hid (R = true → (1 ≤ l.length ∧ l.length ≤ 4) ∧ ∀ n ∈ l, 1 ≤ n ∧ n ≤ 4) := fun h => Ents.conf_in (by rw [← hR]; exact h)
  clear hR hf
  go_enter Tryz.func46, Tryz.ntmps46
  go_wp2_with fail
  refine Calls.mono HC.out ?_
  rintro e w1 ⟨rfl, hb1⟩
  have HB1 : Hid (Below w.heap.size w w1) := hb1
  clear hb1 HC
  cases R with
  | false =>
    clear HR
    go_wp2
    go_ret2
    exact ⟨rfl, HB1.out⟩
  | true =>
    obtain ⟨hl, hin⟩ := HR.out rfl
    have HIN : Hid (∀ n ∈ l, 1 ≤ n ∧ n ≤ 4) := hin
    have hl1 : l.length ≤ 4 := hl.2
    clear HR hl hin
    have ho := World.ownsRow_made (base := w.heap.size) (e := 5) (size := 1) w1 #[] 0 HB1.out.size (by unfold maxLen; omega) rfl
    have HO : Hid ((w1.alloc (Obj.cells #[] 5)).ownsRow w.heap.size 5 1 (.slice (some ⟨w1.heap.size, 0, none⟩) 0 0) (confB (l.take 0)).length (cellsB (confB (l.take 0)))) := ho
    have HB2 : Hid (Below w.heap.size w (w1.alloc (Obj.cells #[] 5))) := HB1.out.alloc HB1.out.size _
    clear ho
    go_wp2_with fail
    go_loopw [4, 5] (fun v i wr => ∃ k : Nat, k ≤ l.length ∧ i = .int .i64 (k : Int) ∧ Hid (wr.ownsRow w.heap.size 5 1 v (confB (l.take k)).length (cellsB (confB (l.take k)))) ∧ Hid (Below w.heap.size w wr))
      (fun _ i _ => l.length - (intOf i).toNat)
    case atStart => exact ⟨0, Nat.zero_le _, rfl, HO, HB2⟩
    case round =>
      clear HO HB2
      obtain ⟨k, hk, rfl, HOW, HBW⟩ := hrel
      obtain ⟨pre, hpre⟩ : ∃ pre, pre = confB (l.take k) := ⟨_, rfl⟩
      have HPR : Hid (pre = confB (l.take k)) := hpre
      have hpl : pre.length = k := by rw [hpre]; unfold confB; rw [List.length_map, List.length_take]; omega
      have HPL : Hid (pre.length = k) := hpl
      have hpl2 : pre.length ≤ 4 := by omega
      rw [← hpre] at HOW
      clear hpre hpl
      obtain ⟨va, vc, hv⟩ := own_slice HOW.out
      subst hv
      by_cases hlt : k < l.length
      · have hA := HF.out _ HBW.out
        have ea := hA.1 (by omega)
        have c2 := hA.2 k hlt
        subst ea
        have hn := HIN.out l[k] (List.getElem_mem _)
        have HNX : Hid (confB (l.take (k + 1)) = pre ++ [UInt8.ofNat l[k].toNat]) := by show _ = _; rw [confB_take hlt, HPR.out]
        obtain ⟨n, hne⟩ : ∃ n, n = l[k] := ⟨_, rfl⟩
        rw [← hne] at c2 hn HNX
        clear hne hA
        obtain ⟨c, hc⟩ : ∃ c : UInt8, c = UInt8.ofNat n.toNat := ⟨_, rfl⟩
        have hcn : Hid ((c.toNat : Int) = n) := by show _ = _; rw [hc, UInt8.toNat_ofNat']; omega
        rw [← hc] at HNX
        clear hc
        have hk0 : (0 : Int) ≤ (k : Int) := by omega
        have hk1 : (k : Int) < (l.length : Int) := by omega
        have hn1 : 1 ≤ n := hn.1
        have hn2 : n ≤ 4 := hn.2
        clear hn
        have hown := HOW.out
        go_wp2_with (at_builtin; refine wpList_append_own _ rfl _ _ 31 rfl w.heap.size 5 i0 (.int .u8 0) 1 1 Tryz.underlying31 hi hz0 hz1 hz2 rfl (by decide) _ _ _ rfl (hown.alloc _) ⟨wr.heap.size, 0, none⟩ 1 1 [.int .u8 (c.toNat : Int)] rfl rfl ?c1 ?c2 ?c3 ?c4 ?c5 ?_)
        case c1 =>
          intro j u hj
          match j, hj with
          | 0, hj => simp at hj; subst hj; simp [Addr.add, hcn.out]
        case c2 => intro u hu; simp at hu; subst hu; rfl
        case c3 => unfold maxLen; omega
        case c4 => omega
        case c5 => have := HBW.out.size; simp; omega
        intro v' w2 hown' hgrow _
        have HOW2 : Hid (w2.ownsRow w.heap.size 5 1 v' (pre ++ [c]).length (cellsB (pre ++ [c]))) := own_snoc hown'
        have HBW2 : Hid (Below w.heap.size w w2) := (HBW.out.alloc HBW.out.size _).grown hgrow (by have := HBW.out.size; simp; omega) (own_below hown)
        clear hown hown' hgrow c2
        go_wp2
        go_roundw
        case rel => exact ⟨k + 1, by omega, by go_num, by rw [HNX.out]; exact HOW2, HBW2⟩
        case measure => simp [intOf]; omega
      · have hk1 : ¬ (k : Int) < (l.length : Int) := by omega
        have hke : k = l.length := by omega
        have hcv := string_own HOW.out
        have HE : Hid (pre = confB l) := by show _ = _; rw [HPR.out, hke, List.take_length]
        clear hke hlt
        go_wp2
        go_ret2
        exact ⟨by rw [HE.out]; rfl, HBW.out⟩
/-- What ReadConf answers. -/
def RCIs (t : ByteArray) (l : List Int) (R : Bool) : Prop := (readC t = some l ∧ R = true) ∨ (readC t = none ∧ l = [] ∧ R = false)
theorem rc_ex (t : ByteArray) : ∃ l R, RCIs t l R := by
  cases h : readC t with
  | none => exact ⟨_, _, Or.inr ⟨h, rfl, rfl⟩⟩
  | some l => exact ⟨l, _, Or.inl ⟨h, rfl⟩⟩
def RCPost (w : World) (l : List Int) (R : Bool) (e : Ending) (w' : World) : Prop := ∃ v, e = .returned (.tuple #[v, .bool R]) ∧ w'.ownsRow w.heap.size 3 1 v l.length (cellsI l) ∧ Below w.heap.size w w'
theorem confOf_take {t : ByteArray} {k : Nat} (h : k < t.size) : (confOf t).take (k + 1) = (confOf t).take k ++ [(t[k].toNat : Int)] := by
  have h' : k < (confOf t).length := by rw [Ents.confOf_len]; exact h
  rw [List.take_succ_eq_append_getElem h']
  have e : (confOf t)[k] = (t[k].toNat : Int) := by simp [confOf, Batches.by_]; rfl
  rw [e]
theorem wrap_byte (b : UInt8) : wrap64 ((b.toNat : Nat) : Int) = ((b.toNat : Nat) : Int) := by
  have := b.toNat_lt
  unfold wrap64; omega
set_option maxHeartbeats 2000000 in
set_option maxRecDepth 100000 in
theorem specReadConf_is (t : ByteArray) (hs : t.size ≤ 1048576) (l : List Int) (R : Bool) (hRC : RCIs t l R) (w : World) :
    Calls Tryz.prog 20 #[.string t] w (RCPost w l R) := by
  obtain ⟨i0, hi, hz0, hz1, hz2⟩ := info_parts Tryz.info3
  have HRC : Hid (RCIs t l R) := hRC
  have ho := World.ownsRow_made (base := w.heap.size) (e := 3) (size := 1) w #[] 0 (Nat.le_refl _) (by unfold maxLen; omega) rfl
  have HO : Hid ((w.alloc (Obj.cells #[] 3)).ownsRow w.heap.size 3 1 (.slice (some ⟨w.heap.size, 0, none⟩) 0 0) ((confOf t).take 0).length (cellsI ((confOf t).take 0))) := ho
  have HB2 : Hid (Below w.heap.size w (w.alloc (Obj.cells #[] 3))) := (Below.refl _ _).alloc (Nat.le_refl _) _
  clear hRC ho
  go_enter Tryz.func20, Tryz.ntmps20
  go_wp2_with fail
  go_loopw [4, 5] (fun v i wr => ∃ k : Nat, k ≤ t.size ∧ k ≤ 5 ∧ i = .int .i64 (k : Int) ∧ Hid (wr.ownsRow w.heap.size 3 1 v ((confOf t).take k).length (cellsI ((confOf t).take k))) ∧ Hid (Below w.heap.size w wr))
    (fun _ i _ => 5 - (intOf i).toNat)
  case atStart => exact ⟨0, Nat.zero_le _, Nat.zero_le _, rfl, HO, HB2⟩
  case round =>
    clear HO HB2
    obtain ⟨k, hk, hk5, rfl, HOW, HBW⟩ := hrel
    obtain ⟨pre, hpre⟩ : ∃ pre, pre = (confOf t).take k := ⟨_, rfl⟩
    have HPR : Hid (pre = (confOf t).take k) := hpre
    have hpl : pre.length = k := by rw [hpre, List.length_take, Ents.confOf_len]; omega
    have HPL : Hid (pre.length = k) := hpl
    have hpl2 : pre.length ≤ 5 := by omega
    rw [← hpre] at HOW
    clear hpre hpl
    obtain ⟨va, vc, hv⟩ := own_slice HOW.out
    subst hv
    by_cases hlt : k < t.size ∧ k ≤ 4
    · obtain ⟨h1, h2⟩ := hlt
      have HNX : Hid ((confOf t).take (k + 1) = pre ++ [(t[k].toNat : Int)]) := by show _ = _; rw [confOf_take h1, HPR.out]
      have hk0 : (0 : Int) ≤ (k : Int) := by omega
      have hk1 : (k : Int) < (t.size : Int) := by omega
      have hk4 : (k : Int) ≤ 4 := by omega
      have hby : wrap64 ((t[k].toNat : Nat) : Int) = ((t[k].toNat : Nat) : Int) := wrap_byte _
      have HBY : Hid (wrap64 ((t[k].toNat : Nat) : Int) = ((t[k].toNat : Nat) : Int)) := hby
      clear hby
      have hown := HOW.out
      go_wp2_with (at_builtin; refine wpList_append_own _ rfl _ _ 23 rfl w.heap.size 3 i0 (.int .i64 0) 1 8 Tryz.underlying23 hi hz0 hz1 hz2 rfl (by decide) _ _ _ rfl (hown.alloc _) ⟨wr.heap.size, 0, none⟩ 1 1 [.int .i64 (t[k].toNat : Int)] rfl rfl ?c1 ?c2 ?c3 ?c4 ?c5 ?_)
      case c1 =>
        intro j u hj
        match j, hj with
        | 0, hj => simp at hj; subst hj; simp [Addr.add, HBY.out]
      case c2 => intro u hu; simp at hu; subst hu; rfl
      case c3 => unfold maxLen; omega
      case c4 => omega
      case c5 => have := HBW.out.size; simp; omega
      intro v' w2 hown' hgrow _
      have HOW2 : Hid (w2.ownsRow w.heap.size 3 1 v' (pre ++ [(t[k].toNat : Int)]).length (cellsI (pre ++ [(t[k].toNat : Int)]))) := ownI_snoc hown'
      have HBW2 : Hid (Below w.heap.size w w2) := (HBW.out.alloc HBW.out.size _).grown hgrow (by have := HBW.out.size; simp; omega) (fun k e => (hown.lt k e).1)
      clear hown hown' hgrow
      go_wp2
      go_roundw
      case rel => exact ⟨k + 1, by omega, by omega, by go_num, by rw [HNX.out]; exact HOW2, HBW2⟩
      case measure => simp [intOf]; omega
    · have hend : ¬ (k < t.size ∧ k ≤ 4) := hlt
      clear hlt
      have hg : (k : Int) < (t.size : Int) → ¬ (k : Int) ≤ 4 := by omega
      by_cases h6 : k = t.size
      · have hk1 : ¬ (k : Int) < (t.size : Int) := by omega
        have hpt : pre = confOf t := by rw [HPR.out, List.take_of_length_le (by rw [Ents.confOf_len]; omega)]
        have hne : ((pre.length : Int) != (t.size : Int)) = false := by have := HPL.out; simp; omega
        obtain ⟨C, hC⟩ : ∃ C, C = Mans.confOk pre := ⟨_, rfl⟩
        have HCC : Hid (∀ W', Below wr.heap.size wr W' → Calls Tryz.prog 38 #[.slice va pre.length vc] W' fun e w' => e = .returned (.bool C) ∧ Below W'.heap.size W' w') := fun W' h => by
          obtain ⟨_, g1, _, e1, i1⟩ := cellsI_slice (own_kept HOW.out h)
          cases e1
          exact specConf_is pre (by omega) C hC.symm W' i1
        have HR : Hid ((C = true ∧ l = pre ∧ R = true) ∨ (C = false ∧ l = [] ∧ R = false)) := by
          rcases HRC.out with ⟨h1, h2⟩ | ⟨h1, h2, h3⟩
          · left
            unfold readC at h1
            split at h1
            · rename_i hc
              cases h1
              exact ⟨by rw [hC, hpt]; exact hc, hpt.symm, h2⟩
            · cases h1
          · right
            unfold readC at h1
            split at h1
            · cases h1
            · rename_i hc
              refine ⟨?_, h2, h3⟩
              rw [hC, hpt]
              simpa using hc
        clear hC hpt hend hg h6
        go_wp2_with fail
        refine Calls.mono (HCC.out _ (Below.refl _ _)) ?_
        rintro e w3 ⟨rfl, hb3⟩
        have HB3 : Hid (Below w.heap.size w w3) := HBW.out.trans (hb3.mono HBW.out.size)
        have HO3 : Hid (w3.ownsRow w.heap.size 3 1 (.slice va pre.length vc) pre.length (cellsI pre)) := own_kept HOW.out hb3
        clear hb3 HCC
        rcases HR.out with ⟨rfl, rfl, rfl⟩ | ⟨rfl, rfl, rfl⟩
        · clear HR HRC
          go_wp2
          go_ret2
          exact ⟨_, rfl, HO3.out, HB3.out⟩
        · clear HR HRC
          have hom := World.ownsRow_made (base := w.heap.size) (e := 3) (size := 1) w3 #[] 0 HB3.out.size (by unfold maxLen; omega) rfl
          have HOM : Hid ((w3.alloc (Obj.cells #[] 3)).ownsRow w.heap.size 3 1 (.slice (some ⟨w3.heap.size, 0, none⟩) 0 0) ([] : List Int).length (cellsI [])) := hom
          have HBM : Hid (Below w.heap.size w (w3.alloc (Obj.cells #[] 3))) := HB3.out.alloc HB3.out.size _
          clear hom
          go_wp2
          go_ret2
          exact ⟨_, rfl, HOM.out, HBM.out⟩
      · have hk1 : (k : Int) < (t.size : Int) := by omega
        have hk4 : ¬ (k : Int) ≤ 4 := by omega
        have hne : ((pre.length : Int) != (t.size : Int)) = true := by have := HPL.out; simp; omega
        obtain ⟨rfl, rfl⟩ : l = [] ∧ R = false := by
          rcases HRC.out with ⟨h1, h2⟩ | ⟨h1, h2, h3⟩
          · have := (Ents.conf_in (Ents.readC_iff.1 h1).1).1.2
            unfold readC at h1
            split at h1
            · cases h1
              rw [Ents.confOf_len] at this
              omega
            · cases h1
          · exact ⟨h2, h3⟩
        clear HRC hend hg h6
        have hom := World.ownsRow_made (base := w.heap.size) (e := 3) (size := 1) wr #[] 0 HBW.out.size (by unfold maxLen; omega) rfl
        have HOM : Hid ((wr.alloc (Obj.cells #[] 3)).ownsRow w.heap.size 3 1 (.slice (some ⟨wr.heap.size, 0, none⟩) 0 0) ([] : List Int).length (cellsI [])) := hom
        have HBM : Hid (Below w.heap.size w (wr.alloc (Obj.cells #[] 3))) := HBW.out.alloc HBW.out.size _
        clear hom
        go_wp2
        go_ret2
        exact ⟨_, rfl, HOM.out, HBM.out⟩
end Go.Proofs.YtimacmijinblmaaGreat
