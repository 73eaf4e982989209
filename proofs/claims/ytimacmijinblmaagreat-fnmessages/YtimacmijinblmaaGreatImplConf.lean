/- The specification's EntryOk and EntryText, walked. Bytes that were made, and one of them set. The program's ConfText and ReadConf, walked. -/
import Derived.Test.YtimacmijinblmaaGreatSpecConf
import Derived.Deep.RegionHeld3
import Derived.Test.YtimacmijinblmaaGreatKit
namespace Go.Proofs.YtimacmijinblmaaGreat
open Go.RowKit
open Ents (okB kindB text textS right)
set_option linter.unusedVariables false
set_option linter.unusedSimpArgs false

theorem nil_size (d : ByteArray) : d.toList.isEmpty = decide (d.size = 0) := by
  rw [ByteArray.toList_eq, ← Words.size_list]
  cases d.data.toList with
  | nil => rfl
  | cons x r => simp
def entV (e : EntL) : Value := .agg #[.int .i64 e.term, .int .i64 e.kind, .string e.data]
set_option maxHeartbeats 2000000 in
set_option maxRecDepth 100000 in
theorem specEntOk_is (e : EntL) (hs : e.data.size ≤ 1048576) (w : World) : Calls Tryz.prog 37 #[entV e] w fun en w' => en = .returned (.bool (okB e)) ∧ Below w.heap.size w w' := by
  obtain ⟨O, hO⟩ : ∃ O, O = okB e := ⟨_, rfl⟩
  rw [← hO]
  have HO : Hid (O = okB e) := hO
  obtain ⟨W, hW⟩ : ∃ W, W = w.alloc (Obj.cells #[.int .i64 e.term, .int .i64 e.kind, .string e.data] 44) := ⟨_, rfl⟩
  have HB : Hid (Below w.heap.size w W) := by show Below _ _ _; rw [hW]; exact (Below.refl _ _).alloc (Nat.le_refl _) _
  have p0 : W.heap[w.heap.size]? = some (.cells #[.int .i64 e.term, .int .i64 e.kind, .string e.data] 44 (0, 0)) := by rw [hW]; exact heap_alloc_new w _
  have HC : Hid (∀ W', Below W.heap.size W W' → W'.cell? ⟨w.heap.size, 1, none⟩ = some (.int .i64 e.kind) ∧ W'.cell? ⟨w.heap.size, 2, none⟩ = some (.string e.data)) := fun W' h => by
    have q := (h.block _ (Array.getElem?_eq_some_iff.1 p0).1).trans p0
    exact ⟨cell_of_row _ _ 1 _ _ _ q, cell_of_row _ _ 2 _ _ _ q⟩
  have c0 := cell_of_row _ _ 0 _ _ _ p0
  simp at c0
  rw [hW] at c0
  unfold entV
  clear hO p0
  by_cases ht : 0 ≤ e.term ∧ e.term ≤ 100000
  · go_enter Tryz.func37, Tryz.ntmps37
    go_wp2_with fail
    rw [← hW]
    refine (in_yes _ _ _ ht _).mono ?_
    rintro en w1 ⟨rfl, hw1⟩
    have hw2 := hw1.symm
    clear hw1
    subst hw2
    obtain ⟨c1, c2⟩ := HC.out _ (Below.refl _ _)
    clear c0 hW HC
    have hk : O = kindB e := by rw [HO.out]; unfold okB; simp [ht]
    unfold kindB at hk
    clear ht HO
    by_cases k1 : e.kind = 1
    · rw [if_pos k1] at hk
      have hd := nil_size e.data
      have HE : Hid (O = e.data.toList.isEmpty) := by show _ = _; rw [hk]; exact hd.symm
      have e1 : (e.kind == 1) = true := by simp [k1]
      clear hk hd k1
      go_wp2
      go_ret
      exact ⟨by rw [HE.out]; rfl, HB.out⟩
    · rw [if_neg k1] at hk
      have e1 : (e.kind == 1) = false := by simp [k1]
      by_cases k2 : e.kind = 2
      · rw [if_pos k2] at hk
        have e2 : (e.kind == 2) = true := by simp [k2]
        obtain ⟨l, R, hRC⟩ := rc_ex e.data
        have HOR : Hid (O = R) := by
          show _ = _
          rw [hk]
          rcases hRC with ⟨h1, h2⟩ | ⟨h1, _, h2⟩
          · rw [h2]
            unfold Ents.readC at h1
            split at h1
            · assumption
            · cases h1
          · rw [h2]
            unfold Ents.readC at h1
            split at h1
            · cases h1
            · rename_i hc; simpa using hc
        have HR : Hid (Calls Tryz.prog 20 #[.string e.data] W (RCPost W l R)) := specReadConf_is e.data hs l R hRC W
        clear hk k1 k2 hRC
        go_wp2_with fail
        refine Calls.mono HR.out ?_
        rintro en w2 ⟨v, rfl, ho2, hb2⟩
        obtain ⟨va, vc, hv⟩ := own_slice ho2
        subst hv
        have HB2 : Hid (Below w.heap.size w w2) := HB.out.trans (hb2.mono HB.out.size)
        clear ho2 hb2 HR c1 c2
        go_wp2
        go_ret
        exact ⟨by rw [HOR.out]; rfl, HB2.out⟩
      · rw [if_neg k2] at hk
        have e2 : (e.kind == 2) = false := by simp [k2]
        by_cases k3 : e.kind = 3
        · rw [if_pos k3] at hk
          have e3 : (e.kind == 3) = true := by simp [k3]
          have HE : Hid (O = decide ((e.data.size : Int) ≤ 120)) := by show _ = _; rw [hk]; apply decide_eq_decide.2; omega
          clear hk k1 k2 k3
          go_wp2
          go_ret
          exact ⟨by rw [HE.out]; rfl, HB.out⟩
        · rw [if_neg k3] at hk
          have e3 : (e.kind == 3) = false := by simp [k3]
          subst hk
          clear k1 k2 k3
          go_wp2
          go_ret
          exact ⟨rfl, HB.out⟩
  · have hf : O = false := by rw [HO.out]; unfold okB; simp [ht]
    subst hf
    go_enter Tryz.func37, Tryz.ntmps37
    go_wp2_with (go_at_call 36; refine (in_no _ _ _ ht _).mono ?_; rintro en w1 ⟨rfl, rfl⟩)
    go_ret
    exact ⟨rfl, by rw [← hW]; exact HB.out⟩
end Go.Proofs.YtimacmijinblmaaGreat
namespace Go.Proofs.YtimacmijinblmaaGreat
open Go.RowKit
set_option linter.unusedVariables false
set_option linter.unusedSimpArgs false

theorem made_bytes (n : Nat) : (madeCells #[Value.int .u8 0] n).toList = cellsB (List.replicate n 0) := by
  rw [toList_madeCells_one]
  simp [cellsB]

theorem set_bytes (pre : List UInt8) (j : Nat) (c : UInt8) : (cellsB pre).set j (.int .u8 (c.toNat : Int)) = cellsB (pre.set j c) := by
  simp [cellsB, List.map_set]
end Go.Proofs.YtimacmijinblmaaGreat
namespace Go.Proofs.YtimacmijinblmaaGreat
open Go.RowKit
open Ents (confB confS confOf readC)
set_option linter.unusedVariables false
set_option linter.unusedSimpArgs false

theorem confB_at {l : List Int} {k : Nat} (h : k < l.length) : (confB l)[k]'(by simpa [confB] using h) = UInt8.ofNat l[k].toNat := by simp [confB]
set_option maxHeartbeats 2000000 in
set_option maxRecDepth 100000 in
theorem implConfText_is {a : Option Addr} {g off cap : Nat} (l : List Int) (hlen : l.length ≤ 1048576) (w : World) (hf : IntAt w a g off l) :
    Calls Tryz.prog 104 #[.slice a l.length cap] w fun e w' => e = .returned (confTuple l) ∧ Below w.heap.size w w' := by
  obtain ⟨i0, hi, hz0, hz1, hz2⟩ := info_parts Tryz.info5
  obtain ⟨R, hR⟩ : ∃ R, R = Mans.confOk l := ⟨_, rfl⟩
  have HF : Hid (∀ W', Below w.heap.size w W' → IntAt W' a g off l) := fun W' h => hf.kept h
  have HC : Hid (Calls Tryz.prog 111 #[.slice a l.length cap] w fun e w' => e = .returned (.bool R) ∧ w = w') := implConf_is l hlen R hR.symm w hf
  unfold confTuple
  rw [← hR]
  have HR : Hid (R = true → (1 ≤ l.length ∧ l.length ≤ 4) ∧ ∀ n ∈ l, 1 ≤ n ∧ n ≤ 4) := fun h => Ents.conf_in (by rw [← hR]; exact h)
  clear hR hf
  go_enter Tryz.func104, Tryz.ntmps104
  go_wp2_with fail
  refine Calls.mono HC.out ?_
  rintro e w1 ⟨rfl, rfl⟩
  clear HC
  cases R with
  | false =>
    clear HR
    go_wp2
    go_ret2
    exact ⟨rfl, Below.refl _ _⟩
  | true =>
    obtain ⟨hl, hin⟩ := HR.out rfl
    have HIN : Hid (∀ n ∈ l, 1 ≤ n ∧ n ≤ 4) := hin
    have hl1 : l.length ≤ 4 := hl.2
    clear HR hl hin
    go_wp2_with (at_make; refine wpList_make_full _ rfl _ _ 31 rfl w.heap.size 5 i0 (.int .u8 0) 1 Tryz.underlying31 hi hz0 hz1 _ _ _ _ l.length rfl rfl (by omega) (by omega) ?b2 ?b3 (Nat.le_refl _) ?_)
    case b2 => rw [hz2]; omega
    case b3 => unfold maxLen; omega
    intro w0 hown0 hgrow0
    have hbel0 : Below w.heap.size w w0 := (Below.refl _ _).grown hgrow0 (Nat.le_refl _) (by simp)
    rw [made_bytes] at hown0
    have HO0 : Hid (w0.ownsRow w.heap.size 5 1 (.slice (some ⟨w.heap.size, 0, none⟩) l.length l.length) l.length (cellsB (List.replicate l.length 0))) := hown0
    have HB0 : Hid (Below w.heap.size w w0) := hbel0
    clear hgrow0 hown0 hbel0
    go_wp2
    go_loopw [15] (fun i wr => ∃ (k : Nat) (pre : List UInt8), k ≤ l.length ∧ i = .int .i64 (k : Int) ∧ Hid (pre.length = l.length ∧ pre.take k = (confB l).take k) ∧
        Hid (wr.ownsRow w.heap.size 5 1 (.slice (some ⟨w.heap.size, 0, none⟩) l.length l.length) l.length (cellsB pre)) ∧ Hid (Below w.heap.size w wr))
      (fun i _ => l.length - (intOf i).toNat)
    case atStart => exact ⟨0, _, Nat.zero_le _, rfl, ⟨by simp, by simp⟩, HO0, HB0⟩
    case round =>
      clear HO0 HB0
      obtain ⟨k, pre, hk, rfl, HP, HOW, HBW⟩ := hrel
      by_cases hlt : k < l.length
      · have hA := HF.out _ HBW.out
        have ea := hA.1 (by omega)
        have c2 := hA.2 k hlt
        subst ea
        have hn := HIN.out l[k] (List.getElem_mem _)
        obtain ⟨c, hc⟩ : ∃ c : UInt8, c = UInt8.ofNat l[k].toNat := ⟨_, rfl⟩
        have HCE : Hid ((confB l)[k]'(by simpa [confB] using hlt) = c) := by show _ = _; rw [confB_at hlt, hc]
        obtain ⟨n, hne⟩ : ∃ n, n = l[k] := ⟨_, rfl⟩
        rw [← hne] at c2 hn hc
        have hcn : ((c.toNat : Nat) : Int) = n := by rw [hc, UInt8.toNat_ofNat']; omega
        clear hne hA hc
        have hk0 : (0 : Int) ≤ (k : Int) := by omega
        have hk1 : (k : Int) < (l.length : Int) := by omega
        have hn1 : 1 ≤ n := hn.1
        have hn2 : n ≤ 4 := hn.2
        clear hn
        subst hcn
        have hown := HOW.out
        have hf0 := hown.frozenAt k
        obtain ⟨u0, hcl⟩ : ∃ u0, wr.cell? ⟨w.heap.size, k, none⟩ = some u0 := by
          rw [hown.cellAt k (by omega)]
          exact ⟨_, List.getElem?_eq_getElem (by have := hown.1; omega)⟩
        have hst := hown.stored k (.int .u8 (c.toNat : Int))
        rw [set_bytes] at hst
        have HST : Hid (_ ∧ _) := hst
        clear hst hown
        go_wp2
        go_roundw
        case rel => exact ⟨k + 1, pre.set k c, by omega, by go_num, ⟨by rw [List.length_set]; exact HP.out.1, take_set_step (by simpa [confB] using hlt) (by rw [HP.out.1]; simp [confB]) HP.out.2 HCE.out⟩, HST.out.1, HBW.out.setCell (Nat.le_refl _) _⟩
        case measure => simp [intOf]; omega
      · have hk1 : ¬ (k : Int) < (l.length : Int) := by omega
        have HE : Hid (pre = confB l) := by
          show _ = _
          have h := HP.out.2
          rwa [List.take_of_length_le (by rw [HP.out.1]; omega), List.take_of_length_le (by simp [confB]; omega)] at h
        have hcv := string_own (base := w.heap.size) (v := .slice (some ⟨w.heap.size, 0, none⟩) l.length l.length) (l := pre) (by rw [HP.out.1]; exact HOW.out)
        clear hlt
        go_wp2
        go_ret2
        exact ⟨by rw [HE.out]; rfl, HBW.out⟩
theorem confOf_at {t : ByteArray} {k : Nat} (h : k < t.size) : (confOf t)[k]'(by rw [Ents.confOf_len]; exact h) = (t[k].toNat : Int) := by simp [confOf, Batches.by_]; rfl
set_option maxHeartbeats 2000000 in
set_option maxRecDepth 100000 in
theorem implReadConf_is (t : ByteArray) (hs : t.size ≤ 1048576) (l : List Int) (R : Bool) (hRC : RCIs t l R) (w : World) :
    Calls Tryz.prog 105 #[.string t] w (RCPost w l R) := by
  obtain ⟨i0, hi, hz0, hz1, hz2⟩ := info_parts Tryz.info3
  by_cases hle : t.size ≤ 4
  · have h4 : (t.size : Int) ≤ 4 := by omega
    obtain ⟨C, hC⟩ : ∃ C, C = Mans.confOk (confOf t) := ⟨_, rfl⟩
    have HR : Hid ((C = true ∧ l = confOf t ∧ R = true) ∨ (C = false ∧ l = [] ∧ R = false)) := by
      rcases hRC with ⟨h1, h2⟩ | ⟨h1, h2, h3⟩
      · left
        unfold readC at h1
        split at h1
        · rename_i hc
          cases h1
          exact ⟨by rw [hC]; exact hc, rfl, h2⟩
        · cases h1
      · right
        unfold readC at h1
        split at h1
        · cases h1
        · rename_i hc
          refine ⟨?_, h2, h3⟩
          rw [hC]
          simpa using hc
    have HCC : Hid (∀ (W : World) (a : Option Addr) (g cap : Nat), IntAt W a g 0 (confOf t) → Calls Tryz.prog 111 #[.slice a t.size cap] W fun e w' => e = .returned (.bool C) ∧ W = w') := fun W a g cap h => by
      have := implConf_is (cap := cap) (confOf t) (by rw [Ents.confOf_len]; omega) C hC.symm W h
      rw [Ents.confOf_len] at this
      exact this
    clear hRC hC
    go_enter Tryz.func105, Tryz.ntmps105
    go_wp2_with (at_make; refine wpList_make_full _ rfl _ _ 23 rfl w.heap.size 3 i0 (.int .i64 0) 1 Tryz.underlying23 hi hz0 hz1 _ _ _ _ t.size rfl rfl (by omega) (by omega) ?b2 ?b3 (Nat.le_refl _) ?_)
    case b2 => rw [hz2]; omega
    case b3 => unfold maxLen; omega
    intro w0 hown0 hgrow0
    have hbel0 : Below w.heap.size w w0 := (Below.refl _ _).grown hgrow0 (Nat.le_refl _) (by simp)
    have hown0' : w0.ownsRow w.heap.size 3 1 (.slice (some ⟨w.heap.size, 0, none⟩) t.size t.size) t.size (cellsI (List.replicate t.size 0)) := by
      rw [← madeI]; simpa using hown0
    have HO0 : Hid (w0.ownsRow w.heap.size 3 1 (.slice (some ⟨w.heap.size, 0, none⟩) t.size t.size) t.size (cellsI (List.replicate t.size 0))) := hown0'
    have HB0 : Hid (Below w.heap.size w w0) := hbel0
    clear hgrow0 hown0 hbel0 hown0'
    go_wp2
    go_loopw [14] (fun i wr => ∃ (k : Nat) (pre : List Int), k ≤ t.size ∧ i = .int .i64 (k : Int) ∧ Hid (pre.length = t.size ∧ pre.take k = (confOf t).take k) ∧
        Hid (wr.ownsRow w.heap.size 3 1 (.slice (some ⟨w.heap.size, 0, none⟩) t.size t.size) t.size (cellsI pre)) ∧ Hid (Below w.heap.size w wr))
      (fun i _ => t.size - (intOf i).toNat)
    case atStart => exact ⟨0, _, Nat.zero_le _, rfl, ⟨by simp, by simp⟩, HO0, HB0⟩
    case round =>
      clear HO0 HB0
      obtain ⟨k, pre, hk, rfl, HP, HOW, HBW⟩ := hrel
      by_cases hlt : k < t.size
      · have HCE : Hid ((confOf t)[k]'(by rw [Ents.confOf_len]; exact hlt) = (t[k].toNat : Int)) := confOf_at hlt
        have hk0 : (0 : Int) ≤ (k : Int) := by omega
        have hk1 : (k : Int) < (t.size : Int) := by omega
        have hby : wrap64 ((t[k].toNat : Nat) : Int) = ((t[k].toNat : Nat) : Int) := wrap_byte _
        have HBY : Hid (wrap64 ((t[k].toNat : Nat) : Int) = ((t[k].toNat : Nat) : Int)) := hby
        clear hby
        have hown := HOW.out
        have hf0 := hown.frozenAt k
        obtain ⟨u0, hcl⟩ := own_cell_ex (q := k) hown (by omega) (by rw [cellsI_len, HP.out.1]; omega)
        have hst := hown.stored k (.int .i64 (wrap64 ((t[k].toNat : Nat) : Int)))
        rw [← cellsI_set pre k] at hst
        have HST : Hid (_ ∧ _) := hst
        clear hst hown
        go_wp2
        go_roundw
        case rel => exact ⟨k + 1, pre.set k (wrap64 ((t[k].toNat : Nat) : Int)), by omega, by go_num, ⟨by rw [List.length_set]; exact HP.out.1, take_set_step (by rw [Ents.confOf_len]; exact hlt) (by rw [HP.out.1, Ents.confOf_len]) HP.out.2 (HCE.out.trans HBY.out.symm)⟩, HST.out.1, HBW.out.setCell (Nat.le_refl _) _⟩
        case measure => simp [intOf]; omega
      · have hk1 : ¬ (k : Int) < (t.size : Int) := by omega
        have hE : pre = confOf t := by
          have h := HP.out.2
          rwa [List.take_of_length_le (by rw [HP.out.1]; omega), List.take_of_length_le (by rw [Ents.confOf_len]; omega)] at h
        subst hE
        have HCW : Hid (Calls Tryz.prog 111 #[.slice (some ⟨w.heap.size, 0, none⟩) t.size t.size] wr fun e w' => e = .returned (.bool C) ∧ wr = w') := HCC.out wr _ w.heap.size _ (cellsI_own HP.out.1 HOW.out)
        clear hlt HP HCC
        go_wp2_with fail
        refine Calls.mono HCW.out ?_
        rintro e w3 ⟨rfl, rfl⟩
        clear HCW
        rcases HR.out with ⟨rfl, rfl, rfl⟩ | ⟨rfl, rfl, rfl⟩
        · clear HR
          go_wp2
          go_ret2
          exact ⟨_, rfl, by rw [Ents.confOf_len]; exact HOW.out, HBW.out⟩
        · clear HR
          go_wp2
          go_ret2
          exact ⟨_, rfl, World.ownsRow_nil _ _ _ _, HBW.out⟩
  · have h4 : ¬ (t.size : Int) ≤ 4 := by omega
    obtain ⟨rfl, rfl⟩ : l = [] ∧ R = false := by
      rcases hRC with ⟨h1, h2⟩ | ⟨h1, h2, h3⟩
      · have := (Ents.conf_in (Ents.readC_iff.1 h1).1).1.2
        unfold readC at h1
        split at h1
        · cases h1
          rw [Ents.confOf_len] at this
          omega
        · cases h1
      · exact ⟨h2, h3⟩
    clear hRC
    go_enter Tryz.func105, Tryz.ntmps105
    go_wp2
    go_ret2
    exact ⟨_, rfl, World.ownsRow_nil _ _ _ _, Below.refl _ _⟩
end Go.Proofs.YtimacmijinblmaaGreat
