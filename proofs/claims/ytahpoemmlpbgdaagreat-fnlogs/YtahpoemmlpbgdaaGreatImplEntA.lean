/- The program's ConfText and ReadConf, walked. The program's entries by their contents, walked: contentOf, kindOf, the three data, EntryOk. The program's contentText, EntryOk and EntryText, walked. -/
import Derived.Test.YtahpoemmlpbgdaaGreatConfA
import Derived.Test.YtahpoemmlpbgdaaGreatDrawA
import Derived.Test.YtahpoemmlpbgdaaGreatSealA
import Derived.Test.YtahpoemmlpbgdaaGreatTxtA
import Derived.Deep.RegionHeld
import Derived.Test.YtahpoemmlpbgdaaGreatSpecEntT
namespace Go.Proofs.YtahpoemmlpbgdaaGreat
section
open Go.RowKit
open Ents (confB confS confOf readC)
set_option linter.unusedVariables false
set_option linter.unusedSimpArgs false

theorem confB_at {l : List Int} {k : Nat} (h : k < l.length) : (confB l)[k]'(by simpa [confB] using h) = UInt8.ofNat l[k].toNat := by simp [confB]
set_option maxHeartbeats 2000000 in
set_option maxRecDepth 100000 in
theorem implConfText_is {a : Option Addr} {g off cap : Nat} (l : List Int) (hlen : l.length ≤ 1048576) (w : World) (hf : IntAt w a g off l) :
    Calls Tryz.prog 135 #[.slice a l.length cap] w fun e w' => e = .returned (confTuple l) ∧ Below w.heap.size w w' := by
  obtain ⟨i0, hi, hz0, hz1, hz2⟩ := info_parts Tryz.info5
  obtain ⟨R, hR⟩ : ∃ R, R = Mans.confOk l := ⟨_, rfl⟩
  have HF : Hid (∀ W', Below w.heap.size w W' → IntAt W' a g off l) := fun W' h => hf.kept h
  have HC : Hid (Calls Tryz.prog 114 #[.slice a l.length cap] w fun e w' => e = .returned (.bool R) ∧ w = w') := implConf_is l hlen R hR.symm w hf
  unfold confTuple
  rw [← hR]
  have HR : Hid (R = true → (1 ≤ l.length ∧ l.length ≤ 4) ∧ ∀ n ∈ l, 1 ≤ n ∧ n ≤ 4) := fun h => Ents.conf_in (by rw [← hR]; exact h)
  clear hR hf
  go_enter Tryz.func135, Tryz.ntmps135
  go_wp2_with fail
  refine Calls.mono HC.out ?_
  rintro e w1 ⟨rfl, rfl⟩
  clear HC
  cases R with
  | false =>
    clear HR
    go_wp2
    go_ret2
    exact ⟨rfl, Below.refl _ _⟩
  | true =>
    obtain ⟨hl, hin⟩ := HR.out rfl
    have HIN : Hid (∀ n ∈ l, 1 ≤ n ∧ n ≤ 4) := hin
    have hl1 : l.length ≤ 4 := hl.2
    clear HR hl hin
    go_wp2_with (at_make; refine wpList_make_full _ rfl _ _ 22 rfl w.heap.size 5 i0 (.int .u8 0) 1 Tryz.underlying22 hi hz0 hz1 _ _ _ _ l.length rfl rfl (by omega) (by omega) ?b2 ?b3 (Nat.le_refl _) ?_)
    case b2 => rw [hz2]; omega
    case b3 => unfold maxLen; omega
    intro w0 hown0 hgrow0
    have hbel0 : Below w.heap.size w w0 := (Below.refl _ _).grown hgrow0 (Nat.le_refl _) (by simp)
    rw [made_bytes] at hown0
    have HO0 : Hid (w0.ownsRow w.heap.size 5 1 (.slice (some ⟨w.heap.size, 0, none⟩) l.length l.length) l.length (cellsB (List.replicate l.length 0))) := hown0
    have HB0 : Hid (Below w.heap.size w w0) := hbel0
    clear hgrow0 hown0 hbel0
    go_wp2
    go_loopw [15] (fun i wr => ∃ (k : Nat) (pre : List UInt8), k ≤ l.length ∧ i = .int .i64 (k : Int) ∧ Hid (pre.length = l.length ∧ pre.take k = (confB l).take k) ∧
        Hid (wr.ownsRow w.heap.size 5 1 (.slice (some ⟨w.heap.size, 0, none⟩) l.length l.length) l.length (cellsB pre)) ∧ Hid (Below w.heap.size w wr))
      (fun i _ => l.length - (intOf i).toNat)
    case atStart => exact ⟨0, _, Nat.zero_le _, rfl, ⟨by simp, by simp⟩, HO0, HB0⟩
    case round =>
      clear HO0 HB0
      obtain ⟨k, pre, hk, rfl, HP, HOW, HBW⟩ := hrel
      by_cases hlt : k < l.length
      · have hA := HF.out _ HBW.out
        have ea := hA.1 (by omega)
        have c2 := hA.2 k hlt
        subst ea
        have hn := HIN.out l[k] (List.getElem_mem _)
        obtain ⟨c, hc⟩ : ∃ c : UInt8, c = UInt8.ofNat l[k].toNat := ⟨_, rfl⟩
        have HCE : Hid ((confB l)[k]'(by simpa [confB] using hlt) = c) := by show _ = _; rw [confB_at hlt, hc]
        obtain ⟨n, hne⟩ : ∃ n, n = l[k] := ⟨_, rfl⟩
        rw [← hne] at c2 hn hc
        have hcn : ((c.toNat : Nat) : Int) = n := by rw [hc, UInt8.toNat_ofNat']; omega
        clear hne hA hc
        have hk0 : (0 : Int) ≤ (k : Int) := by omega
        have hk1 : (k : Int) < (l.length : Int) := by omega
        have hn1 : 1 ≤ n := hn.1
        have hn2 : n ≤ 4 := hn.2
        clear hn
        subst hcn
        have hown := HOW.out
        have hf0 := hown.frozenAt k
        obtain ⟨u0, hcl⟩ : ∃ u0, wr.cell? ⟨w.heap.size, k, none⟩ = some u0 := by
          rw [hown.cellAt k (by omega)]
          exact ⟨_, List.getElem?_eq_getElem (by have := hown.1; omega)⟩
        have hst := hown.stored k (.int .u8 (c.toNat : Int))
        rw [set_bytes] at hst
        have HST : Hid (_ ∧ _) := hst
        clear hst hown
        go_wp2
        go_roundw
        case rel => exact ⟨k + 1, pre.set k c, by omega, by go_num, ⟨by rw [List.length_set]; exact HP.out.1, take_set_step (by simpa [confB] using hlt) (by rw [HP.out.1]; simp [confB]) HP.out.2 HCE.out⟩, HST.out.1, HBW.out.setCell (Nat.le_refl _) _⟩
        case measure => simp [intOf]; omega
      · have hk1 : ¬ (k : Int) < (l.length : Int) := by omega
        have HE : Hid (pre = confB l) := by
          show _ = _
          have h := HP.out.2
          rwa [List.take_of_length_le (by rw [HP.out.1]; omega), List.take_of_length_le (by simp [confB]; omega)] at h
        have hcv := string_own (base := w.heap.size) (v := .slice (some ⟨w.heap.size, 0, none⟩) l.length l.length) (l := pre) (by rw [HP.out.1]; exact HOW.out)
        clear hlt
        go_wp2
        go_ret2
        exact ⟨by rw [HE.out]; rfl, HBW.out⟩
theorem confOf_at {t : ByteArray} {k : Nat} (h : k < t.size) : (confOf t)[k]'(by rw [Ents.confOf_len]; exact h) = (t[k].toNat : Int) := by simp [confOf, Batches.by_]; rfl
set_option maxHeartbeats 2000000 in
set_option maxRecDepth 100000 in
theorem implReadConf_is (t : ByteArray) (hs : t.size ≤ 1048576) (l : List Int) (R : Bool) (hRC : RCIs t l R) (w : World) :
    Calls Tryz.prog 108 #[.string t] w (RCPost w l R) := by
  obtain ⟨i0, hi, hz0, hz1, hz2⟩ := info_parts Tryz.info3
  by_cases hle : t.size ≤ 4
  · have h4 : (t.size : Int) ≤ 4 := by omega
    obtain ⟨C, hC⟩ : ∃ C, C = Mans.confOk (confOf t) := ⟨_, rfl⟩
    have HR : Hid ((C = true ∧ l = confOf t ∧ R = true) ∨ (C = false ∧ l = [] ∧ R = false)) := by
      rcases hRC with ⟨h1, h2⟩ | ⟨h1, h2, h3⟩
      · left
        unfold readC at h1
        split at h1
        · rename_i hc
          cases h1
          exact ⟨by rw [hC]; exact hc, rfl, h2⟩
        · cases h1
      · right
        unfold readC at h1
        split at h1
        · cases h1
        · rename_i hc
          refine ⟨?_, h2, h3⟩
          rw [hC]
          simpa using hc
    have HCC : Hid (∀ (W : World) (a : Option Addr) (g cap : Nat), IntAt W a g 0 (confOf t) → Calls Tryz.prog 114 #[.slice a t.size cap] W fun e w' => e = .returned (.bool C) ∧ W = w') := fun W a g cap h => by
      have := implConf_is (cap := cap) (confOf t) (by rw [Ents.confOf_len]; omega) C hC.symm W h
      rw [Ents.confOf_len] at this
      exact this
    clear hRC hC
    go_enter Tryz.func108, Tryz.ntmps108
    go_wp2_with (at_make; refine wpList_make_full _ rfl _ _ 45 rfl w.heap.size 3 i0 (.int .i64 0) 1 Tryz.underlying45 hi hz0 hz1 _ _ _ _ t.size rfl rfl (by omega) (by omega) ?b2 ?b3 (Nat.le_refl _) ?_)
    case b2 => rw [hz2]; omega
    case b3 => unfold maxLen; omega
    intro w0 hown0 hgrow0
    have hbel0 : Below w.heap.size w w0 := (Below.refl _ _).grown hgrow0 (Nat.le_refl _) (by simp)
    have hown0' : w0.ownsRow w.heap.size 3 1 (.slice (some ⟨w.heap.size, 0, none⟩) t.size t.size) t.size (cellsI (List.replicate t.size 0)) := by
      rw [← madeI]; simpa using hown0
    have HO0 : Hid (w0.ownsRow w.heap.size 3 1 (.slice (some ⟨w.heap.size, 0, none⟩) t.size t.size) t.size (cellsI (List.replicate t.size 0))) := hown0'
    have HB0 : Hid (Below w.heap.size w w0) := hbel0
    clear hgrow0 hown0 hbel0 hown0'
    go_wp2
    go_loopw [14] (fun i wr => ∃ (k : Nat) (pre : List Int), k ≤ t.size ∧ i = .int .i64 (k : Int) ∧ Hid (pre.length = t.size ∧ pre.take k = (confOf t).take k) ∧
        Hid (wr.ownsRow w.heap.size 3 1 (.slice (some ⟨w.heap.size, 0, none⟩) t.size t.size) t.size (cellsI pre)) ∧ Hid (Below w.heap.size w wr))
      (fun i _ => t.size - (intOf i).toNat)
    case atStart => exact ⟨0, _, Nat.zero_le _, rfl, ⟨by simp, by simp⟩, HO0, HB0⟩
    case round =>
      clear HO0 HB0
      obtain ⟨k, pre, hk, rfl, HP, HOW, HBW⟩ := hrel
      by_cases hlt : k < t.size
      · have HCE : Hid ((confOf t)[k]'(by rw [Ents.confOf_len]; exact hlt) = (t[k].toNat : Int)) := confOf_at hlt
        have hk0 : (0 : Int) ≤ (k : Int) := by omega
        have hk1 : (k : Int) < (t.size : Int) := by omega
        have hby : wrap64 ((t[k].toNat : Nat) : Int) = ((t[k].toNat : Nat) : Int) := wrap_byte _
        have HBY : Hid (wrap64 ((t[k].toNat : Nat) : Int) = ((t[k].toNat : Nat) : Int)) := hby
        clear hby
        have hown := HOW.out
        have hf0 := hown.frozenAt k
        obtain ⟨u0, hcl⟩ := own_cell_ex (q := k) hown (by omega) (by rw [cellsI_len, HP.out.1]; omega)
        have hst := hown.stored k (.int .i64 (wrap64 ((t[k].toNat : Nat) : Int)))
        rw [← cellsI_set pre k] at hst
        have HST : Hid (_ ∧ _) := hst
        clear hst hown
        go_wp2
        go_roundw
        case rel => exact ⟨k + 1, pre.set k (wrap64 ((t[k].toNat : Nat) : Int)), by omega, by go_num, ⟨by rw [List.length_set]; exact HP.out.1, take_set_step (by rw [Ents.confOf_len]; exact hlt) (by rw [HP.out.1, Ents.confOf_len]) HP.out.2 (HCE.out.trans HBY.out.symm)⟩, HST.out.1, HBW.out.setCell (Nat.le_refl _) _⟩
        case measure => simp [intOf]; omega
      · have hk1 : ¬ (k : Int) < (t.size : Int) := by omega
        have hE : pre = confOf t := by
          have h := HP.out.2
          rwa [List.take_of_length_le (by rw [HP.out.1]; omega), List.take_of_length_le (by rw [Ents.confOf_len]; omega)] at h
        subst hE
        have HCW : Hid (Calls Tryz.prog 114 #[.slice (some ⟨w.heap.size, 0, none⟩) t.size t.size] wr fun e w' => e = .returned (.bool C) ∧ wr = w') := HCC.out wr _ w.heap.size _ (cellsI_own HP.out.1 HOW.out)
        clear hlt HP HCC
        go_wp2_with fail
        refine Calls.mono HCW.out ?_
        rintro e w3 ⟨rfl, rfl⟩
        clear HCW
        rcases HR.out with ⟨rfl, rfl, rfl⟩ | ⟨rfl, rfl, rfl⟩
        · clear HR
          go_wp2
          go_ret2
          exact ⟨_, rfl, by rw [Ents.confOf_len]; exact HOW.out, HBW.out⟩
        · clear HR
          go_wp2
          go_ret2
          exact ⟨_, rfl, World.ownsRow_nil _ _ _ _, HBW.out⟩
  · have h4 : ¬ (t.size : Int) ≤ 4 := by omega
    obtain ⟨rfl, rfl⟩ : l = [] ∧ R = false := by
      rcases hRC with ⟨h1, h2⟩ | ⟨h1, h2, h3⟩
      · have := (Ents.conf_in (Ents.readC_iff.1 h1).1).1.2
        unfold readC at h1
        split at h1
        · cases h1
          rw [Ents.confOf_len] at this
          omega
        · cases h1
      · exact ⟨h2, h3⟩
    clear hRC
    go_enter Tryz.func108, Tryz.ntmps108
    go_wp2
    go_ret2
    exact ⟨_, rfl, World.ownsRow_nil _ _ _ _, Below.refl _ _⟩
end
section
open Go.RowKit
open Ents (okB kindB text textS right confOf confS)
set_option linter.unusedVariables false
set_option linter.unusedSimpArgs false

theorem termOk_is (x : Int) (R : Bool) (hR : R = decide (0 ≤ x ∧ x ≤ 100000)) (w : World) : Calls Tryz.prog 49 #[.int .i64 x] w fun en w' => en = .returned (.bool R) ∧ w' = w := by
  by_cases h0 : 0 ≤ x
  · by_cases h1 : x ≤ 100000
    · have HR : Hid (R = true) := by show _ = _; rw [hR]; simp [h0, h1]
      clear hR
      go_enter Tryz.func49, Tryz.ntmps49
      go_wp2
      go_ret
      exact ⟨by rw [HR.out]; simp [h1], rfl⟩
    · have HR : Hid (R = false) := by show _ = _; rw [hR]; simp [h1]
      clear hR
      go_enter Tryz.func49, Tryz.ntmps49
      go_wp2
      go_ret
      exact ⟨by rw [HR.out]; simp [h1], rfl⟩
  · have HR : Hid (R = false) := by show _ = _; rw [hR]; simp [h0]
    clear hR
    go_enter Tryz.func49, Tryz.ntmps49
    go_wp2
    go_ret
    exact ⟨by rw [HR.out]; rfl, rfl⟩
theorem placeOk_is (x : Int) (R : Bool) (hR : R = decide (1 ≤ x ∧ x ≤ 100000)) (w : World) : Calls Tryz.prog 86 #[.int .i64 x] w fun en w' => en = .returned (.bool R) ∧ w' = w := by
  by_cases h0 : 1 ≤ x
  · by_cases h1 : x ≤ 100000
    · have HR : Hid (R = true) := by show _ = _; rw [hR]; simp [h0, h1]
      clear hR
      go_enter Tryz.func86, Tryz.ntmps86
      go_wp2
      go_ret
      exact ⟨by rw [HR.out]; simp [h1], rfl⟩
    · have HR : Hid (R = false) := by show _ = _; rw [hR]; simp [h1]
      clear hR
      go_enter Tryz.func86, Tryz.ntmps86
      go_wp2
      go_ret
      exact ⟨by rw [HR.out]; simp [h1], rfl⟩
  · have HR : Hid (R = false) := by show _ = _; rw [hR]; simp [h0]
    clear hR
    go_enter Tryz.func86, Tryz.ntmps86
    go_wp2
    go_ret
    exact ⟨by rw [HR.out]; rfl, rfl⟩
/-- The content that is of this entry, where it is one. -/
def ContV (W : World) (B : Nat) (e : EntL) (v : Value) : Prop :=
  (e.kind = 1 ∧ e.data = ⟨#[]⟩ ∧ v = .iface 151 (.agg #[])) ∨
  (e.kind = 2 ∧ Mans.confOk (confOf e.data) = true ∧ ∃ u, v = .iface 153 (.agg #[u]) ∧ W.ownsRow B 3 1 u (confOf e.data).length (cellsI (confOf e.data))) ∨
  (e.kind = 3 ∧ v = .iface 155 (.agg #[.string e.data]))
def Cont (W : World) (B : Nat) (e : EntL) (v : Value) : Prop := (kindB e = false ∧ v = .nilIface) ∨ (kindB e = true ∧ ContV W B e v)
def ContPost (w : World) (e : EntL) (en : Ending) (w' : World) : Prop := ∃ v, en = .returned v ∧ Cont w' w.heap.size e v ∧ Below w.heap.size w w'
theorem ContV.kept {W W' : World} {B : Nat} {e : EntL} {v : Value} (h : ContV W B e v) (hb : Below W.heap.size W W') : ContV W' B e v := by
  rcases h with h | ⟨h1, h2, u, h3, h4⟩ | h
  · exact Or.inl h
  · exact Or.inr (Or.inl ⟨h1, h2, u, h3, own_kept h4 hb⟩)
  · exact Or.inr (Or.inr h)
theorem nil_data (d : ByteArray) (h : d.size = 0) : d = ⟨#[]⟩ := by
  cases d with
  | mk a =>
    have : a = #[] := Array.eq_empty_of_size_eq_zero h
    rw [this]
set_option maxHeartbeats 2000000 in
set_option maxRecDepth 100000 in
theorem contentOf_is (e : EntL) (hs : e.data.size ≤ 1048576) (w : World) : Calls Tryz.prog 88 #[.int .i64 e.kind, .string e.data] w (ContPost w e) := by
  by_cases k1 : e.kind = 1
  · have q1 : (e.kind == 1) = true := by simp [k1]
    by_cases hd : e.data.size = 0
    · have hn := nil_size e.data
      have hn' : e.data.toList.isEmpty = true := by rw [hn]; simp [hd]
      have HK : Hid (kindB e = true) := by show _ = _; unfold kindB; simp [k1, hd]
      have HD : Hid (e.data = ⟨#[]⟩) := nil_data _ hd
      have K1 : Hid (e.kind = 1) := k1
      clear k1 hd hn
      go_enter Tryz.func88, Tryz.ntmps88
      go_wp2
      go_ret
      exact ⟨_, rfl, Or.inr ⟨HK.out, Or.inl ⟨K1.out, HD.out, rfl⟩⟩, Below.refl _ _⟩
    · have hn := nil_size e.data
      have hn' : e.data.toList.isEmpty = false := by rw [hn]; simp [hd]
      have HK : Hid (kindB e = false) := by show _ = _; unfold kindB; simp [k1, hd]
      clear k1 hd hn
      go_enter Tryz.func88, Tryz.ntmps88
      go_wp2
      go_ret
      exact ⟨_, rfl, Or.inl ⟨HK.out, rfl⟩, Below.refl _ _⟩
  · have q1 : (e.kind == 1) = false := by simp [k1]
    by_cases k2 : e.kind = 2
    · have q2 : (e.kind == 2) = true := by simp [k2]
      obtain ⟨l, R, hRC⟩ := rc_ex e.data
      have HR : Hid (Calls Tryz.prog 108 #[.string e.data] w (RCPost w l R)) := implReadConf_is e.data hs l R hRC w
      have HOR : Hid ((R = true ∧ l = confOf e.data ∧ Mans.confOk (confOf e.data) = true ∧ kindB e = true) ∨ (R = false ∧ kindB e = false)) := by
        have hk : kindB e = Mans.confOk (confOf e.data) := by unfold kindB; simp [k2]
        rcases hRC with ⟨h1, h2⟩ | ⟨h1, _, h2⟩
        · unfold Ents.readC at h1
          split at h1
          · rename_i hc
            cases h1
            exact Or.inl ⟨h2, rfl, hc, by rw [hk]; exact hc⟩
          · cases h1
        · unfold Ents.readC at h1
          split at h1
          · cases h1
          · rename_i hc
            exact Or.inr ⟨h2, by rw [hk]; simpa using hc⟩
      have K2 : Hid (e.kind = 2) := k2
      clear k1 k2 hRC
      go_enter Tryz.func88, Tryz.ntmps88
      go_wp2_with fail
      refine Calls.mono HR.out ?_
      rintro en w2 ⟨v, rfl, ho2, hb2⟩
      obtain ⟨va, vc, hv⟩ := own_slice ho2
      subst hv
      have HO2 : Hid (w2.ownsRow w.heap.size 3 1 (.slice va l.length vc) l.length (cellsI l)) := ho2
      have HB2 : Hid (Below w.heap.size w w2) := hb2
      clear ho2 hb2 HR
      rcases HOR.out with ⟨rfl, hl, hc, hk⟩ | ⟨rfl, hk⟩
      · have HL : Hid (l = confOf e.data ∧ Mans.confOk (confOf e.data) = true ∧ kindB e = true) := ⟨hl, hc, hk⟩
        clear HOR hl hc hk
        go_wp2
        go_ret
        exact ⟨_, rfl, Or.inr ⟨HL.out.2.2, Or.inr (Or.inl ⟨K2.out, HL.out.2.1, _, rfl, by rw [← HL.out.1]; exact HO2.out⟩)⟩, HB2.out⟩
      · have HK : Hid (kindB e = false) := hk
        clear HOR hk
        go_wp2
        go_ret
        exact ⟨_, rfl, Or.inl ⟨HK.out, rfl⟩, HB2.out⟩
    · have q2 : (e.kind == 2) = false := by simp [k2]
      by_cases k3 : e.kind = 3
      · have q3 : (e.kind == 3) = true := by simp [k3]
        by_cases hd : e.data.size ≤ 120
        · have hd' : (e.data.size : Int) ≤ 120 := by omega
          have HK : Hid (kindB e = true) := by show _ = _; unfold kindB; simp [k3, hd]
          have K3 : Hid (e.kind = 3) := k3
          clear k1 k2 k3
          go_enter Tryz.func88, Tryz.ntmps88
          go_wp2_with (go_at_call 58; refine (clone_any e.data (by omega) _).mono ?_; rintro en w2 ⟨rfl, hb2⟩)
          go_ret
          exact ⟨_, rfl, Or.inr ⟨HK.out, Or.inr (Or.inr ⟨K3.out, rfl⟩)⟩, hb2⟩
        · have hd' : ¬ (e.data.size : Int) ≤ 120 := by omega
          have HK : Hid (kindB e = false) := by show _ = _; unfold kindB; simp [k3, hd]
          clear k1 k2 k3
          go_enter Tryz.func88, Tryz.ntmps88
          go_wp2
          go_ret
          exact ⟨_, rfl, Or.inl ⟨HK.out, rfl⟩, Below.refl _ _⟩
      · have q3 : (e.kind == 3) = false := by simp [k3]
        have HK : Hid (kindB e = false) := by show _ = _; unfold kindB; simp [k1, k2, k3]
        clear k1 k2 k3
        go_enter Tryz.func88, Tryz.ntmps88
        go_wp2
        go_ret
        exact ⟨_, rfl, Or.inl ⟨HK.out, rfl⟩, Below.refl _ _⟩
theorem ta_yes73 (v : Value) (w : World) : (Instr.typeAssert (.iface 151 v) 124 151 true).run Tryz.prog w = .ok (.tuple #[v, .bool true]) w := by kernel_rfl
theorem ta_yes75 (v : Value) (w : World) : (Instr.typeAssert (.iface 153 v) 124 153 true).run Tryz.prog w = .ok (.tuple #[v, .bool true]) w := by kernel_rfl
theorem ta_yes78 (v : Value) (w : World) : (Instr.typeAssert (.iface 155 v) 124 155 true).run Tryz.prog w = .ok (.tuple #[v, .bool true]) w := by kernel_rfl
theorem ta_75no73 (v : Value) (w : World) : (Instr.typeAssert (.iface 153 v) 124 151 true).run Tryz.prog w = .ok (.tuple #[.agg #[], .bool false]) w := by kernel_rfl
theorem ta_78no73 (v : Value) (w : World) : (Instr.typeAssert (.iface 155 v) 124 151 true).run Tryz.prog w = .ok (.tuple #[.agg #[], .bool false]) w := by kernel_rfl
theorem ta_78no75 (v : Value) (w : World) : (Instr.typeAssert (.iface 155 v) 124 153 true).run Tryz.prog w = .ok (.tuple #[.agg #[.slice none 0 0], .bool false]) w := by kernel_rfl
set_option maxHeartbeats 1000000 in
set_option maxRecDepth 100000 in
theorem kindOf_is {W : World} {B : Nat} {e : EntL} {v : Value} (h : ContV W B e v) (w : World) : Calls Tryz.prog 107 #[v] w fun en w' => en = .returned (.int .i64 e.kind) ∧ w' = w := by
  have t1 := ta_yes73
  have t2 := ta_yes75
  have t3 := ta_yes78
  have t4 := ta_75no73
  have t5 := ta_78no73
  have t6 := ta_78no75
  rcases h with ⟨k, _, rfl⟩ | ⟨k, _, u, rfl, ho⟩ | ⟨k, rfl⟩
  · rw [k]
    go_enter Tryz.func107, Tryz.ntmps107
    go_wp2
    go_ret
    exact ⟨rfl, rfl⟩
  · rw [k]
    obtain ⟨va, vc, hv⟩ := own_slice ho
    subst hv
    clear ho
    go_enter Tryz.func107, Tryz.ntmps107
    go_wp2
    go_ret
    exact ⟨rfl, rfl⟩
  · rw [k]
    go_enter Tryz.func107, Tryz.ntmps107
    go_wp2
    go_ret
    exact ⟨rfl, rfl⟩
theorem data_none (w : World) : Calls Tryz.prog 133 #[.agg #[]] w fun en w' => en = .returned (.string ⟨#[]⟩) ∧ Below w.heap.size w w' := by
  have HB : Hid (Below w.heap.size w (w.alloc (Obj.cells #[] 151))) := (Below.refl _ _).alloc (Nat.le_refl _) _
  go_enter Tryz.func133, Tryz.ntmps133
  go_wp2
  go_ret
  exact ⟨rfl, HB.out⟩
theorem data_cmd (d : ByteArray) (w : World) : Calls Tryz.prog 136 #[.agg #[.string d]] w fun en w' => en = .returned (.string d) ∧ Below w.heap.size w w' := by
  have HB : Hid (Below w.heap.size w (w.alloc (Obj.cells #[.string d] 155))) := (Below.refl _ _).alloc (Nat.le_refl _) _
  go_enter Tryz.func136, Tryz.ntmps136
  go_wp2
  go_ret
  exact ⟨rfl, HB.out⟩
set_option maxHeartbeats 1000000 in
theorem data_conf {B : Nat} {u : Value} (d : ByteArray) (hs : d.size ≤ 1048576) (hc : Mans.confOk (confOf d) = true) (w : World) (ho : w.ownsRow B 3 1 u (confOf d).length (cellsI (confOf d))) : Calls Tryz.prog 134 #[.agg #[u]] w fun en w' => en = .returned (.string d) ∧ Below w.heap.size w w' := by
  obtain ⟨a, g, cap, hv, hi⟩ := cellsI_slice ho
  subst hv
  obtain ⟨l, hl⟩ : ∃ l, l = confOf d := ⟨_, rfl⟩
  rw [← hl] at hi ⊢
  obtain ⟨W, hW⟩ : ∃ W, W = w.alloc (Obj.cells #[.slice a l.length cap] 153) := ⟨_, rfl⟩
  have hb : Below w.heap.size w W := by rw [hW]; exact (Below.refl _ _).alloc (Nat.le_refl _) _
  have ht : confTuple l = .tuple #[.string d, .bool true] := by unfold confTuple; rw [hl, if_pos hc, Ents.confS_confOf]
  have hq := implConfText_is (cap := cap) l (by rw [hl, Ents.confOf_len]; exact hs) W (hi.kept hb)
  rw [ht] at hq
  have HQ : Hid (Calls Tryz.prog 135 #[.slice a l.length cap] W fun en w' => en = .returned (.tuple #[.string d, .bool true]) ∧ Below W.heap.size W w') := hq
  have HB : Hid (Below w.heap.size w W) := hb
  clear hq hb hi ht ho hl
  go_enter Tryz.func134, Tryz.ntmps134
  go_wp2_with fail
  rw [← hW]
  clear hW
  refine Calls.mono HQ.out ?_
  rintro en w1 ⟨rfl, hb1⟩
  have HB1 : Hid (Below w.heap.size w w1) := HB.out.trans (hb1.mono HB.out.size)
  clear hb1 HQ
  go_wp2
  go_ret
  exact ⟨rfl, HB1.out⟩
end
section
open Go.RowKit
open Ents (okB kindB text textS right confOf confS)
set_option linter.unusedVariables false
set_option linter.unusedSimpArgs false

theorem met_none  (w : World) : (method 277 151 (.agg #[]) "loop.example/g00103/impl.data").run Tryz.prog w = .ok (133, .agg #[]) w := by kernel_rfl
set_option maxHeartbeats 4000000 in
set_option maxRecDepth 100000 in
theorem contentText_none  (k : Int) (b : UInt8) (hw : IntKind.u8.wrap k = (b.toNat : Int)) (d : ByteArray) (hd : d.size ≤ 120) (w : World)
    (hko : ∀ W : World, Below w.heap.size w W → Calls Tryz.prog 107 #[.iface 151 (.agg #[])] W fun en w' => en = .returned (.int .i64 k) ∧ w' = W)
    (hda : ∀ W : World, Below w.heap.size w W → Calls Tryz.prog 133 #[.agg #[]] W fun en w' => en = .returned (.string d) ∧ Below W.heap.size W w') :
    Calls Tryz.prog 87 #[.iface 151 (.agg #[])] w fun en w' => en = .returned (.string (⟨#[b]⟩ ++ d)) ∧ Below w.heap.size w w' := by
  have HKO : Hid (∀ W : World, Below w.heap.size w W → Calls Tryz.prog 107 #[.iface 151 (.agg #[])] W fun en w' => en = .returned (.int .i64 k) ∧ w' = W) := hko
  have HDA : Hid (∀ W : World, Below w.heap.size w W → Calls Tryz.prog 133 #[.agg #[]] W fun en w' => en = .returned (.string d) ∧ Below W.heap.size W w') := hda
  have z1 : ¬ 9223372036854775807 < 1 + d.size := by omega
  have HK : Hid (∀ W W' : World, Below w.heap.size w W → Below W.heap.size W W' → Below w.heap.size w W') := fun W W' a b => a.trans (b.mono a.size)
  have HR0 : Hid (∀ W' : World, Below (w.drew.alloc (Obj.cells #[.int .u8 (b.toNat : Int)] 5)).heap.size (w.drew.alloc (Obj.cells #[.int .u8 (b.toNat : Int)] 5)) W' → RowAt W' w.heap.size b) := fun W' a => (RowAt.new w.drew b).kept a
  have cv0 : ∀ X : World, (convert 22 9 (.slice (some ⟨X.heap.size, 0, none⟩) 1 1)).run Tryz.prog (X.alloc (Obj.cells #[.int .u8 (b.toNat : Int)] 5)) = .ok (.string ⟨#[b]⟩) (X.alloc (Obj.cells #[.int .u8 (b.toNat : Int)] 5)) := fun X => (RowAt.new X b).cv
  have cv00 : (convert 22 9 (.slice (some ⟨w.heap.size, 0, none⟩) 1 1)).run Tryz.prog (w.alloc (Obj.cells #[.int .u8 (b.toNat : Int)] 5)).drew = .ok (.string ⟨#[b]⟩) (w.alloc (Obj.cells #[.int .u8 (b.toNat : Int)] 5)).drew := (RowAt.new w.drew b).cv
  have BD : Below w.heap.size w w.drew := (Below.refl _ _).drew
  have mt : ∀ W : World, (method 277 151 (.agg #[]) "loop.example/g00103/impl.data").run Tryz.prog W = .ok (133, .agg #[]) W := fun W => met_none W
  clear hko hda
  go_enter Tryz.func87, Tryz.ntmps87
  go_wp2_with fail
  go_region_held (fun w' => Below w.heap.size w w')
    (first | assumption | exact Below.alloc (by assumption) (Below.size (by assumption)) _ | fail)
    (first | (go_at_call 107; refine Calls.mono (HKO.out _ (by assumption)) ?_; rintro en w5 ⟨rfl, hw5⟩; have hw6 := hw5.symm; clear hw5; subst hw6) | (go_at_call 133; refine Calls.mono (HDA.out _ (by assumption)) ?_; rintro en w5 ⟨rfl, hb5⟩; have hq5 := HK.out _ _ (by assumption) hb5; (first | (have r5 := HR0.out _ hb5; have cv5 := r5.cv; clear hb5) | (clear hb5))) | fail)
  all_goals (
    go_wp2
    go_ret
    exact ⟨rfl, by assumption⟩)
theorem met_conf {ua : Option Addr} {un uc : Nat} (w : World) : (method 277 153 (.agg #[.slice ua un uc]) "loop.example/g00103/impl.data").run Tryz.prog w = .ok (134, .agg #[.slice ua un uc]) w := by kernel_rfl
set_option maxHeartbeats 4000000 in
set_option maxRecDepth 100000 in
theorem contentText_conf {ua : Option Addr} {un uc : Nat} (k : Int) (b : UInt8) (hw : IntKind.u8.wrap k = (b.toNat : Int)) (d : ByteArray) (hd : d.size ≤ 120) (w : World)
    (hko : ∀ W : World, Below w.heap.size w W → Calls Tryz.prog 107 #[.iface 153 (.agg #[.slice ua un uc])] W fun en w' => en = .returned (.int .i64 k) ∧ w' = W)
    (hda : ∀ W : World, Below w.heap.size w W → Calls Tryz.prog 134 #[.agg #[.slice ua un uc]] W fun en w' => en = .returned (.string d) ∧ Below W.heap.size W w') :
    Calls Tryz.prog 87 #[.iface 153 (.agg #[.slice ua un uc])] w fun en w' => en = .returned (.string (⟨#[b]⟩ ++ d)) ∧ Below w.heap.size w w' := by
  have HKO : Hid (∀ W : World, Below w.heap.size w W → Calls Tryz.prog 107 #[.iface 153 (.agg #[.slice ua un uc])] W fun en w' => en = .returned (.int .i64 k) ∧ w' = W) := hko
  have HDA : Hid (∀ W : World, Below w.heap.size w W → Calls Tryz.prog 134 #[.agg #[.slice ua un uc]] W fun en w' => en = .returned (.string d) ∧ Below W.heap.size W w') := hda
  have z1 : ¬ 9223372036854775807 < 1 + d.size := by omega
  have HK : Hid (∀ W W' : World, Below w.heap.size w W → Below W.heap.size W W' → Below w.heap.size w W') := fun W W' a b => a.trans (b.mono a.size)
  have HR0 : Hid (∀ W' : World, Below (w.drew.alloc (Obj.cells #[.int .u8 (b.toNat : Int)] 5)).heap.size (w.drew.alloc (Obj.cells #[.int .u8 (b.toNat : Int)] 5)) W' → RowAt W' w.heap.size b) := fun W' a => (RowAt.new w.drew b).kept a
  have cv0 : ∀ X : World, (convert 22 9 (.slice (some ⟨X.heap.size, 0, none⟩) 1 1)).run Tryz.prog (X.alloc (Obj.cells #[.int .u8 (b.toNat : Int)] 5)) = .ok (.string ⟨#[b]⟩) (X.alloc (Obj.cells #[.int .u8 (b.toNat : Int)] 5)) := fun X => (RowAt.new X b).cv
  have cv00 : (convert 22 9 (.slice (some ⟨w.heap.size, 0, none⟩) 1 1)).run Tryz.prog (w.alloc (Obj.cells #[.int .u8 (b.toNat : Int)] 5)).drew = .ok (.string ⟨#[b]⟩) (w.alloc (Obj.cells #[.int .u8 (b.toNat : Int)] 5)).drew := (RowAt.new w.drew b).cv
  have BD : Below w.heap.size w w.drew := (Below.refl _ _).drew
  have mt : ∀ W : World, (method 277 153 (.agg #[.slice ua un uc]) "loop.example/g00103/impl.data").run Tryz.prog W = .ok (134, .agg #[.slice ua un uc]) W := fun W => met_conf W
  clear hko hda
  go_enter Tryz.func87, Tryz.ntmps87
  go_wp2_with fail
  go_region_held (fun w' => Below w.heap.size w w')
    (first | assumption | exact Below.alloc (by assumption) (Below.size (by assumption)) _ | fail)
    (first | (go_at_call 107; refine Calls.mono (HKO.out _ (by assumption)) ?_; rintro en w5 ⟨rfl, hw5⟩; have hw6 := hw5.symm; clear hw5; subst hw6) | (go_at_call 134; refine Calls.mono (HDA.out _ (by assumption)) ?_; rintro en w5 ⟨rfl, hb5⟩; have hq5 := HK.out _ _ (by assumption) hb5; (first | (have r5 := HR0.out _ hb5; have cv5 := r5.cv; clear hb5) | (clear hb5))) | fail)
  all_goals (
    go_wp2
    go_ret
    exact ⟨rfl, by assumption⟩)
theorem met_cmd {u : ByteArray} (w : World) : (method 277 155 (.agg #[.string u]) "loop.example/g00103/impl.data").run Tryz.prog w = .ok (136, .agg #[.string u]) w := by kernel_rfl
set_option maxHeartbeats 4000000 in
set_option maxRecDepth 100000 in
theorem contentText_cmd {u : ByteArray} (k : Int) (b : UInt8) (hw : IntKind.u8.wrap k = (b.toNat : Int)) (d : ByteArray) (hd : d.size ≤ 120) (w : World)
    (hko : ∀ W : World, Below w.heap.size w W → Calls Tryz.prog 107 #[.iface 155 (.agg #[.string u])] W fun en w' => en = .returned (.int .i64 k) ∧ w' = W)
    (hda : ∀ W : World, Below w.heap.size w W → Calls Tryz.prog 136 #[.agg #[.string u]] W fun en w' => en = .returned (.string d) ∧ Below W.heap.size W w') :
    Calls Tryz.prog 87 #[.iface 155 (.agg #[.string u])] w fun en w' => en = .returned (.string (⟨#[b]⟩ ++ d)) ∧ Below w.heap.size w w' := by
  have HKO : Hid (∀ W : World, Below w.heap.size w W → Calls Tryz.prog 107 #[.iface 155 (.agg #[.string u])] W fun en w' => en = .returned (.int .i64 k) ∧ w' = W) := hko
  have HDA : Hid (∀ W : World, Below w.heap.size w W → Calls Tryz.prog 136 #[.agg #[.string u]] W fun en w' => en = .returned (.string d) ∧ Below W.heap.size W w') := hda
  have z1 : ¬ 9223372036854775807 < 1 + d.size := by omega
  have HK : Hid (∀ W W' : World, Below w.heap.size w W → Below W.heap.size W W' → Below w.heap.size w W') := fun W W' a b => a.trans (b.mono a.size)
  have HR0 : Hid (∀ W' : World, Below (w.drew.alloc (Obj.cells #[.int .u8 (b.toNat : Int)] 5)).heap.size (w.drew.alloc (Obj.cells #[.int .u8 (b.toNat : Int)] 5)) W' → RowAt W' w.heap.size b) := fun W' a => (RowAt.new w.drew b).kept a
  have cv0 : ∀ X : World, (convert 22 9 (.slice (some ⟨X.heap.size, 0, none⟩) 1 1)).run Tryz.prog (X.alloc (Obj.cells #[.int .u8 (b.toNat : Int)] 5)) = .ok (.string ⟨#[b]⟩) (X.alloc (Obj.cells #[.int .u8 (b.toNat : Int)] 5)) := fun X => (RowAt.new X b).cv
  have cv00 : (convert 22 9 (.slice (some ⟨w.heap.size, 0, none⟩) 1 1)).run Tryz.prog (w.alloc (Obj.cells #[.int .u8 (b.toNat : Int)] 5)).drew = .ok (.string ⟨#[b]⟩) (w.alloc (Obj.cells #[.int .u8 (b.toNat : Int)] 5)).drew := (RowAt.new w.drew b).cv
  have BD : Below w.heap.size w w.drew := (Below.refl _ _).drew
  have mt : ∀ W : World, (method 277 155 (.agg #[.string u]) "loop.example/g00103/impl.data").run Tryz.prog W = .ok (136, .agg #[.string u]) W := fun W => met_cmd W
  clear hko hda
  go_enter Tryz.func87, Tryz.ntmps87
  go_wp2_with fail
  go_region_held (fun w' => Below w.heap.size w w')
    (first | assumption | exact Below.alloc (by assumption) (Below.size (by assumption)) _ | fail)
    (first | (go_at_call 107; refine Calls.mono (HKO.out _ (by assumption)) ?_; rintro en w5 ⟨rfl, hw5⟩; have hw6 := hw5.symm; clear hw5; subst hw6) | (go_at_call 136; refine Calls.mono (HDA.out _ (by assumption)) ?_; rintro en w5 ⟨rfl, hb5⟩; have hq5 := HK.out _ _ (by assumption) hb5; (first | (have r5 := HR0.out _ hb5; have cv5 := r5.cv; clear hb5) | (clear hb5))) | fail)
  all_goals (
    go_wp2
    go_ret
    exact ⟨rfl, by assumption⟩)
theorem contentText_is {B : Nat} {e : EntL} {v : Value} (hs : e.data.size ≤ 120) (w : World) (h : ContV w B e v) : Calls Tryz.prog 87 #[v] w fun en w' => en = .returned (.string (⟨#[UInt8.ofNat e.kind.toNat]⟩ ++ e.data)) ∧ Below w.heap.size w w' := by
  have hk : ∀ W : World, Below w.heap.size w W → Calls Tryz.prog 107 #[v] W fun en w' => en = .returned (.int .i64 e.kind) ∧ w' = W := fun W hb => kindOf_is (h.kept hb) W
  rcases h with ⟨k, hd, rfl⟩ | ⟨k, hc, u, rfl, ho⟩ | ⟨k, rfl⟩
  · refine contentText_none e.kind _ (wrap_kind _ (by omega) (by omega)) e.data hs w hk (fun W hb => ?_)
    rw [hd]
    exact data_none W
  · obtain ⟨va, vc, hv⟩ := own_slice ho
    subst hv
    exact contentText_conf e.kind _ (wrap_kind _ (by omega) (by omega)) e.data hs w hk (fun W hb => data_conf e.data (by omega) hc W (own_kept ho hb))
  · exact contentText_cmd e.kind _ (wrap_kind _ (by omega) (by omega)) e.data hs w hk (fun W hb => data_cmd e.data W)
theorem neq_nil (t : TypeId) (x : Value) (w : World) : (binOp .neq 124 (.iface t x) .nilIface).run Tryz.prog w = .ok (.bool true) w := by kernel_rfl
theorem neq_nilnil (w : World) : (binOp .neq 124 .nilIface .nilIface).run Tryz.prog w = .ok (.bool false) w := by kernel_rfl
theorem ContV.iface {W : World} {B : Nat} {e : EntL} {v : Value} (h : ContV W B e v) : ∃ t x, v = .iface t x := by
  rcases h with ⟨_, _, h⟩ | ⟨_, _, u, h, _⟩ | ⟨_, h⟩
  · exact ⟨_, _, h⟩
  · exact ⟨_, _, h⟩
  · exact ⟨_, _, h⟩
set_option maxHeartbeats 2000000 in
set_option maxRecDepth 100000 in
theorem implEntOk_is (e : EntL) (hs : e.data.size ≤ 1048576) (w : World) : Calls Tryz.prog 82 #[entV e] w fun en w' => en = .returned (.bool (okB e)) ∧ Below w.heap.size w w' := by
  obtain ⟨O, hO⟩ : ∃ O, O = okB e := ⟨_, rfl⟩
  rw [← hO]
  obtain ⟨W, hW⟩ : ∃ W, W = w.alloc (Obj.cells #[.int .i64 e.term, .int .i64 e.kind, .string e.data] 51) := ⟨_, rfl⟩
  have hE : EntAt W w.heap.size e := by rw [hW]; exact EntAt.new w e
  obtain ⟨c0, c1, c2⟩ := hE
  rw [hW] at c0 c1 c2
  have HB : Hid (Below w.heap.size w W) := by show Below _ _ _; rw [hW]; exact (Below.refl _ _).alloc (Nat.le_refl _) _
  have HCO : Hid (∀ W, Calls Tryz.prog 88 #[.int .i64 e.kind, .string e.data] W (ContPost W e)) := fun W => contentOf_is e hs W
  have q1 := neq_nil
  have q2 := neq_nilnil
  unfold entV
  by_cases ht : 0 ≤ e.term ∧ e.term ≤ 100000
  · have hk : O = kindB e := by rw [hO]; unfold okB; simp [ht]
    have HT : Hid (∀ W, Calls Tryz.prog 49 #[.int .i64 e.term] W fun en w' => en = .returned (.bool true) ∧ w' = W) := fun W => termOk_is _ true (by simp [ht]) W
    have HKK : Hid (O = kindB e) := hk
    clear hO hk ht
    go_enter Tryz.func82, Tryz.ntmps82
    go_wp2_with fail
    refine Calls.mono (HT.out _) ?_
    rintro en w1 ⟨rfl, hw1⟩
    subst hw1
    go_wp2_with fail
    rw [← hW]
    clear c0 c1 c2 hW
    refine Calls.mono (HCO.out _) ?_
    rintro en w2 ⟨v, rfl, hv, hb2⟩
    have HB2 : Hid (Below w.heap.size w w2) := HB.out.trans (hb2.mono HB.out.size)
    clear hb2
    rcases hv with ⟨hk, rfl⟩ | ⟨hk, hv⟩
    · have hOf : O = false := by rw [HKK.out, hk]
      subst hOf
      clear hk HKK
      go_wp2
      go_ret
      exact ⟨rfl, HB2.out⟩
    · have hOf : O = true := by rw [HKK.out, hk]
      subst hOf
      obtain ⟨t, x, hvx⟩ := hv.iface
      subst hvx
      clear hk HKK hv
      go_wp2
      go_ret
      exact ⟨rfl, HB2.out⟩
  · have hOf : O = false := by rw [hO]; unfold okB; simp [ht]
    have HT : Hid (∀ W, Calls Tryz.prog 49 #[.int .i64 e.term] W fun en w' => en = .returned (.bool false) ∧ w' = W) := fun W => termOk_is _ false (by simp [ht]) W
    clear hO ht
    subst hOf
    go_enter Tryz.func82, Tryz.ntmps82
    go_wp2_with fail
    refine Calls.mono (HT.out _) ?_
    rintro en w1 ⟨rfl, hw1⟩
    subst hw1
    rw [← hW]
    clear c0 c1 c2 hW
    go_wp2
    go_ret
    exact ⟨rfl, HB.out⟩
end
end Go.Proofs.YtahpoemmlpbgdaaGreat
