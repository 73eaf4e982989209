/- The program's ConfText and ReadConf, walked. The program's entries by their contents, walked: contentOf, kindOf, the three data, EntryOk. The program's contentText, EntryOk and EntryText, walked. -/
import Derived.Test.YtddmogggdckneaaConfA
import Derived.Test.YtddmogggdckneaaDrawA
import Derived.Test.YtddmogggdckneaaSealA
import Derived.Test.YtddmogggdckneaaTxtA
import Derived.Deep.RegionHeld
import Derived.Test.YtddmogggdckneaaSpecEntT
namespace Go.Proofs.Ytddmogggdckneaa
section
open Go.RowKit
open Ents (confB confS confOf readC)
set_option linter.unusedVariables false
set_option linter.unusedSimpArgs false

theorem confB_at {l : List Int} {k : Nat} (h : k < l.length) : (confB l)[k]'(by simpa [confB] using h) = UInt8.ofNat l[k].toNat := by simp [confB]
theorem confOf_at {t : ByteArray} {k : Nat} (h : k < t.size) : (confOf t)[k]'(by rw [Ents.confOf_len]; exact h) = (t[k].toNat : Int) := by simp [confOf, Batches.by_]; rfl
set_option maxHeartbeats 2000000 in
set_option maxRecDepth 100000 in
theorem implReadConf_is (t : ByteArray) (hs : t.size ≤ 1048576) (l : List Int) (R : Bool) (hRC : RCIs t l R) (w : World) :
    Calls Try.prog 87 #[.string t] w (RCPost w l R) := by
  obtain ⟨i0, hi, hz0, hz1, hz2⟩ := info_parts Try.info3
  by_cases hle : t.size ≤ 4
  · have h4 : (t.size : Int) ≤ 4 := by omega
    obtain ⟨C, hC⟩ : ∃ C, C = Mans.confOk (confOf t) := ⟨_, rfl⟩
    have HR : Hid ((C = true ∧ l = confOf t ∧ R = true) ∨ (C = false ∧ l = [] ∧ R = false)) := by
      rcases hRC with ⟨h1, h2⟩ | ⟨h1, h2, h3⟩
      · left
        unfold readC at h1
        split at h1
        · rename_i hc
          cases h1
          exact ⟨by rw [hC]; exact hc, rfl, h2⟩
        · cases h1
      · right
        unfold readC at h1
        split at h1
        · cases h1
        · rename_i hc
          refine ⟨?_, h2, h3⟩
          rw [hC]
          simpa using hc
    have HCC : Hid (∀ (W : World) (a : Option Addr) (g cap : Nat), IntAt W a g 0 (confOf t) → Calls Try.prog 88 #[.slice a t.size cap] W fun e w' => e = .returned (.bool C) ∧ W = w') := fun W a g cap h => by
      have := implConf_is (cap := cap) (confOf t) (by rw [Ents.confOf_len]; omega) C hC.symm W h
      rw [Ents.confOf_len] at this
      exact this
    clear hRC hC
    go_enter Try.func87, Try.ntmps87
    go_wp2_with (at_make; refine wpList_make_full _ rfl _ _ 139 rfl w.heap.size 3 i0 (.int .i64 0) 1 Try.underlying139 hi hz0 hz1 _ _ _ _ t.size rfl rfl (by omega) (by omega) ?b2 ?b3 (Nat.le_refl _) ?_)
    case b2 => rw [hz2]; omega
    case b3 => unfold maxLen; omega
    intro w0 hown0 hgrow0
    have hbel0 : Below w.heap.size w w0 := (Below.refl _ _).grown hgrow0 (Nat.le_refl _) (by simp)
    have hown0' : w0.ownsRow w.heap.size 3 1 (.slice (some ⟨w.heap.size, 0, none⟩) t.size t.size) t.size (cellsI (List.replicate t.size 0)) := by
      rw [← madeI]; simpa using hown0
    have HO0 : Hid (w0.ownsRow w.heap.size 3 1 (.slice (some ⟨w.heap.size, 0, none⟩) t.size t.size) t.size (cellsI (List.replicate t.size 0))) := hown0'
    have HB0 : Hid (Below w.heap.size w w0) := hbel0
    clear hgrow0 hown0 hbel0 hown0'
    go_wp2
    go_loopw [14] (fun i wr => ∃ (k : Nat) (pre : List Int), k ≤ t.size ∧ i = .int .i64 (k : Int) ∧ Hid (pre.length = t.size ∧ pre.take k = (confOf t).take k) ∧
        Hid (wr.ownsRow w.heap.size 3 1 (.slice (some ⟨w.heap.size, 0, none⟩) t.size t.size) t.size (cellsI pre)) ∧ Hid (Below w.heap.size w wr))
      (fun i _ => t.size - (intOf i).toNat)
    case atStart => exact ⟨0, _, Nat.zero_le _, rfl, ⟨by simp, by simp⟩, HO0, HB0⟩
    case round =>
      clear HO0 HB0
      obtain ⟨k, pre, hk, rfl, HP, HOW, HBW⟩ := hrel
      by_cases hlt : k < t.size
      · have HCE : Hid ((confOf t)[k]'(by rw [Ents.confOf_len]; exact hlt) = (t[k].toNat : Int)) := confOf_at hlt
        have hk0 : (0 : Int) ≤ (k : Int) := by omega
        have hk1 : (k : Int) < (t.size : Int) := by omega
        have hby : wrap64 ((t[k].toNat : Nat) : Int) = ((t[k].toNat : Nat) : Int) := wrap_byte _
        have HBY : Hid (wrap64 ((t[k].toNat : Nat) : Int) = ((t[k].toNat : Nat) : Int)) := hby
        clear hby
        have hown := HOW.out
        have hf0 := hown.frozenAt k
        obtain ⟨u0, hcl⟩ := own_cell_ex (q := k) hown (by omega) (by rw [cellsI_len, HP.out.1]; omega)
        have hst := hown.stored k (.int .i64 (wrap64 ((t[k].toNat : Nat) : Int)))
        rw [← cellsI_set pre k] at hst
        have HST : Hid (_ ∧ _) := hst
        clear hst hown
        go_wp2
        go_roundw
        case rel => exact ⟨k + 1, pre.set k (wrap64 ((t[k].toNat : Nat) : Int)), by omega, by go_num, ⟨by rw [List.length_set]; exact HP.out.1, take_set_step (by rw [Ents.confOf_len]; exact hlt) (by rw [HP.out.1, Ents.confOf_len]) HP.out.2 (HCE.out.trans HBY.out.symm)⟩, HST.out.1, HBW.out.setCell (Nat.le_refl _) _⟩
        case measure => simp [intOf]; omega
      · have hk1 : ¬ (k : Int) < (t.size : Int) := by omega
        have hE : pre = confOf t := by
          have h := HP.out.2
          rwa [List.take_of_length_le (by rw [HP.out.1]; omega), List.take_of_length_le (by rw [Ents.confOf_len]; omega)] at h
        subst hE
        have HCW : Hid (Calls Try.prog 88 #[.slice (some ⟨w.heap.size, 0, none⟩) t.size t.size] wr fun e w' => e = .returned (.bool C) ∧ wr = w') := HCC.out wr _ w.heap.size _ (cellsI_own HP.out.1 HOW.out)
        clear hlt HP HCC
        go_wp2_with fail
        refine Calls.mono HCW.out ?_
        rintro e w3 ⟨rfl, rfl⟩
        clear HCW
        rcases HR.out with ⟨rfl, rfl, rfl⟩ | ⟨rfl, rfl, rfl⟩
        · clear HR
          go_wp2
          go_ret2
          exact ⟨_, rfl, by rw [Ents.confOf_len]; exact HOW.out, HBW.out⟩
        · clear HR
          go_wp2
          go_ret2
          exact ⟨_, rfl, World.ownsRow_nil _ _ _ _, HBW.out⟩
  · have h4 : ¬ (t.size : Int) ≤ 4 := by omega
    obtain ⟨rfl, rfl⟩ : l = [] ∧ R = false := by
      rcases hRC with ⟨h1, h2⟩ | ⟨h1, h2, h3⟩
      · have := (Ents.conf_in (Ents.readC_iff.1 h1).1).1.2
        unfold readC at h1
        split at h1
        · cases h1
          rw [Ents.confOf_len] at this
          omega
        · cases h1
      · exact ⟨h2, h3⟩
    clear hRC
    go_enter Try.func87, Try.ntmps87
    go_wp2
    go_ret2
    exact ⟨_, rfl, World.ownsRow_nil _ _ _ _, Below.refl _ _⟩
end
section
open Go.RowKit
open Ents (okB kindB text textS right confOf confS)
set_option linter.unusedVariables false
set_option linter.unusedSimpArgs false

theorem termOk_is (x : Int) (R : Bool) (hR : R = decide (0 ≤ x ∧ x ≤ 100000)) (w : World) : Calls Try.prog 68 #[.int .i64 x] w fun en w' => en = .returned (.bool R) ∧ w' = w := by
  by_cases h0 : 0 ≤ x
  · by_cases h1 : x ≤ 100000
    · have HR : Hid (R = true) := by show _ = _; rw [hR]; simp [h0, h1]
      clear hR
      go_enter Try.func68, Try.ntmps68
      go_wp2
      go_ret
      exact ⟨by rw [HR.out]; simp [h1], rfl⟩
    · have HR : Hid (R = false) := by show _ = _; rw [hR]; simp [h1]
      clear hR
      go_enter Try.func68, Try.ntmps68
      go_wp2
      go_ret
      exact ⟨by rw [HR.out]; simp [h1], rfl⟩
  · have HR : Hid (R = false) := by show _ = _; rw [hR]; simp [h0]
    clear hR
    go_enter Try.func68, Try.ntmps68
    go_wp2
    go_ret
    exact ⟨by rw [HR.out]; rfl, rfl⟩
/-- The content that is of this entry, where it is one. -/
def ContV (W : World) (B : Nat) (e : EntL) (v : Value) : Prop :=
  (e.kind = 1 ∧ e.data = ⟨#[]⟩ ∧ v = .iface 152 (.agg #[])) ∨
  (e.kind = 2 ∧ Mans.confOk (confOf e.data) = true ∧ ∃ u, v = .iface 154 (.agg #[u]) ∧ W.ownsRow B 3 1 u (confOf e.data).length (cellsI (confOf e.data))) ∨
  (e.kind = 3 ∧ v = .iface 156 (.agg #[.string e.data]))
def Cont (W : World) (B : Nat) (e : EntL) (v : Value) : Prop := (kindB e = false ∧ v = .nilIface) ∨ (kindB e = true ∧ ContV W B e v)
def ContPost (w : World) (e : EntL) (en : Ending) (w' : World) : Prop := ∃ v, en = .returned v ∧ Cont w' w.heap.size e v ∧ Below w.heap.size w w'
theorem ContV.kept {W W' : World} {B : Nat} {e : EntL} {v : Value} (h : ContV W B e v) (hb : Below W.heap.size W W') : ContV W' B e v := by
  rcases h with h | ⟨h1, h2, u, h3, h4⟩ | h
  · exact Or.inl h
  · exact Or.inr (Or.inl ⟨h1, h2, u, h3, own_kept h4 hb⟩)
  · exact Or.inr (Or.inr h)
theorem nil_data (d : ByteArray) (h : d.size = 0) : d = ⟨#[]⟩ := by
  cases d with
  | mk a =>
    have : a = #[] := Array.eq_empty_of_size_eq_zero h
    rw [this]
set_option maxHeartbeats 2000000 in
set_option maxRecDepth 100000 in
theorem contentOf_is (e : EntL) (hs : e.data.size ≤ 1048576) (w : World) : Calls Try.prog 85 #[.int .i64 e.kind, .string e.data] w (ContPost w e) := by
  by_cases k1 : e.kind = 1
  · have q1 : (e.kind == 1) = true := by simp [k1]
    by_cases hd : e.data.size = 0
    · have hn := nil_size e.data
      have hn' : e.data.toList.isEmpty = true := by rw [hn]; simp [hd]
      have HK : Hid (kindB e = true) := by show _ = _; unfold kindB; simp [k1, hd]
      have HD : Hid (e.data = ⟨#[]⟩) := nil_data _ hd
      have K1 : Hid (e.kind = 1) := k1
      clear k1 hd hn
      go_enter Try.func85, Try.ntmps85
      go_wp2
      go_ret
      exact ⟨_, rfl, Or.inr ⟨HK.out, Or.inl ⟨K1.out, HD.out, rfl⟩⟩, Below.refl _ _⟩
    · have hn := nil_size e.data
      have hn' : e.data.toList.isEmpty = false := by rw [hn]; simp [hd]
      have HK : Hid (kindB e = false) := by show _ = _; unfold kindB; simp [k1, hd]
      clear k1 hd hn
      go_enter Try.func85, Try.ntmps85
      go_wp2
      go_ret
      exact ⟨_, rfl, Or.inl ⟨HK.out, rfl⟩, Below.refl _ _⟩
  · have q1 : (e.kind == 1) = false := by simp [k1]
    by_cases k2 : e.kind = 2
    · have q2 : (e.kind == 2) = true := by simp [k2]
      obtain ⟨l, R, hRC⟩ := rc_ex e.data
      have HR : Hid (Calls Try.prog 87 #[.string e.data] w (RCPost w l R)) := implReadConf_is e.data hs l R hRC w
      have HOR : Hid ((R = true ∧ l = confOf e.data ∧ Mans.confOk (confOf e.data) = true ∧ kindB e = true) ∨ (R = false ∧ kindB e = false)) := by
        have hk : kindB e = Mans.confOk (confOf e.data) := by unfold kindB; simp [k2]
        rcases hRC with ⟨h1, h2⟩ | ⟨h1, _, h2⟩
        · unfold Ents.readC at h1
          split at h1
          · rename_i hc
            cases h1
            exact Or.inl ⟨h2, rfl, hc, by rw [hk]; exact hc⟩
          · cases h1
        · unfold Ents.readC at h1
          split at h1
          · cases h1
          · rename_i hc
            exact Or.inr ⟨h2, by rw [hk]; simpa using hc⟩
      have K2 : Hid (e.kind = 2) := k2
      clear k1 k2 hRC
      go_enter Try.func85, Try.ntmps85
      go_wp2_with fail
      refine Calls.mono HR.out ?_
      rintro en w2 ⟨v, rfl, ho2, hb2⟩
      obtain ⟨va, vc, hv⟩ := own_slice ho2
      subst hv
      have HO2 : Hid (w2.ownsRow w.heap.size 3 1 (.slice va l.length vc) l.length (cellsI l)) := ho2
      have HB2 : Hid (Below w.heap.size w w2) := hb2
      clear ho2 hb2 HR
      rcases HOR.out with ⟨rfl, hl, hc, hk⟩ | ⟨rfl, hk⟩
      · have HL : Hid (l = confOf e.data ∧ Mans.confOk (confOf e.data) = true ∧ kindB e = true) := ⟨hl, hc, hk⟩
        clear HOR hl hc hk
        go_wp2
        go_ret
        exact ⟨_, rfl, Or.inr ⟨HL.out.2.2, Or.inr (Or.inl ⟨K2.out, HL.out.2.1, _, rfl, by rw [← HL.out.1]; exact HO2.out⟩)⟩, HB2.out⟩
      · have HK : Hid (kindB e = false) := hk
        clear HOR hk
        go_wp2
        go_ret
        exact ⟨_, rfl, Or.inl ⟨HK.out, rfl⟩, HB2.out⟩
    · have q2 : (e.kind == 2) = false := by simp [k2]
      by_cases k3 : e.kind = 3
      · have q3 : (e.kind == 3) = true := by simp [k3]
        by_cases hd : e.data.size ≤ 120
        · have hd' : (e.data.size : Int) ≤ 120 := by omega
          have HK : Hid (kindB e = true) := by show _ = _; unfold kindB; simp [k3, hd]
          have K3 : Hid (e.kind = 3) := k3
          clear k1 k2 k3
          go_enter Try.func85, Try.ntmps85
          go_wp2_with (go_at_call 70; refine (clone_any e.data (by omega) _).mono ?_; rintro en w2 ⟨rfl, hb2⟩)
          go_ret
          exact ⟨_, rfl, Or.inr ⟨HK.out, Or.inr (Or.inr ⟨K3.out, rfl⟩)⟩, hb2⟩
        · have hd' : ¬ (e.data.size : Int) ≤ 120 := by omega
          have HK : Hid (kindB e = false) := by show _ = _; unfold kindB; simp [k3, hd]
          clear k1 k2 k3
          go_enter Try.func85, Try.ntmps85
          go_wp2
          go_ret
          exact ⟨_, rfl, Or.inl ⟨HK.out, rfl⟩, Below.refl _ _⟩
      · have q3 : (e.kind == 3) = false := by simp [k3]
        have HK : Hid (kindB e = false) := by show _ = _; unfold kindB; simp [k1, k2, k3]
        clear k1 k2 k3
        go_enter Try.func85, Try.ntmps85
        go_wp2
        go_ret
        exact ⟨_, rfl, Or.inl ⟨HK.out, rfl⟩, Below.refl _ _⟩
theorem ta_yes73 (v : Value) (w : World) : (Instr.typeAssert (.iface 152 v) 146 152 true).run Try.prog w = .ok (.tuple #[v, .bool true]) w := by kernel_rfl
theorem ta_yes75 (v : Value) (w : World) : (Instr.typeAssert (.iface 154 v) 146 154 true).run Try.prog w = .ok (.tuple #[v, .bool true]) w := by kernel_rfl
theorem ta_yes78 (v : Value) (w : World) : (Instr.typeAssert (.iface 156 v) 146 156 true).run Try.prog w = .ok (.tuple #[v, .bool true]) w := by kernel_rfl
theorem ta_75no73 (v : Value) (w : World) : (Instr.typeAssert (.iface 154 v) 146 152 true).run Try.prog w = .ok (.tuple #[.agg #[], .bool false]) w := by kernel_rfl
theorem ta_78no73 (v : Value) (w : World) : (Instr.typeAssert (.iface 156 v) 146 152 true).run Try.prog w = .ok (.tuple #[.agg #[], .bool false]) w := by kernel_rfl
theorem ta_78no75 (v : Value) (w : World) : (Instr.typeAssert (.iface 156 v) 146 154 true).run Try.prog w = .ok (.tuple #[.agg #[.slice none 0 0], .bool false]) w := by kernel_rfl
end
section
open Go.RowKit
open Ents (okB kindB text textS right confOf confS)
set_option linter.unusedVariables false
set_option linter.unusedSimpArgs false

theorem neq_nil (t : TypeId) (x : Value) (w : World) : (binOp .neq 146 (.iface t x) .nilIface).run Try.prog w = .ok (.bool true) w := by kernel_rfl
theorem neq_nilnil (w : World) : (binOp .neq 146 .nilIface .nilIface).run Try.prog w = .ok (.bool false) w := by kernel_rfl
theorem ContV.iface {W : World} {B : Nat} {e : EntL} {v : Value} (h : ContV W B e v) : ∃ t x, v = .iface t x := by
  rcases h with ⟨_, _, h⟩ | ⟨_, _, u, h, _⟩ | ⟨_, h⟩
  · exact ⟨_, _, h⟩
  · exact ⟨_, _, h⟩
  · exact ⟨_, _, h⟩
set_option maxHeartbeats 2000000 in
set_option maxRecDepth 100000 in
theorem implEntOk_is (e : EntL) (hs : e.data.size ≤ 1048576) (w : World) : Calls Try.prog 82 #[entV e] w fun en w' => en = .returned (.bool (okB e)) ∧ Below w.heap.size w w' := by
  obtain ⟨O, hO⟩ : ∃ O, O = okB e := ⟨_, rfl⟩
  rw [← hO]
  obtain ⟨W, hW⟩ : ∃ W, W = w.alloc (Obj.cells #[.int .i64 e.term, .int .i64 e.kind, .string e.data] 27) := ⟨_, rfl⟩
  have hE : EntAt W w.heap.size e := by rw [hW]; exact EntAt.new w e
  obtain ⟨c0, c1, c2⟩ := hE
  rw [hW] at c0 c1 c2
  have HB : Hid (Below w.heap.size w W) := by show Below _ _ _; rw [hW]; exact (Below.refl _ _).alloc (Nat.le_refl _) _
  have HCO : Hid (∀ W, Calls Try.prog 85 #[.int .i64 e.kind, .string e.data] W (ContPost W e)) := fun W => contentOf_is e hs W
  have q1 := neq_nil
  have q2 := neq_nilnil
  unfold entV
  by_cases ht : 0 ≤ e.term ∧ e.term ≤ 100000
  · have hk : O = kindB e := by rw [hO]; unfold okB; simp [ht]
    have HT : Hid (∀ W, Calls Try.prog 68 #[.int .i64 e.term] W fun en w' => en = .returned (.bool true) ∧ w' = W) := fun W => termOk_is _ true (by simp [ht]) W
    have HKK : Hid (O = kindB e) := hk
    clear hO hk ht
    go_enter Try.func82, Try.ntmps82
    go_wp2_with fail
    refine Calls.mono (HT.out _) ?_
    rintro en w1 ⟨rfl, hw1⟩
    subst hw1
    go_wp2_with fail
    rw [← hW]
    clear c0 c1 c2 hW
    refine Calls.mono (HCO.out _) ?_
    rintro en w2 ⟨v, rfl, hv, hb2⟩
    have HB2 : Hid (Below w.heap.size w w2) := HB.out.trans (hb2.mono HB.out.size)
    clear hb2
    rcases hv with ⟨hk, rfl⟩ | ⟨hk, hv⟩
    · have hOf : O = false := by rw [HKK.out, hk]
      subst hOf
      clear hk HKK
      go_wp2
      go_ret
      exact ⟨rfl, HB2.out⟩
    · have hOf : O = true := by rw [HKK.out, hk]
      subst hOf
      obtain ⟨t, x, hvx⟩ := hv.iface
      subst hvx
      clear hk HKK hv
      go_wp2
      go_ret
      exact ⟨rfl, HB2.out⟩
  · have hOf : O = false := by rw [hO]; unfold okB; simp [ht]
    have HT : Hid (∀ W, Calls Try.prog 68 #[.int .i64 e.term] W fun en w' => en = .returned (.bool false) ∧ w' = W) := fun W => termOk_is _ false (by simp [ht]) W
    clear hO ht
    subst hOf
    go_enter Try.func82, Try.ntmps82
    go_wp2_with fail
    refine Calls.mono (HT.out _) ?_
    rintro en w1 ⟨rfl, hw1⟩
    subst hw1
    rw [← hW]
    clear c0 c1 c2 hW
    go_wp2
    go_ret
    exact ⟨rfl, HB.out⟩
end
end Go.Proofs.Ytddmogggdckneaa
