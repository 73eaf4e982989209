/- Contracts of library functions at this program: laid by program from theorems of the given library, no walk of ours. The call of strings.Clone: the same text. The call of the program's ShortText, walked. Texts by their bytes; varOf, walked. The program's entries by their contents, walked: contentOf, kindOf, the three data, EntryOk. -/
import Derived.Shelf.LaysM
import Derived.Shelf.Strconv.Clone
import Derived.Test.YtimacmijinblmaaGreatProg
import Derived.Test.YtimacmijinblmaaGreatVar
import Derived.Test.YtimacmijinblmaaGreatSums
import Derived.Test.YtimacmijinblmaaGreatImplConf
import Derived.Deep.RegionHeld
namespace Go.Proofs
open Go.Shelf
def Tryz.laysM316_ren : Go.Shelf.Ren := ⟨fun | 316 => 128 | n => n, fun | 9 => 9 | 3 => 3 | 4 => 4 | 37 => 31 | 0 => 0 | 127 => 134 | 5 => 5 | n => n, fun | n => n⟩
theorem Tryz.laysM316 : Go.Proofs.LaysM.n316 Tryz.prog Tryz.laysM316_ren := {
  mixed := by kernel_rfl
  f316 := Tryz.func128.trans (congrArg some (by kernel_rfl))
  t0 := Tryz.underlying0
  a0 := Tryz.isAgg0
  z0 := Tryz.sizeOf0
  v0 := Tryz.zeroValue0
  t3 := Tryz.underlying3
  a3 := Tryz.isAgg3
  z3 := Tryz.sizeOf3
  v3 := Tryz.zeroValue3
  t4 := Tryz.underlying4
  a4 := Tryz.isAgg4
  z4 := Tryz.sizeOf4
  v4 := Tryz.zeroValue4
  t9 := Tryz.underlying9
  a9 := Tryz.isAgg9
  z9 := Tryz.sizeOf9
  v9 := Tryz.zeroValue9
  t37 := Tryz.underlying31
  a37 := Tryz.isAgg31
  z37 := Tryz.sizeOf31
  v37 := Tryz.zeroValue31
  t127 := Tryz.underlying134
  a127 := Tryz.isAgg134
  z127 := Tryz.sizeOf134
  v127 := Tryz.zeroValue134
  t5 := Tryz.underlying5
  a5 := Tryz.isAgg5
  z5 := Tryz.sizeOf5
  v5 := Tryz.zeroValue5
  i0 := by kernel_rfl
  i3 := by kernel_rfl
  i4 := by kernel_rfl
  i5 := by kernel_rfl
  i9 := by kernel_rfl
  i37 := by kernel_rfl
  i127 := by kernel_rfl }
open Go.RowKit in
theorem Tryz.stringslite_Clone (s : ByteArray) (w : World) (hlim : s.size ≤ 281474976710656) :
    Calls Tryz.prog 128 #[.string s] w fun e w' => e = .returned (.string s) ∧ Below w.heap.size w w' := Any.stringslite_Clone Tryz.laysM316 s w hlim
end Go.Proofs
namespace Go.Proofs.YtimacmijinblmaaGreat
open Go.RowKit

set_option maxHeartbeats 400000 in
theorem clone_any (s : ByteArray) (h : s.size ≤ 281474976710656) (w : World) :
    Calls Tryz.prog 122 #[.string s] w fun e w' => e = .returned (.string s) ∧ Below w.heap.size w w' := by
  go_enter Tryz.func122, Tryz.ntmps122
  go_wp2_with (go_at_call 128; refine (Tryz.stringslite_Clone s _ h).mono ?_; rintro e w1 ⟨rfl, hb1⟩)
  go_ret
  exact ⟨rfl, hb1⟩
end Go.Proofs.YtimacmijinblmaaGreat
namespace Go.Proofs.YtimacmijinblmaaGreat
open Go.RowKit

theorem var_size (n : Nat) : (⟨(Words.var n).toArray⟩ : ByteArray).size ≤ n + 1 := by
  have := Words.var_len n
  simpa [ByteArray.size] using this

end Go.Proofs.YtimacmijinblmaaGreat
namespace Go.Proofs.YtimacmijinblmaaGreat
open Go.RowKit

theorem app_list (a b : ByteArray) : (a ++ b).data.toList = a.data.toList ++ b.data.toList := by simp
/-- A text of these bytes. -/
def Is (S : ByteArray) (l : List UInt8) : Prop := S.data.toList = l
theorem Is.app {S T : ByteArray} {l m : List UInt8} (h1 : Is S l) (h2 : Is T m) : Is (S ++ T) (l ++ m) := by
  unfold Is at *; rw [app_list, h1, h2]
theorem Is.size {S : ByteArray} {l : List UInt8} (h : Is S l) : S.size = l.length := by unfold Is at h; rw [← h]; rfl
theorem Is.eq {S : ByteArray} {l : List UInt8} (h : Is S l) : S = ⟨l.toArray⟩ := by
  unfold Is at h
  cases S; simp at h; subst h; simp
theorem Is.mk (l : List UInt8) : Is ⟨l.toArray⟩ l := rfl

theorem Is.of {S : ByteArray} {l : List UInt8} (h : Is S l) : (⟨l.toArray⟩ : ByteArray) = S := h.eq.symm
set_option maxHeartbeats 400000 in
theorem varOf_is (x : Int) (h0 : 0 ≤ x) (h1 : x ≤ 1000000) (S : ByteArray) (hS : Is S (Words.var x.toNat)) (w : World) :
    Calls Tryz.prog 57 #[.int .i64 x] w fun e w' => e = .returned (.string S) ∧ Below w.heap.size w w' := by
  obtain ⟨n, rfl⟩ := Int.eq_ofNat_of_zero_le h0
  have HS : Hid (Value.string S = .string ⟨(Words.var n).toArray⟩) := by show _ = _; rw [hS.eq]; rfl
  clear hS
  go_enter Tryz.func57, Tryz.ntmps57
  go_wp2_with (go_at_call 98; refine (implVar_yes n (by omega) _).mono ?_; rintro e w1 ⟨rfl, hb1⟩)
  go_ret
  exact ⟨by rw [HS.out]; rfl, hb1⟩
def varS (x : Int) : ByteArray := ⟨(Words.var x.toNat).toArray⟩
def shortS (s : ByteArray) : ByteArray := ⟨(Batches.short s).toArray⟩
def flagS (g : Bool) : ByteArray := ⟨#[Batches.flag g]⟩
theorem varS_is (x : Int) : Is (varS x) (Words.var x.toNat) := rfl
theorem shortS_is (s : ByteArray) : Is (shortS s) (Batches.short s) := rfl
theorem flagS_is (g : Bool) : Is (flagS g) [Batches.flag g] := rfl
theorem varS_size (x : Int) (B : Nat) (h : x ≤ B) : (varS x).size ≤ B + 1 := by rw [(varS_is x).size]; have := Words.var_len x.toNat; omega
theorem shortS_size (s : ByteArray) (B : Nat) (h : s.size ≤ B) : (shortS s).size ≤ 2 * B + 1 := by rw [(shortS_is s).size]; have := Batches.short_len s; omega
theorem flagS_size (g : Bool) : (flagS g).size = 1 := rfl
theorem varOf_q (x : Int) (h0 : 0 ≤ x) (h1 : x ≤ 1000000) (w : World) : Calls Tryz.prog 57 #[.int .i64 x] w fun e w' => e = .returned (.string (varS x)) ∧ Below w.heap.size w w' := varOf_is x h0 h1 _ (varS_is x) w
end Go.Proofs.YtimacmijinblmaaGreat
namespace Go.Proofs.YtimacmijinblmaaGreat
open Go.RowKit
open Ents (okB kindB text textS right confOf confS)
set_option linter.unusedVariables false
set_option linter.unusedSimpArgs false

theorem termOk_is (x : Int) (R : Bool) (hR : R = decide (0 ≤ x ∧ x ≤ 100000)) (w : World) : Calls Tryz.prog 108 #[.int .i64 x] w fun en w' => en = .returned (.bool R) ∧ w' = w := by
  by_cases h0 : 0 ≤ x
  · by_cases h1 : x ≤ 100000
    · have HR : Hid (R = true) := by show _ = _; rw [hR]; simp [h0, h1]
      clear hR
      go_enter Tryz.func108, Tryz.ntmps108
      go_wp2
      go_ret
      exact ⟨by rw [HR.out]; simp [h1], rfl⟩
    · have HR : Hid (R = false) := by show _ = _; rw [hR]; simp [h1]
      clear hR
      go_enter Tryz.func108, Tryz.ntmps108
      go_wp2
      go_ret
      exact ⟨by rw [HR.out]; simp [h1], rfl⟩
  · have HR : Hid (R = false) := by show _ = _; rw [hR]; simp [h0]
    clear hR
    go_enter Tryz.func108, Tryz.ntmps108
    go_wp2
    go_ret
    exact ⟨by rw [HR.out]; rfl, rfl⟩
theorem placeOk_is (x : Int) (R : Bool) (hR : R = decide (1 ≤ x ∧ x ≤ 100000)) (w : World) : Calls Tryz.prog 117 #[.int .i64 x] w fun en w' => en = .returned (.bool R) ∧ w' = w := by
  by_cases h0 : 1 ≤ x
  · by_cases h1 : x ≤ 100000
    · have HR : Hid (R = true) := by show _ = _; rw [hR]; simp [h0, h1]
      clear hR
      go_enter Tryz.func117, Tryz.ntmps117
      go_wp2
      go_ret
      exact ⟨by rw [HR.out]; simp [h1], rfl⟩
    · have HR : Hid (R = false) := by show _ = _; rw [hR]; simp [h1]
      clear hR
      go_enter Tryz.func117, Tryz.ntmps117
      go_wp2
      go_ret
      exact ⟨by rw [HR.out]; simp [h1], rfl⟩
  · have HR : Hid (R = false) := by show _ = _; rw [hR]; simp [h0]
    clear hR
    go_enter Tryz.func117, Tryz.ntmps117
    go_wp2
    go_ret
    exact ⟨by rw [HR.out]; rfl, rfl⟩
/-- The content that is of this entry, where it is one. -/
def ContV (W : World) (B : Nat) (e : EntL) (v : Value) : Prop :=
  (e.kind = 1 ∧ e.data = ⟨#[]⟩ ∧ v = .iface 125 (.agg #[])) ∨
  (e.kind = 2 ∧ Mans.confOk (confOf e.data) = true ∧ ∃ u, v = .iface 127 (.agg #[u]) ∧ W.ownsRow B 3 1 u (confOf e.data).length (cellsI (confOf e.data))) ∨
  (e.kind = 3 ∧ v = .iface 129 (.agg #[.string e.data]))
def Cont (W : World) (B : Nat) (e : EntL) (v : Value) : Prop := (kindB e = false ∧ v = .nilIface) ∨ (kindB e = true ∧ ContV W B e v)
def ContPost (w : World) (e : EntL) (en : Ending) (w' : World) : Prop := ∃ v, en = .returned v ∧ Cont w' w.heap.size e v ∧ Below w.heap.size w w'
theorem ContV.kept {W W' : World} {B : Nat} {e : EntL} {v : Value} (h : ContV W B e v) (hb : Below W.heap.size W W') : ContV W' B e v := by
  rcases h with h | ⟨h1, h2, u, h3, h4⟩ | h
  · exact Or.inl h
  · exact Or.inr (Or.inl ⟨h1, h2, u, h3, own_kept h4 hb⟩)
  · exact Or.inr (Or.inr h)
theorem nil_data (d : ByteArray) (h : d.size = 0) : d = ⟨#[]⟩ := by
  cases d with
  | mk a =>
    have : a = #[] := Array.eq_empty_of_size_eq_zero h
    rw [this]
set_option maxHeartbeats 2000000 in
set_option maxRecDepth 100000 in
theorem contentOf_is (e : EntL) (hs : e.data.size ≤ 1048576) (w : World) : Calls Tryz.prog 119 #[.int .i64 e.kind, .string e.data] w (ContPost w e) := by
  by_cases k1 : e.kind = 1
  · have q1 : (e.kind == 1) = true := by simp [k1]
    by_cases hd : e.data.size = 0
    · have hn := nil_size e.data
      have hn' : e.data.toList.isEmpty = true := by rw [hn]; simp [hd]
      have HK : Hid (kindB e = true) := by show _ = _; unfold kindB; simp [k1, hd]
      have HD : Hid (e.data = ⟨#[]⟩) := nil_data _ hd
      have K1 : Hid (e.kind = 1) := k1
      clear k1 hd hn
      go_enter Tryz.func119, Tryz.ntmps119
      go_wp2
      go_ret
      exact ⟨_, rfl, Or.inr ⟨HK.out, Or.inl ⟨K1.out, HD.out, rfl⟩⟩, Below.refl _ _⟩
    · have hn := nil_size e.data
      have hn' : e.data.toList.isEmpty = false := by rw [hn]; simp [hd]
      have HK : Hid (kindB e = false) := by show _ = _; unfold kindB; simp [k1, hd]
      clear k1 hd hn
      go_enter Tryz.func119, Tryz.ntmps119
      go_wp2
      go_ret
      exact ⟨_, rfl, Or.inl ⟨HK.out, rfl⟩, Below.refl _ _⟩
  · have q1 : (e.kind == 1) = false := by simp [k1]
    by_cases k2 : e.kind = 2
    · have q2 : (e.kind == 2) = true := by simp [k2]
      obtain ⟨l, R, hRC⟩ := rc_ex e.data
      have HR : Hid (Calls Tryz.prog 105 #[.string e.data] w (RCPost w l R)) := implReadConf_is e.data hs l R hRC w
      have HOR : Hid ((R = true ∧ l = confOf e.data ∧ Mans.confOk (confOf e.data) = true ∧ kindB e = true) ∨ (R = false ∧ kindB e = false)) := by
        have hk : kindB e = Mans.confOk (confOf e.data) := by unfold kindB; simp [k2]
        rcases hRC with ⟨h1, h2⟩ | ⟨h1, _, h2⟩
        · unfold Ents.readC at h1
          split at h1
          · rename_i hc
            cases h1
            exact Or.inl ⟨h2, rfl, hc, by rw [hk]; exact hc⟩
          · cases h1
        · unfold Ents.readC at h1
          split at h1
          · cases h1
          · rename_i hc
            exact Or.inr ⟨h2, by rw [hk]; simpa using hc⟩
      have K2 : Hid (e.kind = 2) := k2
      clear k1 k2 hRC
      go_enter Tryz.func119, Tryz.ntmps119
      go_wp2_with fail
      refine Calls.mono HR.out ?_
      rintro en w2 ⟨v, rfl, ho2, hb2⟩
      obtain ⟨va, vc, hv⟩ := own_slice ho2
      subst hv
      have HO2 : Hid (w2.ownsRow w.heap.size 3 1 (.slice va l.length vc) l.length (cellsI l)) := ho2
      have HB2 : Hid (Below w.heap.size w w2) := hb2
      clear ho2 hb2 HR
      rcases HOR.out with ⟨rfl, hl, hc, hk⟩ | ⟨rfl, hk⟩
      · have HL : Hid (l = confOf e.data ∧ Mans.confOk (confOf e.data) = true ∧ kindB e = true) := ⟨hl, hc, hk⟩
        clear HOR hl hc hk
        go_wp2
        go_ret
        exact ⟨_, rfl, Or.inr ⟨HL.out.2.2, Or.inr (Or.inl ⟨K2.out, HL.out.2.1, _, rfl, by rw [← HL.out.1]; exact HO2.out⟩)⟩, HB2.out⟩
      · have HK : Hid (kindB e = false) := hk
        clear HOR hk
        go_wp2
        go_ret
        exact ⟨_, rfl, Or.inl ⟨HK.out, rfl⟩, HB2.out⟩
    · have q2 : (e.kind == 2) = false := by simp [k2]
      by_cases k3 : e.kind = 3
      · have q3 : (e.kind == 3) = true := by simp [k3]
        by_cases hd : e.data.size ≤ 120
        · have hd' : (e.data.size : Int) ≤ 120 := by omega
          have HK : Hid (kindB e = true) := by show _ = _; unfold kindB; simp [k3, hd]
          have K3 : Hid (e.kind = 3) := k3
          clear k1 k2 k3
          go_enter Tryz.func119, Tryz.ntmps119
          go_wp2_with (go_at_call 122; refine (clone_any e.data (by omega) _).mono ?_; rintro en w2 ⟨rfl, hb2⟩)
          go_ret
          exact ⟨_, rfl, Or.inr ⟨HK.out, Or.inr (Or.inr ⟨K3.out, rfl⟩)⟩, hb2⟩
        · have hd' : ¬ (e.data.size : Int) ≤ 120 := by omega
          have HK : Hid (kindB e = false) := by show _ = _; unfold kindB; simp [k3, hd]
          clear k1 k2 k3
          go_enter Tryz.func119, Tryz.ntmps119
          go_wp2
          go_ret
          exact ⟨_, rfl, Or.inl ⟨HK.out, rfl⟩, Below.refl _ _⟩
      · have q3 : (e.kind == 3) = false := by simp [k3]
        have HK : Hid (kindB e = false) := by show _ = _; unfold kindB; simp [k1, k2, k3]
        clear k1 k2 k3
        go_enter Tryz.func119, Tryz.ntmps119
        go_wp2
        go_ret
        exact ⟨_, rfl, Or.inl ⟨HK.out, rfl⟩, Below.refl _ _⟩
theorem ta_yes73 (v : Value) (w : World) : (Instr.typeAssert (.iface 125 v) 115 125 true).run Tryz.prog w = .ok (.tuple #[v, .bool true]) w := by kernel_rfl
theorem ta_yes75 (v : Value) (w : World) : (Instr.typeAssert (.iface 127 v) 115 127 true).run Tryz.prog w = .ok (.tuple #[v, .bool true]) w := by kernel_rfl
theorem ta_yes78 (v : Value) (w : World) : (Instr.typeAssert (.iface 129 v) 115 129 true).run Tryz.prog w = .ok (.tuple #[v, .bool true]) w := by kernel_rfl
theorem ta_75no73 (v : Value) (w : World) : (Instr.typeAssert (.iface 127 v) 115 125 true).run Tryz.prog w = .ok (.tuple #[.agg #[], .bool false]) w := by kernel_rfl
theorem ta_78no73 (v : Value) (w : World) : (Instr.typeAssert (.iface 129 v) 115 125 true).run Tryz.prog w = .ok (.tuple #[.agg #[], .bool false]) w := by kernel_rfl
theorem ta_78no75 (v : Value) (w : World) : (Instr.typeAssert (.iface 129 v) 115 127 true).run Tryz.prog w = .ok (.tuple #[.agg #[.slice none 0 0], .bool false]) w := by kernel_rfl
set_option maxHeartbeats 1000000 in
set_option maxRecDepth 100000 in
theorem kindOf_is {W : World} {B : Nat} {e : EntL} {v : Value} (h : ContV W B e v) (w : World) : Calls Tryz.prog 126 #[v] w fun en w' => en = .returned (.int .i64 e.kind) ∧ w' = w := by
  have t1 := ta_yes73
  have t2 := ta_yes75
  have t3 := ta_yes78
  have t4 := ta_75no73
  have t5 := ta_78no73
  have t6 := ta_78no75
  rcases h with ⟨k, _, rfl⟩ | ⟨k, _, u, rfl, ho⟩ | ⟨k, rfl⟩
  · rw [k]
    go_enter Tryz.func126, Tryz.ntmps126
    go_wp2
    go_ret
    exact ⟨rfl, rfl⟩
  · rw [k]
    obtain ⟨va, vc, hv⟩ := own_slice ho
    subst hv
    clear ho
    go_enter Tryz.func126, Tryz.ntmps126
    go_wp2
    go_ret
    exact ⟨rfl, rfl⟩
  · rw [k]
    go_enter Tryz.func126, Tryz.ntmps126
    go_wp2
    go_ret
    exact ⟨rfl, rfl⟩
theorem data_none (w : World) : Calls Tryz.prog 146 #[.agg #[]] w fun en w' => en = .returned (.string ⟨#[]⟩) ∧ Below w.heap.size w w' := by
  have HB : Hid (Below w.heap.size w (w.alloc (Obj.cells #[] 125))) := (Below.refl _ _).alloc (Nat.le_refl _) _
  go_enter Tryz.func146, Tryz.ntmps146
  go_wp2
  go_ret
  exact ⟨rfl, HB.out⟩
theorem data_cmd (d : ByteArray) (w : World) : Calls Tryz.prog 148 #[.agg #[.string d]] w fun en w' => en = .returned (.string d) ∧ Below w.heap.size w w' := by
  have HB : Hid (Below w.heap.size w (w.alloc (Obj.cells #[.string d] 129))) := (Below.refl _ _).alloc (Nat.le_refl _) _
  go_enter Tryz.func148, Tryz.ntmps148
  go_wp2
  go_ret
  exact ⟨rfl, HB.out⟩
set_option maxHeartbeats 1000000 in
theorem data_conf {B : Nat} {u : Value} (d : ByteArray) (hs : d.size ≤ 1048576) (hc : Mans.confOk (confOf d) = true) (w : World) (ho : w.ownsRow B 3 1 u (confOf d).length (cellsI (confOf d))) : Calls Tryz.prog 147 #[.agg #[u]] w fun en w' => en = .returned (.string d) ∧ Below w.heap.size w w' := by
  obtain ⟨a, g, cap, hv, hi⟩ := cellsI_slice ho
  subst hv
  obtain ⟨l, hl⟩ : ∃ l, l = confOf d := ⟨_, rfl⟩
  rw [← hl] at hi ⊢
  obtain ⟨W, hW⟩ : ∃ W, W = w.alloc (Obj.cells #[.slice a l.length cap] 127) := ⟨_, rfl⟩
  have hb : Below w.heap.size w W := by rw [hW]; exact (Below.refl _ _).alloc (Nat.le_refl _) _
  have ht : confTuple l = .tuple #[.string d, .bool true] := by unfold confTuple; rw [hl, if_pos hc, Ents.confS_confOf]
  have hq := implConfText_is (cap := cap) l (by rw [hl, Ents.confOf_len]; exact hs) W (hi.kept hb)
  rw [ht] at hq
  have HQ : Hid (Calls Tryz.prog 104 #[.slice a l.length cap] W fun en w' => en = .returned (.tuple #[.string d, .bool true]) ∧ Below W.heap.size W w') := hq
  have HB : Hid (Below w.heap.size w W) := hb
  clear hq hb hi ht ho hl
  go_enter Tryz.func147, Tryz.ntmps147
  go_wp2_with fail
  rw [← hW]
  clear hW
  refine Calls.mono HQ.out ?_
  rintro en w1 ⟨rfl, hb1⟩
  have HB1 : Hid (Below w.heap.size w w1) := HB.out.trans (hb1.mono HB.out.size)
  clear hb1 HQ
  go_wp2
  go_ret
  exact ⟨rfl, HB1.out⟩
end Go.Proofs.YtimacmijinblmaaGreat
