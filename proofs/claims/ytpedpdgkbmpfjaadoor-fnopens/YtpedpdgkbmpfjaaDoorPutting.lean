/- A session's change in the program, walked: putting. -/
import Derived.Test.YtpedpdgkbmpfjaaDoorImplOps
import Derived.Test.YtpedpdgkbmpfjaaDoorRegInv2
namespace Go.Proofs.YtpedpdgkbmpfjaaDoor
open Go.RowKit
open Acts (decS skey sval nkey kkey)
set_option linter.unusedVariables false
set_option linter.unusedSimpArgs false

def chV (c : ChangeL) : Value := .agg #[.string c.key, .string c.value, .bool c.gone]
theorem Tryd.isAgg100 (w : World) : (isAgg 100).run Tryd.prog w = .ok true w := by kernel_rfl
theorem Tryd.sizeOf100 (w : World) : (sizeOf 100).run Tryd.prog w = .ok 3 w := by kernel_rfl
theorem result63 {w : World} {g : Nat} {A C : Array Value} (hg : w.heap[g]? = some (.cells C 100 (0, 0))) (hs : A.size = 3) {tmps : Array Value} (ht : tmps.getD 2 undef = .pointer (some ⟨g, 0, none⟩)) : (results Tryd.f63 tmps).run Tryd.prog (w.setRow g A) = .ok (.agg A) (w.setRow g A) := by
  have h := run_loadVar_agg (P := Tryd.prog) Tryd.isAgg100 Tryd.sizeOf100 (row_size (A := A) hg) hs
  have ht' : tmps[2]?.getD undef = .pointer (some ⟨g, 0, none⟩) := by simpa using ht
  simp [results, Tryd.results63, ht', asAddr, h]
set_option maxHeartbeats 4000000 in
set_option maxRecDepth 100000 in
theorem putting_is (s : Ses) (h1 : s.id ≤ 99) (h2 : s.seq ≤ 99) (h3 : s.at_ ≤ 99) (h4 : s.rep.size ≤ 1000) (w : World) : Calls Tryd.prog 63 #[sesV s] w fun e w' => e = .returned (chV ⟨skey s.id, sval s, false⟩) ∧ Below w.heap.size w w' := by
  obtain ⟨KS, hKS⟩ : ∃ KS, KS = skey s.id := ⟨_, rfl⟩
  obtain ⟨D1, hD1⟩ : ∃ D1, D1 = decS s.seq := ⟨_, rfl⟩
  obtain ⟨D2, hD2⟩ : ∃ D2, D2 = decS s.at_ := ⟨_, rfl⟩
  have HK : Hid (∀ W, Calls Tryd.prog 61 #[.agg #[.int .i64 (s.id : Int), .int .i64 (s.seq : Int), .int .i64 (s.at_ : Int), .string s.rep]] W fun e w' => e = .returned (.string KS) ∧ Below W.heap.size W w') := fun W => by rw [hKS]; exact sesKey_is s h1 W
  have HD1 : Hid (∀ W, Calls Tryd.prog 62 #[.int .i64 (s.seq : Int)] W fun e w' => e = .returned (.string D1) ∧ Below W.heap.size W w') := fun W => (implDec_is s.seq h2 W).mono fun e w' ⟨x, y⟩ => ⟨by rw [x, hD1], by rw [y]; exact Below.refl _ _⟩
  have HD2 : Hid (∀ W, Calls Tryd.prog 62 #[.int .i64 (s.at_ : Int)] W fun e w' => e = .returned (.string D2) ∧ Below W.heap.size W w') := fun W => (implDec_is s.at_ h3 W).mono fun e w' ⟨x, y⟩ => ⟨by rw [x, hD2], by rw [y]; exact Below.refl _ _⟩
  obtain ⟨S1, hS1⟩ : ∃ S1, D1 ++ (⟨#[32]⟩ : ByteArray) = S1 := ⟨_, rfl⟩
  obtain ⟨S2, hS2⟩ : ∃ S2, S1 ++ D2 = S2 := ⟨_, rfl⟩
  obtain ⟨S3, hS3⟩ : ∃ S3, S2 ++ (⟨#[32]⟩ : ByteArray) = S3 := ⟨_, rfl⟩
  obtain ⟨S4, hS4⟩ : ∃ S4, S3 ++ s.rep = S4 := ⟨_, rfl⟩
  have HR : Hid (chV ⟨skey s.id, sval s, false⟩ = .agg #[.string KS, .string S4, .bool false]) := by show _ = _; rw [← hS4, ← hS3, ← hS2, ← hS1, hKS, hD1, hD2]; rfl
  have z1 : D1.size ≤ 2 := by rw [hD1]; exact Acts.decS_size h2
  have z2 : D2.size ≤ 2 := by rw [hD2]; exact Acts.decS_size h3
  have zb : (⟨#[32]⟩ : ByteArray).size = 1 := rfl
  have y1 : S1.size ≤ 3 := by rw [← hS1, ByteArray.size_append]; omega
  have y2 : S2.size ≤ 5 := by rw [← hS2, ByteArray.size_append]; omega
  have y3 : S3.size ≤ 6 := by rw [← hS3, ByteArray.size_append]; omega
  obtain ⟨W0, hW0⟩ : ∃ W0, W0 = (w.alloc (Obj.cells #[.int .i64 (s.id : Int), .int .i64 (s.seq : Int), .int .i64 (s.at_ : Int), .string s.rep] 92)).alloc (Obj.cells #[.string ⟨#[]⟩, .string ⟨#[]⟩, .bool false] 100) := ⟨_, rfl⟩
  have hb0 : Below w.heap.size w W0 := by rw [hW0]; exact two_bel _ _
  obtain ⟨g, hg⟩ : ∃ g, g = w.heap.size := ⟨_, rfl⟩
  have HG : Hid (∀ X, Below W0.heap.size W0 X → X.heap[g]? = some (.cells #[.int .i64 (s.id : Int), .int .i64 (s.seq : Int), .int .i64 (s.at_ : Int), .string s.rep] 92 (0, 0))) := fun X hb => by
    have e : W0.heap[g]? = some (.cells #[.int .i64 (s.id : Int), .int .i64 (s.seq : Int), .int .i64 (s.at_ : Int), .string s.rep] 92 (0, 0)) := by rw [hW0, hg, Below.heap_alloc _ _ _ (by simp)]; exact heap_alloc_new w _
    exact (hb.block _ (Array.getElem?_eq_some_iff.1 e).1).trans e
  have HZ : Hid (∀ X, Below W0.heap.size W0 X → X.heap[g + 1]? = some (.cells #[.string ⟨#[]⟩, .string ⟨#[]⟩, .bool false] 100 (0, 0))) := fun X hb => by
    have e : W0.heap[g + 1]? = some (.cells #[.string ⟨#[]⟩, .string ⟨#[]⟩, .bool false] 100 (0, 0)) := by
      have := heap_alloc_new (w.alloc (Obj.cells #[.int .i64 (s.id : Int), .int .i64 (s.seq : Int), .int .i64 (s.at_ : Int), .string s.rep] 92)) (Obj.cells #[.string ⟨#[]⟩, .string ⟨#[]⟩, .bool false] 100)
      have q : (w.alloc (Obj.cells #[.int .i64 (s.id : Int), .int .i64 (s.seq : Int), .int .i64 (s.at_ : Int), .string s.rep] 92)).heap.size = w.heap.size + 1 := by simp
      rw [q] at this
      rw [hW0, hg]
      exact this
    exact (hb.block _ (Array.getElem?_eq_some_iff.1 e).1).trans e
  have HB0 : Hid (Below w.heap.size w W0) := hb0
  have HGE : Hid (w.heap.size ≤ g + 1) := by show _ ≤ _; omega
  rw [HR.out]
  unfold sesV
  clear hb0 hKS hD1 hD2 h1 h2 h3
  go_enter Tryd.func63, Tryd.ntmps63
  go_wp2_with fail
  rw [← hW0, ← hg]
  clear hW0 hg
  rename_i K0 hK0
  refine Inv.region_walk_last 18 (fun i v _ => v = [.agg #[.int .i64 (s.id : Int), .int .i64 (s.seq : Int), .int .i64 (s.at_ : Int), .string s.rep], .string KS, .pointer (some ⟨g, 1, none⟩), .int .i64 (s.seq : Int), .string D1, .string S1, .pointer (some ⟨g, 2, none⟩), .int .i64 (s.at_ : Int), .string D2, .string S2, .string S3, .pointer (some ⟨g, 3, none⟩), .string s.rep, .string S4, .agg #[.string KS, .string S4, .bool false]].getD i undef) rfl (by kernel_rfl) (by kernel_rfl) (by kernel_rfl) (fun i v X X' h _ => h) ⟨?_, ?_, ?_, ?_, ?_, ?_, ?_, ?_, ?_, ?_, ?_, ?_, ?_, ?_, ?_, trivial⟩ ?_
  · intro f X K hb hf hd hk
    have e1 : f 1 = .pointer (some ⟨g, 0, none⟩) := hf 1 rfl
    have hl := run_load_agg (P := Tryd.prog) Tryd.isAgg92 Tryd.sizeOf92 (HG.out X hb) rfl
    refine Inv.pay_value (v := .agg #[.int .i64 (s.id : Int), .int .i64 (s.seq : Int), .int .i64 (s.at_ : Int), .string s.rep]) (w' := X) ?_ ?_
    · simp [execOp, Inv.act_eval, e1, hl, Result.andThen]
    · exact hk (.agg #[.int .i64 (s.id : Int), .int .i64 (s.seq : Int), .int .i64 (s.at_ : Int), .string s.rep]) X (Below.refl _ _) rfl
  · intro f X K hb hf hd hk
    have d0 : f 3 = .agg #[.int .i64 (s.id : Int), .int .i64 (s.seq : Int), .int .i64 (s.at_ : Int), .string s.rep] := hd 0 rfl
    refine Inv.pay_call (f := 61) (args := #[.agg #[.int .i64 (s.id : Int), .int .i64 (s.seq : Int), .int .i64 (s.at_ : Int), .string s.rep]]) (u := .string KS) (R := fun w' => Below X.heap.size X w') ?_ (HK.out X) (fun w5 hb5 => hk (.string KS) w5 hb5 rfl)
    simp [execOp, go_sem, Inv.act_get, d0]
  · intro f X K hb hf hd hk
    have e1 : f 1 = .pointer (some ⟨g, 0, none⟩) := hf 1 rfl
    refine Inv.pay_value (v := .pointer (some ⟨g, 1, none⟩)) (w' := X) ?_ ?_
    · simp [execOp, go_sem, Inv.act_get, e1]
    · exact hk (.pointer (some ⟨g, 1, none⟩)) X (Below.refl _ _) rfl
  · intro f X K hb hf hd hk
    have d2 : f 5 = .pointer (some ⟨g, 1, none⟩) := hd 2 rfl
    have q1 : X.cell? ⟨g, 1, none⟩ = some (.int .i64 (s.seq : Int)) := cell_of_row _ _ 1 _ _ _ (HG.out X hb)
    refine Inv.pay_value (v := .int .i64 (s.seq : Int)) (w' := X) ?_ ?_
    · simp [execOp, go_sem, Inv.act_get, d2, q1]
    · exact hk (.int .i64 (s.seq : Int)) X (Below.refl _ _) rfl
  · intro f X K hb hf hd hk
    have d3 : f 6 = .int .i64 (s.seq : Int) := hd 3 rfl
    refine Inv.pay_call (f := 62) (args := #[.int .i64 (s.seq : Int)]) (u := .string D1) (R := fun w' => Below X.heap.size X w') ?_ (HD1.out X) (fun w5 hb5 => hk (.string D1) w5 hb5 rfl)
    simp [execOp, go_sem, Inv.act_get, d3]
  · intro f X K hb hf hd hk
    have d4 : f 7 = .string D1 := hd 4 rfl
    have y : ¬ 9223372036854775807 < D1.size + 1 := by omega
    refine Inv.pay_value (v := .string S1) (w' := X) ?_ ?_
    · simp [execOp, go_sem, Inv.act_get, d4, y, hS1]
    · exact hk (.string S1) X (Below.refl _ _) rfl
  · intro f X K hb hf hd hk
    have e1 : f 1 = .pointer (some ⟨g, 0, none⟩) := hf 1 rfl
    refine Inv.pay_value (v := .pointer (some ⟨g, 2, none⟩)) (w' := X) ?_ ?_
    · simp [execOp, go_sem, Inv.act_get, e1]
    · exact hk (.pointer (some ⟨g, 2, none⟩)) X (Below.refl _ _) rfl
  · intro f X K hb hf hd hk
    have d6 : f 9 = .pointer (some ⟨g, 2, none⟩) := hd 6 rfl
    have q2 : X.cell? ⟨g, 2, none⟩ = some (.int .i64 (s.at_ : Int)) := cell_of_row _ _ 2 _ _ _ (HG.out X hb)
    refine Inv.pay_value (v := .int .i64 (s.at_ : Int)) (w' := X) ?_ ?_
    · simp [execOp, go_sem, Inv.act_get, d6, q2]
    · exact hk (.int .i64 (s.at_ : Int)) X (Below.refl _ _) rfl
  · intro f X K hb hf hd hk
    have d7 : f 10 = .int .i64 (s.at_ : Int) := hd 7 rfl
    refine Inv.pay_call (f := 62) (args := #[.int .i64 (s.at_ : Int)]) (u := .string D2) (R := fun w' => Below X.heap.size X w') ?_ (HD2.out X) (fun w5 hb5 => hk (.string D2) w5 hb5 rfl)
    simp [execOp, go_sem, Inv.act_get, d7]
  · intro f X K hb hf hd hk
    have d5 : f 8 = .string S1 := hd 5 rfl
    have d8 : f 11 = .string D2 := hd 8 rfl
    have y : ¬ 9223372036854775807 < S1.size + D2.size := by omega
    refine Inv.pay_value (v := .string S2) (w' := X) ?_ ?_
    · simp [execOp, go_sem, Inv.act_get, d5, d8, y, hS2]
    · exact hk (.string S2) X (Below.refl _ _) rfl
  · intro f X K hb hf hd hk
    have d9 : f 12 = .string S2 := hd 9 rfl
    have y : ¬ 9223372036854775807 < S2.size + 1 := by omega
    refine Inv.pay_value (v := .string S3) (w' := X) ?_ ?_
    · simp [execOp, go_sem, Inv.act_get, d9, y, hS3]
    · exact hk (.string S3) X (Below.refl _ _) rfl
  · intro f X K hb hf hd hk
    have e1 : f 1 = .pointer (some ⟨g, 0, none⟩) := hf 1 rfl
    refine Inv.pay_value (v := .pointer (some ⟨g, 3, none⟩)) (w' := X) ?_ ?_
    · simp [execOp, go_sem, Inv.act_get, e1]
    · exact hk (.pointer (some ⟨g, 3, none⟩)) X (Below.refl _ _) rfl
  · intro f X K hb hf hd hk
    have d11 : f 14 = .pointer (some ⟨g, 3, none⟩) := hd 11 rfl
    have q3 : X.cell? ⟨g, 3, none⟩ = some (.string s.rep) := cell_of_row _ _ 3 _ _ _ (HG.out X hb)
    refine Inv.pay_value (v := .string s.rep) (w' := X) ?_ ?_
    · simp [execOp, go_sem, Inv.act_get, d11, q3]
    · exact hk (.string s.rep) X (Below.refl _ _) rfl
  · intro f X K hb hf hd hk
    have d10 : f 13 = .string S3 := hd 10 rfl
    have d12 : f 15 = .string s.rep := hd 12 rfl
    have y : ¬ 9223372036854775807 < S3.size + s.rep.size := by omega
    refine Inv.pay_value (v := .string S4) (w' := X) ?_ ?_
    · simp [execOp, go_sem, Inv.act_get, d10, d12, y, hS4]
    · exact hk (.string S4) X (Below.refl _ _) rfl
  · intro f X K hb hf hd hk
    have d1 : f 4 = .string KS := hd 1 rfl
    have d13 : f 16 = .string S4 := hd 13 rfl
    refine Inv.pay_value (v := .agg #[.string KS, .string S4, .bool false]) (w' := X) ?_ ?_
    · simp [execOp, go_sem, Inv.act_get, d1, d13]
    · exact hk (.agg #[.string KS, .string S4, .bool false]) X (Below.refl _ _) rfl
  · intro f w2 hb2 hf hv
    have d14 : f 17 = .agg #[.string KS, .string S4, .bool false] := hv 14 (by decide)
    have e2 : f 2 = .pointer (some ⟨g + 1, 0, none⟩) := hf 2 rfl
    have hz2 := HZ.out w2 hb2
    have hone : ∀ v ∈ (#[.string KS, .string S4, .bool false] : Array Value).toList, v.oneCell' = true := by
      intro v hv
      simp at hv
      rcases hv with rfl | rfl | rfl <;> rfl
    have hrun := run_store_agg (P := Tryd.prog) Tryd.sizeOf100 hz2 (A := #[.string KS, .string S4, .bool false]) rfl rfl hone
    refine Inv.last_skip rfl rfl (w' := w2.setRow (g + 1) #[.string KS, .string S4, .bool false]) ?_ ?_
    · simp [execOp, Inv.act_eval, d14, e2, hrun, Result.andThen]
    · have b1 : Below w.heap.size w w2 := HB0.out.trans (hb2.mono HB0.out.size)
      have HF : Hid (Below w.heap.size w (w2.setRow (g + 1) #[.string KS, .string S4, .bool false])) := b1.grown (grown_setRow w2 (g + 1) _) b1.size (fun k e => by cases e; exact HGE.out)
      have HE2 : Hid ((Inv.act 18 [] f).tmps.getD 2 undef = .pointer (some ⟨g + 1, 0, none⟩)) := by show _ = _; have := Inv.act_get (n := 18) (ds := []) (f := f) (s := 2) (by decide); simpa [e2] using this
      have HZ2 : Hid (w2.heap[g + 1]? = some (.cells #[.string ⟨#[]⟩, .string ⟨#[]⟩, .bool false] 100 (0, 0))) := hz2
      clear hrun hone hz2
      show K0 (Inv.act 18 [] f) _
      refine hK0 _ _ ?_
      go_wp2
      exact bodyPost_ret (result63 (A := #[.string KS, .string S4, .bool false]) HZ2.out rfl HE2.out) rfl ⟨rfl, HF.out⟩
end Go.Proofs.YtpedpdgkbmpfjaaDoor
