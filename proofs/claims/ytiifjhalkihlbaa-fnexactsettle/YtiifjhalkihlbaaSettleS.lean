/- Settle of the program and of the specification, walked at any node and index. Made by program. -/
import Derived.Test.YtiifjhalkihlbaaNodeCopS
import Derived.Test.YtiifjhalkihlbaaConfI
import Derived.Test.YtiifjhalkihlbaaImplBehind
import Derived.Test.YtiifjhalkihlbaaRegInv2
namespace Go.Proofs.Ytiifjhalkihlbaa
open Go.RowKit Go.Lib
open Ents (okB confOf)
open Logs (okL)
set_option linter.unusedVariables false
set_option linter.unusedSimpArgs false
def zeroNd : NodeL := ⟨0, 0, 0, 0, 0, [], ⟨0, 0, []⟩, 0, 0, 0, [], []⟩
def settleN (n : NodeL) (k : Nat) : NodeL := { n with conf := confL n.conf (n.log.ents.take k), log := ⟨n.log.start + (k : Int), termI n.log (n.log.start + (k : Int)), n.log.ents.drop k⟩ }
def SettlePost (w : World) (m : NodeL) (O : Bool) (e : Ending) (w' : World) : Prop := ∃ (a1 : Option Addr) (c1 : Nat) (a2 : Option Addr) (c2 : Nat) (a3 : Option Addr) (c3 : Nat) (a4 : Option Addr) (c4 : Nat), e = .returned (.tuple #[nodeV m a1 c1 a2 c2 a3 c3 a4 c4, .bool O]) ∧ NodeOwn4 w' w.heap.size m a1 c1 a2 c2 a3 c3 a4 c4 ∧ Below w.heap.size w w'
def part5 (n : NodeL) (v5 : Value) (s t : Int) (v8 v12 v13 : Value) : Array Value := #[.int .i64 n.id, .int .i64 n.term, .int .i64 n.vote, .int .i64 n.role, .int .i64 n.lead, v5, .int .i64 s, .int .i64 t, v8, .int .i64 n.commit, .int .i64 n.clock, .int .i64 n.limit, v12, v13]
theorem part5_one (n : NodeL) (s t : Int) (a1 a2 a3 a4 : Option Addr) (c1 c2 c3 c4 l1 l2 l3 l4 : Nat) : ∀ v ∈ (part5 n (.slice a1 l1 c1) s t (.slice a2 l2 c2) (.slice a3 l3 c3) (.slice a4 l4 c4)).toList, v.oneCell' = true := by
  intro v hv
  simp [part5] at hv
  rcases hv with rfl | rfl | rfl | rfl | rfl | rfl | rfl | rfl | rfl | rfl | rfl | rfl | rfl | rfl <;> rfl
theorem resultS {f : Func} {w : World} {g : Nat} {A C : Array Value} {b : Bool} (hr : f.results = #[.cell 4 36, .tmp 5]) (hg : w.heap[g]? = some (.cells C 36 (0, 0))) (hs : A.size = 14) {tmps : Array Value} (ht : tmps.getD 4 undef = .pointer (some ⟨g, 0, none⟩)) (hb : tmps.getD 5 undef = .bool b) : (results f tmps).run Try.prog (w.setRow g A) = .ok (.tuple #[.agg A, .bool b]) (w.setRow g A) := by
  have h := run_loadVar_agg (P := Try.prog) Try.isAgg36 Try.sizeOf36 (row_size (A := A) hg) hs
  have ht' : tmps[4]?.getD undef = .pointer (some ⟨g, 0, none⟩) := by simpa using ht
  have hb' : tmps[5]?.getD undef = .bool b := by simpa using hb
  simp [results, hr, ht', hb', asAddr, h]
theorem run_store_sub {P : Program} {T : TypeId} {n : Nat} (hz : ∀ w, (sizeOf T).run P w = .ok n w) {w : World} {g o : Nat} {A C : Array Value} {t : TypeId} (hg : w.heap[g]? = some (.cells C t (0, 0))) (hs : A.size = n) (hc : o + n ≤ C.size) (h1 : ∀ v ∈ A.toList, v.oneCell' = true) : (Instr.storeAt T (.pointer (some ⟨g, o, none⟩)) (.agg A)).run P w = .ok () (w.setRow g (C.toList.take o ++ A.toList ++ C.toList.drop (o + A.toList.length)).toArray) := by
  have h2 := run_storeCells_at (P := P) g o t A.toList 0 C w hg (by simp; omega) h1
  simp only [Nat.add_zero] at h2
  simp [Instr.storeAt, Instr.sureAddr, storeVar, Value.cells, hs, h2, hz]
theorem zero_own (w : World) (B : Nat) : NodeOwn4 w B zeroNd none 0 none 0 none 0 none 0 :=
  ⟨World.ownsRow_nil _ _ _ _, World.ownsRow_nil _ _ _ _, World.ownsRow_nil _ _ _ _, World.ownsRow_nil _ _ _ _, Or.inl rfl⟩
theorem settle_last {n : NodeL} (h : okL n.log = true) (k : Nat) (hk : k ≤ n.log.ents.length) : behindL n.log (n.log.start + (k : Int)) (termI n.log (n.log.start + (k : Int))) = n.log.ents.drop k := by
  have hn := okL_num h
  unfold behindL
  rw [if_pos]
  · congr 1; omega
  · refine ⟨h, ⟨by omega, ?_⟩, rfl⟩
    unfold lastI wrap64
    omega
def BehV (B : Nat) (i T : Int) (E : List EntL) (v : Value) (W : World) : Prop := ∃ (a : Option Addr) (c : Nat), v = .agg #[.int .i64 i, .int .i64 T, .slice a E.length c] ∧ W.ownsRow B 74 3 (.slice a E.length c) E.length (cellsEn E)
theorem BehV.kept {B : Nat} {i T : Int} {E : List EntL} {v : Value} {W W' : World} (h : BehV B i T E v W) (hb : Below W.heap.size W W') : BehV B i T E v W' := by
  obtain ⟨a, c, e, h1⟩ := h
  exact ⟨a, c, e, own_kept h1 hb⟩
set_option maxHeartbeats 16000000 in
set_option maxRecDepth 100000 in
theorem specSettle_is {g1 g2 g3 g4 : Nat} (n : NodeL) (hs : NodeS n) (hd : ∀ e ∈ n.log.ents, e.data.size ≤ 1048576) (i : Int) (hir : -9223372036854775808 ≤ i ∧ i ≤ 9223372036854775807) (O : Bool) (hO : O = true ↔ OkN n ∧ n.log.start ≤ i ∧ i ≤ n.commit) (m : NodeL) (hm : m = if O then settleN n (i - n.log.start).toNat else zeroNd) (w : World) (hR : NodeR w n (some ⟨g1, 0, none⟩) g1 0 (some ⟨g2, 0, none⟩) g2 0 (some ⟨g3, 0, none⟩) g3 0 (some ⟨g4, 0, none⟩) g4 0) :
    Calls Try.prog 18 #[.agg #[.int .i64 n.id, .int .i64 n.term, .int .i64 n.vote, .int .i64 n.role, .int .i64 n.lead, .slice (some ⟨g1, 0, none⟩) n.conf.length n.conf.length, .int .i64 n.log.start, .int .i64 n.log.sterm, .slice (some ⟨g2, 0, none⟩) n.log.ents.length n.log.ents.length, .int .i64 n.commit, .int .i64 n.clock, .int .i64 n.limit, .slice (some ⟨g3, 0, none⟩) n.votes.length n.votes.length, .slice (some ⟨g4, 0, none⟩) n.peers.length n.peers.length], .int .i64 i] w (SettlePost w m O) := by
  obtain ⟨W, hW⟩ : ∃ W, W = (w.alloc (.cells #[.int .i64 n.id, .int .i64 n.term, .int .i64 n.vote, .int .i64 n.role, .int .i64 n.lead, .slice (some ⟨g1, 0, none⟩) n.conf.length n.conf.length, .int .i64 n.log.start, .int .i64 n.log.sterm, .slice (some ⟨g2, 0, none⟩) n.log.ents.length n.log.ents.length, .int .i64 n.commit, .int .i64 n.clock, .int .i64 n.limit, .slice (some ⟨g3, 0, none⟩) n.votes.length n.votes.length, .slice (some ⟨g4, 0, none⟩) n.peers.length n.peers.length] 36)).alloc (.cells zeroN 36) := ⟨_, rfl⟩
  have hb : Below w.heap.size w W := by rw [hW]; exact ((Below.refl _ _).alloc (Nat.le_refl _) _).alloc (by simp) _
  have hn0 : NodeAt W w.heap.size n (some ⟨g1, 0, none⟩) n.conf.length (some ⟨g2, 0, none⟩) n.log.ents.length (some ⟨g3, 0, none⟩) n.votes.length (some ⟨g4, 0, none⟩) n.peers.length := by
    rw [hW]
    refine (NodeAt.new w n _ _ _ _ _ _ _ _ 36).kept ?_
    exact (Below.refl _ _).alloc (Nat.le_refl _) _
  have hz0 : W.heap[w.heap.size + 1]? = some (.cells zeroN 36 (0, 0)) := by
    rw [hW]
    have := heap_alloc_new (w.alloc (.cells #[.int .i64 n.id, .int .i64 n.term, .int .i64 n.vote, .int .i64 n.role, .int .i64 n.lead, .slice (some ⟨g1, 0, none⟩) n.conf.length n.conf.length, .int .i64 n.log.start, .int .i64 n.log.sterm, .slice (some ⟨g2, 0, none⟩) n.log.ents.length n.log.ents.length, .int .i64 n.commit, .int .i64 n.clock, .int .i64 n.limit, .slice (some ⟨g3, 0, none⟩) n.votes.length n.votes.length, .slice (some ⟨g4, 0, none⟩) n.peers.length n.peers.length] 36)) (.cells zeroN 36)
    simpa using this
  have hbk : W.heap[w.heap.size]? = some (.cells #[.int .i64 n.id, .int .i64 n.term, .int .i64 n.vote, .int .i64 n.role, .int .i64 n.lead, .slice (some ⟨g1, 0, none⟩) n.conf.length n.conf.length, .int .i64 n.log.start, .int .i64 n.log.sterm, .slice (some ⟨g2, 0, none⟩) n.log.ents.length n.log.ents.length, .int .i64 n.commit, .int .i64 n.clock, .int .i64 n.limit, .slice (some ⟨g3, 0, none⟩) n.votes.length n.votes.length, .slice (some ⟨g4, 0, none⟩) n.peers.length n.peers.length] 36 (0, 0)) := by
    rw [hW, Below.heap_alloc _ _ _ (by simp)]
    exact heap_alloc_new w _
  have HX : Hid (∀ w', Below W.heap.size W w' → (NodeAt w' w.heap.size n (some ⟨g1, 0, none⟩) n.conf.length (some ⟨g2, 0, none⟩) n.log.ents.length (some ⟨g3, 0, none⟩) n.votes.length (some ⟨g4, 0, none⟩) n.peers.length ∧ NodeR w' n (some ⟨g1, 0, none⟩) g1 0 (some ⟨g2, 0, none⟩) g2 0 (some ⟨g3, 0, none⟩) g3 0 (some ⟨g4, 0, none⟩) g4 0) ∧ w'.heap[w.heap.size]? = some (.cells #[.int .i64 n.id, .int .i64 n.term, .int .i64 n.vote, .int .i64 n.role, .int .i64 n.lead, .slice (some ⟨g1, 0, none⟩) n.conf.length n.conf.length, .int .i64 n.log.start, .int .i64 n.log.sterm, .slice (some ⟨g2, 0, none⟩) n.log.ents.length n.log.ents.length, .int .i64 n.commit, .int .i64 n.clock, .int .i64 n.limit, .slice (some ⟨g3, 0, none⟩) n.votes.length n.votes.length, .slice (some ⟨g4, 0, none⟩) n.peers.length n.peers.length] 36 (0, 0)) ∧ w'.heap[w.heap.size + 1]? = some (.cells zeroN 36 (0, 0)) ∧ Below w.heap.size w w') := fun w' h => ⟨⟨hn0.kept h, (hR.kept hb).kept h⟩, (h.block _ (Array.getElem?_eq_some_iff.1 hbk).1).trans hbk, (h.block _ (Array.getElem?_eq_some_iff.1 hz0).1).trans hz0, hb.trans (h.mono hb.size)⟩
  have HSZ : Hid (W.heap.size = w.heap.size + 2) := by show _ = _; rw [hW]; simp
  have HS : Hid (NodeS n) := hs
  have HD : Hid (∀ e ∈ n.log.ents, e.data.size ≤ 1048576) := hd
  have HIR : Hid (-9223372036854775808 ≤ i ∧ i ≤ 9223372036854775807) := hir
  have HWD : Hid ((w.alloc (Obj.cells #[.int .i64 n.id, .int .i64 n.term, .int .i64 n.vote, .int .i64 n.role, .int .i64 n.lead, .slice (some ⟨g1, 0, none⟩) n.conf.length n.conf.length, .int .i64 n.log.start, .int .i64 n.log.sterm, .slice (some ⟨g2, 0, none⟩) n.log.ents.length n.log.ents.length, .int .i64 n.commit, .int .i64 n.clock, .int .i64 n.limit, .slice (some ⟨g3, 0, none⟩) n.votes.length n.votes.length, .slice (some ⟨g4, 0, none⟩) n.peers.length n.peers.length] 36)).alloc (Obj.cells #[.int .i64 0, .int .i64 0, .int .i64 0, .int .i64 0, .int .i64 0, .slice none 0 0, .int .i64 0, .int .i64 0, .slice none 0 0, .int .i64 0, .int .i64 0, .int .i64 0, .slice none 0 0, .slice none 0 0] 36) = W) := hW.symm
  obtain ⟨O1, hO1⟩ : ∃ O1 : Bool, O1 = true ↔ OkN n := by
    by_cases h : OkN n
    · exact ⟨true, by simp [h]⟩
    · exact ⟨false, by simp [h]⟩
  have HOK : Hid (Calls Try.prog 7 #[.agg #[.int .i64 n.id, .int .i64 n.term, .int .i64 n.vote, .int .i64 n.role, .int .i64 n.lead, .slice (some ⟨g1, 0, none⟩) n.conf.length n.conf.length, .int .i64 n.log.start, .int .i64 n.log.sterm, .slice (some ⟨g2, 0, none⟩) n.log.ents.length n.log.ents.length, .int .i64 n.commit, .int .i64 n.clock, .int .i64 n.limit, .slice (some ⟨g3, 0, none⟩) n.votes.length n.votes.length, .slice (some ⟨g4, 0, none⟩) n.peers.length n.peers.length]] W fun e w' => e = .returned (.bool O1) ∧ Below W.heap.size W w') := specNodeOk_is n HS.out HD.out (fun h => by cases h) O1 hO1 W (HX.out W (Below.refl _ _)).1.2
  have HO1 : Hid (O1 = true ↔ OkN n) := hO1
  have HO : Hid (O = true ↔ OkN n ∧ n.log.start ≤ i ∧ i ≤ n.commit) := hO
  have HMM : Hid (m = if O then settleN n (i - n.log.start).toNat else zeroNd) := hm
  have HZONE : Hid (∀ v ∈ (zeroN).toList, v.oneCell' = true) := part5_one zeroNd 0 0 none none none none 0 0 0 0 0 0 0 0
  obtain ⟨p0, p1, p2, p3, p4, p5, p6, p7, p8, p9, p10, p11, p12, p13⟩ := hn0
  rw [hW] at p0 p1 p2 p3 p4 p5 p6 p7 p8 p9 p10 p11 p12 p13
  clear hR hb hs hd hir hO hO1 hW hz0 hbk hm
  go_enter Try.func18, Try.ntmps18
  go_wp2_with fail
  rw [HWD.out]
  clear HWD p0 p1 p2 p3 p4 p5 p6 p7 p8 p9 p10 p11 p12 p13
  refine Calls.mono HOK.out ?_
  rintro e w1 ⟨rfl, hb1⟩
  have H1 : Hid (Below W.heap.size W w1) := hb1
  clear hb1 HOK
  cases O1 with
  | false =>
    have HF : Hid (O = false) := by
      show O = false
      cases hq : O with
      | false => rfl
      | true => exact absurd (HO1.out.2 (HO.out.1 hq).1) (by simp)
    have HM0 : Hid (m = zeroNd) := by show _ = _; rw [HMM.out, HF.out]; rfl
    obtain ⟨_, _, hz, hB⟩ := HX.out w1 H1.out
    have HZ : Hid (w1.heap[w.heap.size + 1]? = some (.cells zeroN 36 (0, 0))) := hz
    have HBB : Hid (Below w.heap.size w w1) := hB
    clear hz hB HO HO1 HX HMM
    go_wp2_with (first | (refine wpList_storeA Try.sizeOf36 rfl _ _ rfl (w.heap.size + 1) zeroN zeroN 36 rfl rfl HZ.out rfl rfl HZONE.out ?_) | fail)
    exact bodyPost_ret (resultS rfl HZ.out rfl rfl rfl) rfl ⟨none, 0, none, 0, none, 0, none, 0, by rw [HM0.out, HF.out]; rfl, by rw [HM0.out]; exact zero_own _ _, below_rowN HBB.out (by omega) _⟩
  | true =>
  have HN : Hid (OkN n) := HO1.out.1 rfl
  clear HO1
  obtain ⟨p0, p1, p2, p3, p4, p5, p6, p7, p8, p9, p10, p11, p12, p13⟩ := (HX.out w1 H1.out).1.1
  go_wp2_with fail
  clear p0 p1 p2 p3 p4 p5 p6 p7 p8 p9 p10 p11 p12 p13
  obtain ⟨R2, hR2, hC2⟩ := in_b i n.log.start n.commit w1
  refine Calls.mono hC2 ?_
  clear hC2
  rintro e w' ⟨rfl, hw⟩
  rw [hw]
  clear hw w'
  cases R2 with
  | false =>
    have HF : Hid (O = false) := by
      show O = false
      cases hq : O with
      | false => rfl
      | true => exact absurd (hR2.2 (HO.out.1 hq).2) (by simp)
    clear hR2
    have HM0 : Hid (m = zeroNd) := by show _ = _; rw [HMM.out, HF.out]; rfl
    have HZ : Hid (w1.heap[w.heap.size + 1]? = some (.cells zeroN 36 (0, 0))) := (HX.out w1 H1.out).2.2.1
    have HBB : Hid (Below w.heap.size w w1) := (HX.out w1 H1.out).2.2.2
    clear HO HX HMM
    go_wp2_with (first | (refine wpList_storeA Try.sizeOf36 rfl _ _ rfl (w.heap.size + 1) zeroN zeroN 36 rfl rfl HZ.out rfl rfl HZONE.out ?_) | fail)
    exact bodyPost_ret (resultS rfl HZ.out rfl rfl rfl) rfl ⟨none, 0, none, 0, none, 0, none, 0, by rw [HM0.out, HF.out]; rfl, by rw [HM0.out]; exact zero_own _ _, below_rowN HBB.out (by omega) _⟩
  | true =>
  obtain ⟨hlo, hhi⟩ := hR2.1 rfl
  clear hR2
  -- in range
  obtain ⟨k, hk⟩ : ∃ k : Nat, i = n.log.start + (k : Int) := ⟨(i - n.log.start).toNat, by omega⟩
  have hkl : k ≤ n.log.ents.length := by have := HN.out.commit; unfold lastN at this; omega
  have HT : Hid (O = true) := HO.out.2 ⟨HN.out, hlo, hhi⟩
  have HK : Hid (i = n.log.start + (k : Int)) := hk
  have HKL : Hid (k ≤ n.log.ents.length) := hkl
  have HM : Hid ((i - n.log.start).toNat = k) := by show _ = _; omega
  have HMT : Hid (m = settleN n k) := by show _ = _; rw [HMM.out, HT.out, if_pos rfl, HM.out]
  clear hk hkl hlo hhi HO HM HMM
  have H2 : Hid (Below W.heap.size W w1) := H1.out
  obtain ⟨w2, hw2⟩ : ∃ w2, w2 = w1 := ⟨_, rfl⟩
  rw [← hw2] at H2 ⊢
  clear hw2
  have HBK1 : Hid (w2.heap[w.heap.size]? = some (.cells #[.int .i64 n.id, .int .i64 n.term, .int .i64 n.vote, .int .i64 n.role, .int .i64 n.lead, .slice (some ⟨g1, 0, none⟩) n.conf.length n.conf.length, .int .i64 n.log.start, .int .i64 n.log.sterm, .slice (some ⟨g2, 0, none⟩) n.log.ents.length n.log.ents.length, .int .i64 n.commit, .int .i64 n.clock, .int .i64 n.limit, .slice (some ⟨g3, 0, none⟩) n.votes.length n.votes.length, .slice (some ⟨g4, 0, none⟩) n.peers.length n.peers.length] 36 (0, 0))) := (HX.out w2 H2.out).2.1
  go_wp2_with (first | (refine wpList_loadA Try.isAgg36 Try.sizeOf36 rfl _ rfl w.heap.size #[.int .i64 n.id, .int .i64 n.term, .int .i64 n.vote, .int .i64 n.role, .int .i64 n.lead, .slice (some ⟨g1, 0, none⟩) n.conf.length n.conf.length, .int .i64 n.log.start, .int .i64 n.log.sterm, .slice (some ⟨g2, 0, none⟩) n.log.ents.length n.log.ents.length, .int .i64 n.commit, .int .i64 n.clock, .int .i64 n.limit, .slice (some ⟨g3, 0, none⟩) n.votes.length n.votes.length, .slice (some ⟨g4, 0, none⟩) n.peers.length n.peers.length] 36 rfl HBK1.out rfl ?_) | fail)
  refine Calls.mono (specCopy_is n HS.out (fun h => by cases h) (fun h => by cases h) (fun h => by cases h) (fun h => by cases h) w2 (HX.out w2 H2.out).1.2) ?_
  rintro e w3 ⟨b1, c1, b2, c2, b3, c3, b4, c4, rfl, ho3, hb3⟩
  unfold nodeV nodeC
  have H3 : Hid (Below W.heap.size W w3) := H2.out.trans (hb3.mono H2.out.size)
  have HO3 : Hid (NodeOwn4 w3 w.heap.size n b1 c1 b2 c2 b3 c3 b4 c4) := ho3.mono (HX.out w2 H2.out).2.2.2.size
  clear hb3 ho3 HBK1
  obtain ⟨q, hq⟩ : ∃ q, q = w3.heap.size := ⟨_, rfl⟩
  obtain ⟨X3, hX3⟩ : ∃ X3, X3 = w3.alloc (Obj.cells #[.int .i64 n.id, .int .i64 n.term, .int .i64 n.vote, .int .i64 n.role, .int .i64 n.lead, .slice b1 n.conf.length c1, .int .i64 n.log.start, .int .i64 n.log.sterm, .slice b2 n.log.ents.length c2, .int .i64 n.commit, .int .i64 n.clock, .int .i64 n.limit, .slice b3 n.votes.length c3, .slice b4 n.peers.length c4] 36) := ⟨_, rfl⟩
  have HWD3 : Hid (w3.alloc (Obj.cells #[.int .i64 n.id, .int .i64 n.term, .int .i64 n.vote, .int .i64 n.role, .int .i64 n.lead, .slice b1 n.conf.length c1, .int .i64 n.log.start, .int .i64 n.log.sterm, .slice b2 n.log.ents.length c2, .int .i64 n.commit, .int .i64 n.clock, .int .i64 n.limit, .slice b3 n.votes.length c3, .slice b4 n.peers.length c4] 36) = X3) := hX3.symm
  have hb3 : Below w3.heap.size w3 X3 := by rw [hX3]; exact (Below.refl _ _).alloc (Nat.le_refl _) _
  have HX3 : Hid (Below W.heap.size W X3) := H3.out.trans (hb3.mono H3.out.size)
  have HOX : Hid (NodeOwn4 X3 w.heap.size n b1 c1 b2 c2 b3 c3 b4 c4) := HO3.out.kept hb3
  have HOUT : Hid (X3.heap[q]? = some (.cells (part4 n (.slice b1 n.conf.length c1) (.slice b2 n.log.ents.length c2) (.slice b3 n.votes.length c3) (.slice b4 n.peers.length c4)) 36 (0, 0))) := by show _ = _; rw [hX3, hq]; exact heap_alloc_new w3 _
  have HQW : Hid (W.heap.size ≤ q) := by show _ ≤ _; rw [hq]; exact H3.out.size
  have HBK3 : Hid (X3.heap[w.heap.size]? = some (.cells #[.int .i64 n.id, .int .i64 n.term, .int .i64 n.vote, .int .i64 n.role, .int .i64 n.lead, .slice (some ⟨g1, 0, none⟩) n.conf.length n.conf.length, .int .i64 n.log.start, .int .i64 n.log.sterm, .slice (some ⟨g2, 0, none⟩) n.log.ents.length n.log.ents.length, .int .i64 n.commit, .int .i64 n.clock, .int .i64 n.limit, .slice (some ⟨g3, 0, none⟩) n.votes.length n.votes.length, .slice (some ⟨g4, 0, none⟩) n.peers.length n.peers.length] 36 (0, 0))) := (HX.out X3 HX3.out).2.1
  have HBK3a : Hid ((w3.alloc (Obj.cells #[.int .i64 n.id, .int .i64 n.term, .int .i64 n.vote, .int .i64 n.role, .int .i64 n.lead, .slice b1 n.conf.length c1, .int .i64 n.log.start, .int .i64 n.log.sterm, .slice b2 n.log.ents.length c2, .int .i64 n.commit, .int .i64 n.clock, .int .i64 n.limit, .slice b3 n.votes.length c3, .slice b4 n.peers.length c4] 36)).heap[w.heap.size]? = some (.cells #[.int .i64 n.id, .int .i64 n.term, .int .i64 n.vote, .int .i64 n.role, .int .i64 n.lead, .slice (some ⟨g1, 0, none⟩) n.conf.length n.conf.length, .int .i64 n.log.start, .int .i64 n.log.sterm, .slice (some ⟨g2, 0, none⟩) n.log.ents.length n.log.ents.length, .int .i64 n.commit, .int .i64 n.clock, .int .i64 n.limit, .slice (some ⟨g3, 0, none⟩) n.votes.length n.votes.length, .slice (some ⟨g4, 0, none⟩) n.peers.length n.peers.length] 36 (0, 0))) := by show _ = _; rw [HWD3.out]; exact HBK3.out
  clear hb3 hX3 HO3 H3
  go_wp2_with (first | (refine wpList_loadA Try.isAgg36 Try.sizeOf36 rfl _ rfl w.heap.size #[.int .i64 n.id, .int .i64 n.term, .int .i64 n.vote, .int .i64 n.role, .int .i64 n.lead, .slice (some ⟨g1, 0, none⟩) n.conf.length n.conf.length, .int .i64 n.log.start, .int .i64 n.log.sterm, .slice (some ⟨g2, 0, none⟩) n.log.ents.length n.log.ents.length, .int .i64 n.commit, .int .i64 n.clock, .int .i64 n.limit, .slice (some ⟨g3, 0, none⟩) n.votes.length n.votes.length, .slice (some ⟨g4, 0, none⟩) n.peers.length n.peers.length] 36 rfl HBK3a.out rfl ?_) | fail)
  rw [HWD3.out, ← hq]
  clear HWD3 hq HBK3a HBK3
  obtain ⟨L, hL⟩ : ∃ L, L = confL n.conf (n.log.ents.take k) := ⟨_, rfl⟩
  have HL : Hid (L = confL n.conf (n.log.ents.take k)) := hL
  have HCA : Hid (Calls Try.prog 46 #[.agg #[.int .i64 n.id, .int .i64 n.term, .int .i64 n.vote, .int .i64 n.role, .int .i64 n.lead, .slice (some ⟨g1, 0, none⟩) n.conf.length n.conf.length, .int .i64 n.log.start, .int .i64 n.log.sterm, .slice (some ⟨g2, 0, none⟩) n.log.ents.length n.log.ents.length, .int .i64 n.commit, .int .i64 n.clock, .int .i64 n.limit, .slice (some ⟨g3, 0, none⟩) n.votes.length n.votes.length, .slice (some ⟨g4, 0, none⟩) n.peers.length n.peers.length], .int .i64 i] X3 fun e w' => ∃ v, e = .returned v ∧ w'.ownsRow X3.heap.size 3 1 v L.length (cellsI L) ∧ Below X3.heap.size X3 w') := by
    show Calls _ _ _ _ _
    rw [hL]
    exact (by have hu : upTo n.log i = k := (by have h1 := HK.out; have h2 := HKL.out; unfold upTo; split <;> omega); have hc := specConfAt_is n HN.out.log HS.out.conf (fun h => by cases h) i X3 (HX.out X3 HX3.out).1.2.conf (HX.out X3 HX3.out).1.2.ents (cc := n.conf.length) (ec := n.log.ents.length) (vc := n.votes.length) (pc := n.peers.length) (va := some ⟨g3, 0, none⟩) (pa := some ⟨g4, 0, none⟩); rw [hu] at hc; exact hc)
  clear hL
  refine Calls.mono HCA.out ?_
  rintro e w4 ⟨v, rfl, ho4, hb4⟩
  obtain ⟨d1, e1, rfl⟩ := own_slice ho4
  have H4 : Hid (Below W.heap.size W w4) := HX3.out.trans (hb4.mono HX3.out.size)
  have HO4 : Hid (NodeOwn4 w4 w.heap.size n b1 c1 b2 c2 b3 c3 b4 c4) := HOX.out.kept hb4
  have HC4 : Hid (w4.ownsRow w.heap.size 3 1 (.slice d1 L.length e1) L.length (cellsI L)) := own_mono ho4 (HX.out X3 HX3.out).2.2.2.size
  have HAP : Hid ((Value.slice d1 L.length e1).ownBlock = none ∨ (Value.slice d1 L.length e1).ownBlock ≠ (Value.slice b3 n.votes.length c3).ownBlock) := by
    show _ ∨ _
    cases hk2 : (Value.slice d1 L.length e1).ownBlock with
    | none => exact Or.inl rfl
    | some j =>
      refine Or.inr (fun e => ?_)
      have h1 := (ho4.lt j hk2).1
      have h2 := (HOX.out.votes.lt j e.symm).2
      omega
  have HOUT4 : Hid (w4.heap[q]? = some (.cells (part4 n (.slice b1 n.conf.length c1) (.slice b2 n.log.ents.length c2) (.slice b3 n.votes.length c3) (.slice b4 n.peers.length c4)) 36 (0, 0))) := (hb4.block _ (Array.getElem?_eq_some_iff.1 HOUT.out).1).trans HOUT.out
  have o5 : w4.cell? ⟨q, 5, none⟩ = some (.slice b1 n.conf.length c1) := cell_of_row _ _ 5 _ _ _ HOUT4.out
  have of5 := frozen_of_row _ _ 5 _ _ HOUT4.out
  obtain ⟨X4, hX4⟩ : ∃ X4, X4 = w4.setCell ⟨q, 5, none⟩ (.slice d1 L.length e1) := ⟨_, rfl⟩
  have HX4 : Hid (∀ w', Below X4.heap.size X4 w' → NodeR w' n (some ⟨g1, 0, none⟩) g1 0 (some ⟨g2, 0, none⟩) g2 0 (some ⟨g3, 0, none⟩) g3 0 (some ⟨g4, 0, none⟩) g4 0 ∧ w'.heap[w.heap.size]? = some (.cells #[.int .i64 n.id, .int .i64 n.term, .int .i64 n.vote, .int .i64 n.role, .int .i64 n.lead, .slice (some ⟨g1, 0, none⟩) n.conf.length n.conf.length, .int .i64 n.log.start, .int .i64 n.log.sterm, .slice (some ⟨g2, 0, none⟩) n.log.ents.length n.log.ents.length, .int .i64 n.commit, .int .i64 n.clock, .int .i64 n.limit, .slice (some ⟨g3, 0, none⟩) n.votes.length n.votes.length, .slice (some ⟨g4, 0, none⟩) n.peers.length n.peers.length] 36 (0, 0)) ∧ w'.heap[w.heap.size + 1]? = some (.cells zeroN 36 (0, 0)) ∧ Below w.heap.size w w' ∧ w'.heap[q]? = some (.cells (part4 n (.slice d1 L.length e1) (.slice b2 n.log.ents.length c2) (.slice b3 n.votes.length c3) (.slice b4 n.peers.length c4)) 36 (0, 0)) ∧ w'.ownsRow w.heap.size 3 1 (.slice d1 L.length e1) L.length (cellsI L) ∧ w'.ownsRow w.heap.size 3 1 (.slice b3 n.votes.length c3) n.votes.length (cellsI n.votes) ∧ w'.ownsRow w.heap.size 60 4 (.slice b4 n.peers.length c4) n.peers.length (cellsPe n.peers)) := by
    have hqw := HQW.out
    have hsz := HSZ.out
    have hbX : Below W.heap.size W X4 := by rw [hX4]; exact H4.out.setCell hqw _
    have hou : X4.heap[q]? = some (.cells (part4 n (.slice d1 L.length e1) (.slice b2 n.log.ents.length c2) (.slice b3 n.votes.length c3) (.slice b4 n.peers.length c4)) 36 (0, 0)) := by
      rw [hX4]
      have := heap_setCell_same _ q 5 _ 36 (.slice d1 L.length e1) HOUT4.out
      simpa [part4] using this
    have y1 : X4.ownsRow w.heap.size 3 1 (.slice d1 L.length e1) L.length (cellsI L) := by rw [hX4]; exact own_set HC4.out _ _ _ (own_not HC4.out HOUT4.out (by decide))
    have y2 : X4.ownsRow w.heap.size 3 1 (.slice b3 n.votes.length c3) n.votes.length (cellsI n.votes) := by rw [hX4]; exact own_set HO4.out.votes _ _ _ (own_not HO4.out.votes HOUT4.out (by decide))
    have y3 : X4.ownsRow w.heap.size 60 4 (.slice b4 n.peers.length c4) n.peers.length (cellsPe n.peers) := by rw [hX4]; exact own_set HO4.out.peers _ _ _ (own_not HO4.out.peers HOUT4.out (by decide))
    intro w' h
    obtain ⟨z1, z2, z3, z4⟩ := HX.out w' (hbX.trans (h.mono hbX.size))
    exact ⟨z1.2, z2, z3, z4, (h.block _ (Array.getElem?_eq_some_iff.1 hou).1).trans hou, own_kept y1 h, own_kept y2 h, own_kept y3 h⟩
  clear ho4 hb4 HX3 HOX HOUT HOUT4 HC4 HO4 H4 HCA HX
  go_wp2_with fail
  rw [← hX4]
  clear hX4 o5 of5
  obtain ⟨T, hT⟩ : ∃ T, T = termI n.log i := ⟨_, rfl⟩
  obtain ⟨E, hE⟩ : ∃ E, E = n.log.ents.drop k := ⟨_, rfl⟩
  have HTM : Hid (∀ X, Below X4.heap.size X4 X → Calls Try.prog 48 #[.agg #[.int .i64 n.log.start, .int .i64 n.log.sterm, .slice (some ⟨g2, 0, none⟩) n.log.ents.length n.log.ents.length], .int .i64 i] X fun en w' => en = .returned (.int .i64 T) ∧ Below X.heap.size X w') := fun X h => by rw [hT]; exact specTerm_is (cap := n.log.ents.length) n.log HS.out.ents (by have := okL_num HN.out.log; omega) i HIR.out X (HX4.out X h).1.ents
  have HBH : Hid (∀ X, Below X4.heap.size X4 X → Calls Try.prog 47 #[.agg #[.int .i64 n.log.start, .int .i64 n.log.sterm, .slice (some ⟨g2, 0, none⟩) n.log.ents.length n.log.ents.length], .int .i64 i, .int .i64 T] X fun en w' => ∃ u, en = .returned u ∧ BehV w.heap.size i T E u w' ∧ Below X.heap.size X w') := fun X h => by
    have hb := specBehind_is (cap := n.log.ents.length) n.log HS.out.ents (Nat.le_refl _) HD.out i T HIR.out X (HX4.out X h).1.ents
    refine hb.mono ?_
    rintro e w' ⟨v, rfl, ho, hbb⟩
    have hE2 : behindL n.log i T = E := by rw [hT, hE, HK.out]; exact settle_last HN.out.log k HKL.out
    rw [hE2] at ho
    obtain ⟨a, c, rfl⟩ := own_slice ho
    exact ⟨_, rfl, ⟨a, c, rfl, own_mono ho (HX4.out X h).2.2.2.1.size⟩, hbb⟩
  have HTT : Hid (T = termI n.log i) := hT
  have HEE : Hid (E = n.log.ents.drop k) := hE
  clear hT hE HN HS HD HIR HKL
  rename_i K0 hK0
  refine Inv.region_walk_last 37 (fun j v X => if j = 7 then BehV w.heap.size i T E v X else v = [.pointer (some ⟨w.heap.size, 6, none⟩), .agg #[.int .i64 n.log.start, .int .i64 n.log.sterm, .slice (some ⟨g2, 0, none⟩) n.log.ents.length n.log.ents.length], .int .i64 i, .pointer (some ⟨w.heap.size, 6, none⟩), .agg #[.int .i64 n.log.start, .int .i64 n.log.sterm, .slice (some ⟨g2, 0, none⟩) n.log.ents.length n.log.ents.length], .int .i64 i, .int .i64 T, undef, .pointer (some ⟨q, 6, none⟩)].getD j undef) rfl (by kernel_rfl) (by kernel_rfl) (by kernel_rfl) ?_ ⟨?_, ?_, ?_, ?_, ?_, ?_, ?_, ?_, ?_, trivial⟩ ?_
  · intro j v X X' h hb
    by_cases h2 : j = 7
    · simp only [h2, if_true] at h ⊢
      exact h.kept hb
    · simp only [h2, if_false] at h ⊢
      exact h
  · intro f X K hb hf hd hk
    have e1 : f 2 = .pointer (some ⟨w.heap.size, 0, none⟩) := hf 2 rfl
    refine Inv.pay_value (v := .pointer (some ⟨w.heap.size, 6, none⟩)) (w' := X) ?_ ?_
    · simp [execOp, go_sem, Inv.act_get, e1]
    · exact hk (.pointer (some ⟨w.heap.size, 6, none⟩)) X (Below.refl _ _) rfl
  · intro f X K hb hf hd hk
    have d0 : f 27 = .pointer (some ⟨w.heap.size, 6, none⟩) := hd 0 rfl
    have hbx := (HX4.out X hb).2.1
    have q6 : X.cell? ⟨w.heap.size, 6, none⟩ = some (.int .i64 n.log.start) := cell_of_row _ _ 6 _ _ _ hbx
    have q7 : X.cell? ⟨w.heap.size, 7, none⟩ = some (.int .i64 n.log.sterm) := cell_of_row _ _ 7 _ _ _ hbx
    have q8 : X.cell? ⟨w.heap.size, 8, none⟩ = some (.slice (some ⟨g2, 0, none⟩) n.log.ents.length n.log.ents.length) := cell_of_row _ _ 8 _ _ _ hbx
    refine Inv.pay_value (v := .agg #[.int .i64 n.log.start, .int .i64 n.log.sterm, .slice (some ⟨g2, 0, none⟩) n.log.ents.length n.log.ents.length]) (w' := X) ?_ ?_
    · simp [execOp, go_sem, Inv.act_get, d0, q6, q7, q8]
    · exact hk (.agg #[.int .i64 n.log.start, .int .i64 n.log.sterm, .slice (some ⟨g2, 0, none⟩) n.log.ents.length n.log.ents.length]) X (Below.refl _ _) rfl
  · intro f X K hb hf hd hk
    have e1 : f 1 = .int .i64 i := hf 1 rfl
    refine Inv.pay_value (v := .int .i64 i) (w' := X) ?_ ?_
    · simp [execOp, go_sem, Inv.act_get, e1]
    · exact hk (.int .i64 i) X (Below.refl _ _) rfl
  · intro f X K hb hf hd hk
    have e1 : f 2 = .pointer (some ⟨w.heap.size, 0, none⟩) := hf 2 rfl
    refine Inv.pay_value (v := .pointer (some ⟨w.heap.size, 6, none⟩)) (w' := X) ?_ ?_
    · simp [execOp, go_sem, Inv.act_get, e1]
    · exact hk (.pointer (some ⟨w.heap.size, 6, none⟩)) X (Below.refl _ _) rfl
  · intro f X K hb hf hd hk
    have d0 : f 30 = .pointer (some ⟨w.heap.size, 6, none⟩) := hd 3 rfl
    have hbx := (HX4.out X hb).2.1
    have q6 : X.cell? ⟨w.heap.size, 6, none⟩ = some (.int .i64 n.log.start) := cell_of_row _ _ 6 _ _ _ hbx
    have q7 : X.cell? ⟨w.heap.size, 7, none⟩ = some (.int .i64 n.log.sterm) := cell_of_row _ _ 7 _ _ _ hbx
    have q8 : X.cell? ⟨w.heap.size, 8, none⟩ = some (.slice (some ⟨g2, 0, none⟩) n.log.ents.length n.log.ents.length) := cell_of_row _ _ 8 _ _ _ hbx
    refine Inv.pay_value (v := .agg #[.int .i64 n.log.start, .int .i64 n.log.sterm, .slice (some ⟨g2, 0, none⟩) n.log.ents.length n.log.ents.length]) (w' := X) ?_ ?_
    · simp [execOp, go_sem, Inv.act_get, d0, q6, q7, q8]
    · exact hk (.agg #[.int .i64 n.log.start, .int .i64 n.log.sterm, .slice (some ⟨g2, 0, none⟩) n.log.ents.length n.log.ents.length]) X (Below.refl _ _) rfl
  · intro f X K hb hf hd hk
    have e1 : f 1 = .int .i64 i := hf 1 rfl
    refine Inv.pay_value (v := .int .i64 i) (w' := X) ?_ ?_
    · simp [execOp, go_sem, Inv.act_get, e1]
    · exact hk (.int .i64 i) X (Below.refl _ _) rfl
  · intro f X K hb hf hd hk
    have d4 : f 31 = .agg #[.int .i64 n.log.start, .int .i64 n.log.sterm, .slice (some ⟨g2, 0, none⟩) n.log.ents.length n.log.ents.length] := hd 4 rfl
    have d5 : f 32 = .int .i64 i := hd 5 rfl
    refine Inv.pay_call (f := 48) (args := #[.agg #[.int .i64 n.log.start, .int .i64 n.log.sterm, .slice (some ⟨g2, 0, none⟩) n.log.ents.length n.log.ents.length], .int .i64 i]) (u := .int .i64 T) (R := fun w' => Below X.heap.size X w') ?_ (HTM.out X hb) (fun w5 hb5 => hk (.int .i64 T) w5 hb5 rfl)
    simp [execOp, go_sem, Inv.act_get, d4, d5]
  · intro f X K hb hf hd hk
    have d1 : f 28 = .agg #[.int .i64 n.log.start, .int .i64 n.log.sterm, .slice (some ⟨g2, 0, none⟩) n.log.ents.length n.log.ents.length] := hd 1 rfl
    have d2 : f 29 = .int .i64 i := hd 2 rfl
    have d6 : f 33 = .int .i64 T := hd 6 rfl
    refine Inv.pay_callE (f := 47) (args := #[.agg #[.int .i64 n.log.start, .int .i64 n.log.sterm, .slice (some ⟨g2, 0, none⟩) n.log.ents.length n.log.ents.length], .int .i64 i, .int .i64 T]) (R := fun v w' => BehV w.heap.size i T E v w' ∧ Below X.heap.size X w') ?_ (HBH.out X hb) (fun v w5 hv => hk v w5 hv.2 hv.1)
    simp [execOp, go_sem, Inv.act_get, d1, d2, d6]
  · intro f X K hb hf hd hk
    have e6 : f 6 = .pointer (some ⟨q, 0, none⟩) := hf 6 rfl
    refine Inv.pay_value (v := .pointer (some ⟨q, 6, none⟩)) (w' := X) ?_ ?_
    · simp [execOp, go_sem, Inv.act_get, e6]
    · exact hk (.pointer (some ⟨q, 6, none⟩)) X (Below.refl _ _) rfl
  · intro f w5 hb5 hf hv
    have d7 : BehV w.heap.size i T E (f 34) w5 := hv 7 (by decide)
    have d8 : f 35 = .pointer (some ⟨q, 6, none⟩) := hv 8 (by decide)
    have e6 : f 6 = .pointer (some ⟨q, 0, none⟩) := hf 6 rfl
    have e4 : f 4 = .pointer (some ⟨w.heap.size + 1, 0, none⟩) := hf 4 rfl
    have e2 : f 2 = .pointer (some ⟨w.heap.size, 0, none⟩) := hf 2 rfl
    obtain ⟨z1, z2, z3, z4, z5, z6, z7, z8⟩ := HX4.out w5 hb5
    obtain ⟨d2, e2', hv7, ho7⟩ := d7
    have hone : ∀ v ∈ (#[.int .i64 i, .int .i64 T, .slice d2 E.length e2'] : Array Value).toList, v.oneCell' = true := by
      intro v hv
      simp at hv
      rcases hv with rfl | rfl | rfl <;> rfl
    have hrun := run_store_sub (P := Try.prog) (o := 6) Try.sizeOf33 z5 (A := #[.int .i64 i, .int .i64 T, .slice d2 E.length e2']) rfl (show 9 ≤ 14 by omega) hone
    have hnew : (((part4 n (.slice d1 L.length e1) (.slice b2 n.log.ents.length c2) (.slice b3 n.votes.length c3) (.slice b4 n.peers.length c4))).toList.take 6 ++ (#[.int .i64 i, .int .i64 T, .slice d2 E.length e2'] : Array Value).toList ++ ((part4 n (.slice d1 L.length e1) (.slice b2 n.log.ents.length c2) (.slice b3 n.votes.length c3) (.slice b4 n.peers.length c4))).toList.drop (6 + (#[.int .i64 i, .int .i64 T, .slice d2 E.length e2'] : Array Value).toList.length)).toArray = part5 n (.slice d1 L.length e1) i T (.slice d2 E.length e2') (.slice b3 n.votes.length c3) (.slice b4 n.peers.length c4) := rfl
    rw [hnew] at hrun
    refine Inv.last_skip rfl rfl (w' := w5.setRow q (part5 n (.slice d1 L.length e1) i T (.slice d2 E.length e2') (.slice b3 n.votes.length c3) (.slice b4 n.peers.length c4))) ?_ ?_
    · simp [execOp, Inv.act_eval, hv7, d8, hrun, Result.andThen]
    · have hqw := HQW.out
      have hsz := HSZ.out
      obtain ⟨X6, hX6⟩ : ∃ X6, X6 = w5.setRow q (part5 n (.slice d1 L.length e1) i T (.slice d2 E.length e2') (.slice b3 n.votes.length c3) (.slice b4 n.peers.length c4)) := ⟨_, rfl⟩
      rw [← hX6]
      have HOUT6 : Hid (X6.heap[q]? = some (.cells (part5 n (.slice d1 L.length e1) i T (.slice d2 E.length e2') (.slice b3 n.votes.length c3) (.slice b4 n.peers.length c4)) 36 (0, 0))) := by show _ = _; rw [hX6]; exact row_size z5
      have HZ6 : Hid (X6.heap[w.heap.size + 1]? = some (.cells zeroN 36 (0, 0))) := by
        show _ = _
        rw [hX6, (grown_setRow w5 q _).block _ (Array.getElem?_eq_some_iff.1 z3).1 (fun e => by cases e; omega)]
        exact z3
      have HB6 : Hid (Below w.heap.size w X6) := by show Below _ _ _; rw [hX6]; exact below_rowN z4 (by omega) _
      have HOWN : Hid (NodeOwn4 X6 w.heap.size (settleN n k) d1 e1 d2 e2' b3 c3 b4 c4) := by
        show NodeOwn4 _ _ _ _ _ _ _ _ _ _ _
        have ho8 := ho7
        rw [HEE.out] at ho8
        have y1 := own_rowN z6 q (part5 n (.slice d1 L.length e1) i T (.slice d2 E.length e2') (.slice b3 n.votes.length c3) (.slice b4 n.peers.length c4)) (own_not z6 z5 (by decide))
        have y2 := own_rowN ho7 q (part5 n (.slice d1 L.length e1) i T (.slice d2 E.length e2') (.slice b3 n.votes.length c3) (.slice b4 n.peers.length c4)) (own_not ho7 z5 (by decide))
        have y3 := own_rowN z7 q (part5 n (.slice d1 L.length e1) i T (.slice d2 E.length e2') (.slice b3 n.votes.length c3) (.slice b4 n.peers.length c4)) (own_not z7 z5 (by decide))
        have y4 := own_rowN z8 q (part5 n (.slice d1 L.length e1) i T (.slice d2 E.length e2') (.slice b3 n.votes.length c3) (.slice b4 n.peers.length c4)) (own_not z8 z5 (by decide))
        rw [← hX6] at y1 y2 y3 y4
        refine ⟨?_, ?_, y3, y4, ?_⟩
        · show X6.ownsRow _ 3 1 (.slice d1 (confL n.conf (n.log.ents.take k)).length e1) (confL n.conf (n.log.ents.take k)).length (cellsI (confL n.conf (n.log.ents.take k))); rw [← HL.out]; exact y1
        · show X6.ownsRow _ 74 3 (.slice d2 (n.log.ents.drop k).length e2') (n.log.ents.drop k).length (cellsEn (n.log.ents.drop k)); rw [← HEE.out]; exact y2
        · show (Value.slice d1 (confL n.conf (n.log.ents.take k)).length e1).ownBlock = none ∨ (Value.slice d1 (confL n.conf (n.log.ents.take k)).length e1).ownBlock ≠ (Value.slice b3 n.votes.length c3).ownBlock; rw [← HL.out]; exact HAP.out
      have HVAL : Hid (Value.agg (part5 n (.slice d1 L.length e1) i T (.slice d2 E.length e2') (.slice b3 n.votes.length c3) (.slice b4 n.peers.length c4)) = nodeV (settleN n k) d1 e1 d2 e2' b3 c3 b4 c4) := by
        show _ = _
        rw [HTT.out, HEE.out, HL.out, HK.out]
        rfl
      have HONE5 : Hid (∀ v ∈ (part5 n (.slice d1 L.length e1) i T (.slice d2 E.length e2') (.slice b3 n.votes.length c3) (.slice b4 n.peers.length c4)).toList, v.oneCell' = true) := part5_one n _ _ _ _ _ _ _ _ _ _ _ _ _ _
      clear hrun hone z1 z2 z3 z4 z5 z6 z7 z8 ho7 hv7 hnew HX4 HTM HBH hX6
      show K0 (Inv.act 37 [] f) _
      refine hK0 _ _ ?_
      have hact : Inv.act 37 [] f = ⟨(f 0 :: f 1 :: f 2 :: f 3 :: f 4 :: f 5 :: f 6 :: f 7 :: f 8 :: f 9 :: f 10 :: f 11 :: f 12 :: f 13 :: f 14 :: f 15 :: f 16 :: f 17 :: f 18 :: f 19 :: f 20 :: f 21 :: f 22 :: f 23 :: f 24 :: f 25 :: f 26 :: f 27 :: f 28 :: f 29 :: f 30 :: f 31 :: f 32 :: f 33 :: f 34 :: f 35 :: f 36 :: []).toArray, []⟩ := by kernel_rfl
      rw [hact, e4, e6]
      clear hact hf hv d8 e4 e6 e2
      go_wp2_with (first | (refine wpList_loadA Try.isAgg36 Try.sizeOf36 rfl _ rfl q (part5 n (.slice d1 L.length e1) i T (.slice d2 E.length e2') (.slice b3 n.votes.length c3) (.slice b4 n.peers.length c4)) 36 rfl HOUT6.out rfl ?_) | (refine wpList_storeA Try.sizeOf36 rfl _ _ rfl (w.heap.size + 1) (part5 n (.slice d1 L.length e1) i T (.slice d2 E.length e2') (.slice b3 n.votes.length c3) (.slice b4 n.peers.length c4)) zeroN 36 rfl rfl HZ6.out rfl rfl HONE5.out ?_) | fail)
      refine bodyPost_ret (resultS rfl HZ6.out rfl rfl rfl) rfl ⟨d1, e1, d2, e2', b3, c3, b4, c4, by rw [HMT.out, HT.out, ← HVAL.out], ?_, below_rowN HB6.out (by omega) _⟩
      rw [HMT.out]
      refine ⟨?_, ?_, ?_, ?_, HOWN.out.apart⟩
      · exact own_rowN HOWN.out.conf _ _ (own_not HOWN.out.conf HZ6.out (by decide))
      · exact own_rowN HOWN.out.ents _ _ (own_not HOWN.out.ents HZ6.out (by decide))
      · exact own_rowN HOWN.out.votes _ _ (own_not HOWN.out.votes HZ6.out (by decide))
      · exact own_rowN HOWN.out.peers _ _ (own_not HOWN.out.peers HZ6.out (by decide))
end Go.Proofs.Ytiifjhalkihlbaa
