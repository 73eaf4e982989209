/- A session's key and value in the program, walked: Decimal, key, putting, CutPrefix and Cut at a blank, sessionNumber, readSession. -/
import Derived.Test.YtpedpdgkbmpfjaaDoorMathAct2
import Derived.Test.YtpedpdgkbmpfjaaDoorReadDec
import Derived.Test.YtpedpdgkbmpfjaaDoorItoa
import Derived.Test.YtpedpdgkbmpfjaaDoorClone
import Derived.Test.YtpedpdgkbmpfjaaDoorAgg
import Derived.Lib.IndexLaws
namespace Go.Proofs.YtpedpdgkbmpfjaaDoor
open Go.RowKit
open Acts (decS skey sval nkey kkey)
set_option linter.unusedVariables false
set_option linter.unusedSimpArgs false

def sesV (s : Ses) : Value := .agg #[.int .i64 (s.id : Int), .int .i64 (s.seq : Int), .int .i64 (s.at_ : Int), .string s.rep]
def sesC (s : Ses) : Array Value := #[.int .i64 (s.id : Int), .int .i64 (s.seq : Int), .int .i64 (s.at_ : Int), .string s.rep]
theorem implDec_is (n : Nat) (h : n ≤ 99) (w : World) : Calls Tryd.prog 62 #[.int .i64 (n : Int)] w fun e w' => e = .returned (.string (decS n)) ∧ w' = w := by
  have HI : Hid (∀ W, Calls Tryd.prog 81 #[.int .i64 (n : Int)] W fun e w' => e = .returned (.string (decS n)) ∧ w' = W) := fun W => (Tryd.strconv_Itoa_small n (by omega) W).mono fun e w' ⟨h1, h2⟩ => ⟨by rw [h1]; unfold decS; rw [dec_lib n n (Nat.le_refl _)], h2⟩
  go_enter Tryd.func62, Tryd.ntmps62
  go_wp2_with (go_at_call 81; refine Calls.mono (HI.out _) ?_; rintro e w1 ⟨rfl, rfl⟩)
  go_ret
  exact ⟨rfl, rfl⟩
set_option maxHeartbeats 1000000 in
theorem sesKey_is (s : Ses) (h : s.id ≤ 99) (w : World) : Calls Tryd.prog 61 #[sesV s] w fun e w' => e = .returned (.string (skey s.id)) ∧ Below w.heap.size w w' := by
  have HI : Hid (∀ W, Calls Tryd.prog 62 #[.int .i64 (s.id : Int)] W fun e w' => e = .returned (.string (decS s.id)) ∧ w' = W) := fun W => implDec_is s.id h W
  have HB : Hid (Below w.heap.size w (w.alloc (Obj.cells (sesC s) 92))) := (Below.refl _ _).alloc (Nat.le_refl _) _
  have hz := Acts.decS_size h
  have z1 : ¬ 9223372036854775807 < 1 + (decS s.id).size := by omega
  unfold sesV
  go_enter Tryd.func61, Tryd.ntmps61
  go_wp2_with (go_at_call 62; refine Calls.mono (HI.out _) ?_; rintro e w1 ⟨rfl, hw⟩; subst hw)
  go_ret
  exact ⟨rfl, HB.out⟩
theorem index_at : ∀ (a r : List UInt8), (∀ b ∈ a, (b != 32) = true) → Lib.indexByte (a ++ (32 :: r)) 32 = (a.length : Int)
  | [], r, _ => by simp [Lib.indexByte]
  | x :: a, r, h => by
    have ih := index_at a r fun b hb => h b (List.mem_cons_of_mem _ hb)
    have hx : x ≠ 32 := bne_iff_ne.1 (h x (List.mem_cons_self ..))
    have hx2 : (x == 32) = false := beq_eq_false_iff_ne.2 hx
    have hn : ((a.length : Int) == -1) = false := beq_eq_false_iff_ne.2 (by omega)
    simp only [List.cons_append, Lib.indexByte, hx2, ih, hn, Bool.false_eq_true, if_false, List.length_cons]
    omega
/-- A text cut at its first blank. -/
theorem extract_ahead {t : ByteArray} {a r : List UInt8} (h : Batches.by_ t = a ++ (32 :: r)) : t.extract 0 a.length = ⟨a.toArray⟩ ∧ t.extract (a.length + 1) t.size = ⟨r.toArray⟩ ∧ a.length + 1 ≤ t.size := by
  have hl : (Batches.by_ t).length = t.size := Words.size_list t
  have hl2 : a.length + (r.length + 1) = t.size := by rw [← hl, h]; simp
  refine ⟨?_, ?_, by omega⟩
  · apply Batches.by_inj
    unfold Batches.by_ at h ⊢
    rw [Words.extract_list, h]
    simp
  · apply Batches.by_inj
    unfold Batches.by_ at h ⊢
    rw [Words.extract_list, h]
    have e : a ++ (32 :: r) = (a ++ [32]) ++ r := by simp
    rw [e, List.drop_append_of_le_length (by simp)]
    rw [List.drop_of_length_le (by simp)]
    simp only [List.nil_append]
    rw [List.take_of_length_le (by omega)]
set_option maxHeartbeats 2000000 in
set_option maxRecDepth 100000 in
theorem cut_lite {t : ByteArray} {a r : List UInt8} (h : Batches.by_ t = a ++ (32 :: r)) (ha : ∀ b ∈ a, (b != 32) = true) (hs : t.size ≤ 1048576) (w : World) :
    Calls Tryd.prog 89 #[.string t, .string ⟨#[32]⟩] w fun e w' => e = .returned (.tuple #[.string ⟨a.toArray⟩, .string ⟨r.toArray⟩, .bool true]) ∧ Below w.heap.size w w' := by
  obtain ⟨x1, x2, x3⟩ := extract_ahead h
  have HI : Hid (∀ W, Calls Tryd.prog 96 #[.string t, .string ⟨#[32]⟩] W fun e w' => e = .returned (.int .i64 (a.length : Int)) ∧ w' = W) := fun W => (Tryd.stringslite_Index_one t 32 W).mono fun e w' ⟨h1, h2⟩ => ⟨by rw [h1]; unfold Batches.by_ at h; rw [h, index_at a r ha], h2⟩
  obtain ⟨k, hk⟩ : ∃ k, k = a.length := ⟨_, rfl⟩
  rw [← hk] at x1 x2 x3 HI
  have HX1 : Hid (t.extract 0 k = ⟨a.toArray⟩) := x1
  have HX2 : Hid (t.extract (k + 1) t.size = ⟨r.toArray⟩) := x2
  have k0 : (0 : Int) ≤ (k : Int) := by omega
  have k1 : (k : Int) ≤ (t.size : Int) := by omega
  have k2 : (0 : Int) ≤ (k : Int) + 1 := by omega
  have k3 : (k : Int) + 1 ≤ (t.size : Int) := by omega
  have mixed : Tryd.prog.follows .mixedOrders = true := by kernel_rfl
  have kw : IntKind.i64.wrap ((k : Int) + 1) = (k : Int) + 1 := by rw [IntKind.wrap_i64]; omega
  clear x1 x2 h ha hk
  go_enter Tryd.func89, Tryd.ntmps89
  go_wp2_with (go_at_call 96; refine Calls.mono (HI.out _) ?_; rintro e w1 ⟨rfl, hw⟩; subst hw)
  go_region_o
  go_wp2
  go_ret3
  exact ⟨by rw [← HX1.out, ← HX2.out]; rfl, (Below.refl _ _).drew⟩
set_option maxHeartbeats 1000000 in
theorem cut_is {t : ByteArray} {a r : List UInt8} (h : Batches.by_ t = a ++ (32 :: r)) (ha : ∀ b ∈ a, (b != 32) = true) (hs : t.size ≤ 1048576) (w : World) :
    Calls Tryd.prog 75 #[.string t, .string ⟨#[32]⟩] w fun e w' => e = .returned (.tuple #[.string ⟨a.toArray⟩, .string ⟨r.toArray⟩, .bool true]) ∧ Below w.heap.size w w' := by
  have HI : Hid (∀ W, Calls Tryd.prog 89 #[.string t, .string ⟨#[32]⟩] W fun e w' => e = .returned (.tuple #[.string ⟨a.toArray⟩, .string ⟨r.toArray⟩, .bool true]) ∧ Below W.heap.size W w') := fun W => cut_lite h ha hs W
  clear h ha
  go_enter Tryd.func75, Tryd.ntmps75
  go_wp2_with (go_at_call 89; refine Calls.mono (HI.out _) ?_; rintro e w1 ⟨rfl, hb1⟩)
  go_ret3
  exact ⟨rfl, hb1⟩
set_option maxHeartbeats 1000000 in
theorem number_is (n : Nat) (hn : n ≤ 1000000000) (w : World) : Calls Tryd.prog 56 #[.string (skey n)] w fun e w' => e = .returned (.tuple #[.int .i64 (n : Int), .bool true]) ∧ w' = w := by
  have hl : (skey n).data.toList = 115 :: Words.dec n := Acts.by_skey n
  have hz := Words.dec_len n hn
  have HP : Hid (∀ W, Calls Tryd.prog 73 #[.string (skey n), .string ⟨#[115]⟩] W fun e w' => e = .returned (.tuple #[.string (decS n), .bool true]) ∧ w' = W) := fun W => (Tryd.strings_CutPrefix (skey n) ⟨#[115]⟩ W).mono fun e w' ⟨h1, h2⟩ => ⟨by
    rw [h1, hl]
    have e1 : Lib.hasPrefix (115 :: Words.dec n) ([115] : List UInt8) = true := by simp [Lib.hasPrefix]
    show Ending.returned (.tuple #[.string ⟨(Lib.trimPrefix (115 :: Words.dec n) [115]).toArray⟩, .bool (Lib.hasPrefix (115 :: Words.dec n) [115])]) = _
    unfold Lib.trimPrefix
    rw [e1, if_pos rfl]
    rfl, h2⟩
  have HD : Hid (∀ W, Calls Tryd.prog 74 #[.string (decS n)] W fun e w' => e = .returned (.tuple #[.int .i64 (n : Int), .bool true]) ∧ W = w') := fun W => implRD_some (by show (Words.dec n).toArray.size ≤ _; simp; omega) (Acts.rd_dec hn) W
  clear hl
  obtain ⟨K, hK⟩ : ∃ K, K = skey n := ⟨_, rfl⟩
  rw [← hK] at HP ⊢
  clear hK
  go_enter Tryd.func56, Tryd.ntmps56
  go_wp2_with (first | (go_at_call 73; refine Calls.mono (HP.out _) ?_; rintro e w1 ⟨rfl, hw⟩; subst hw) | (go_at_call 74; refine Calls.mono (HD.out _) ?_; rintro e w2 ⟨rfl, hw⟩; subst hw))
  go_ret2
  exact ⟨rfl, rfl⟩
set_option maxHeartbeats 1000000 in
theorem number_no {K : ByteArray} (h : (Batches.by_ K).head? ≠ some 115) (w : World) : Calls Tryd.prog 56 #[.string K] w fun e w' => e = .returned (.tuple #[.int .i64 0, .bool false]) ∧ w' = w := by
  have HP : Hid (∀ W, Calls Tryd.prog 73 #[.string K, .string ⟨#[115]⟩] W fun e w' => e = .returned (.tuple #[.string K, .bool false]) ∧ w' = W) := fun W => (Tryd.strings_CutPrefix K ⟨#[115]⟩ W).mono fun e w' ⟨h1, h2⟩ => ⟨by
    have e1 : Lib.hasPrefix K.data.toList ([115] : List UInt8) = false := by
      have h' : K.data.toList.head? ≠ some 115 := h
      unfold Lib.hasPrefix
      cases hl : K.data.toList with
      | nil => rfl
      | cons x r =>
        rw [hl] at h'
        have hx : x ≠ 115 := fun e => h' (by rw [e]; rfl)
        simp [List.isPrefixOf, Ne.symm hx]
    rw [h1]
    show Ending.returned (.tuple #[.string ⟨(Lib.trimPrefix K.data.toList [115]).toArray⟩, .bool (Lib.hasPrefix K.data.toList [115])]) = _
    unfold Lib.trimPrefix
    rw [e1, if_neg (by simp)], h2⟩
  clear h
  go_enter Tryd.func56, Tryd.ntmps56
  go_wp2_with (go_at_call 73; refine Calls.mono (HP.out _) ?_; rintro e w1 ⟨rfl, hw⟩; subst hw)
  go_ret2
  exact ⟨rfl, rfl⟩
/-- What stands behind the first blank. -/
def restS (s : Ses) : ByteArray := ⟨(Words.dec s.at_ ++ (32 :: Batches.by_ s.rep)).toArray⟩
theorem cut_first (s : Ses) (hz : (sval s).size ≤ 1048576) (w : World) : Calls Tryd.prog 75 #[.string (sval s), .string ⟨#[32]⟩] w fun e w' => e = .returned (.tuple #[.string (decS s.seq), .string (restS s), .bool true]) ∧ Below w.heap.size w w' := cut_is (Acts.by_sval s) (fun b hb => Acts.fig_not (Words.dec_fig _ b hb)) hz w
theorem cut_second (s : Ses) (hz : (restS s).size ≤ 1048576) (w : World) : Calls Tryd.prog 75 #[.string (restS s), .string ⟨#[32]⟩] w fun e w' => e = .returned (.tuple #[.string (decS s.at_), .string s.rep, .bool true]) ∧ Below w.heap.size w w' := by
  have e : (⟨(Batches.by_ s.rep).toArray⟩ : ByteArray) = s.rep := Batches.by_inj rfl
  have := cut_is (t := restS s) (a := Words.dec s.at_) (r := Batches.by_ s.rep) rfl (fun b hb => Acts.fig_not (Words.dec_fig _ b hb)) hz w
  rw [e] at this
  exact this
theorem implRD_dec (n : Nat) (h : n ≤ 1000000000) (w : World) : Calls Tryd.prog 74 #[.string (decS n)] w fun e w' => e = .returned (.tuple #[.int .i64 (n : Int), .bool true]) ∧ w = w' := implRD_some (by have := Words.dec_len n h; show (Words.dec n).toArray.size ≤ _; simp; omega) (Acts.rd_dec h) w
def zeroS : Array Value := #[.int .i64 0, .int .i64 0, .int .i64 0, .string ⟨#[]⟩]
theorem ses_one (s : Ses) : ∀ v ∈ (sesC s).toList, v.oneCell' = true := by
  intro v hv
  simp [sesC] at hv
  rcases hv with rfl | rfl | rfl | rfl <;> rfl
theorem Tryd.isAgg92 (w : World) : (isAgg 92).run Tryd.prog w = .ok true w := by kernel_rfl
theorem Tryd.sizeOf92 (w : World) : (sizeOf 92).run Tryd.prog w = .ok 4 w := by kernel_rfl
theorem result57 {w : World} {g : Nat} {A C : Array Value} {R : Bool} (hg : w.heap[g]? = some (.cells C 92 (0, 0))) (hs : A.size = 4) {tmps : Array Value} (ht : tmps.getD 4 undef = .pointer (some ⟨g, 0, none⟩)) (h3 : tmps.getD 5 undef = .bool R) : (results Tryd.f57 tmps).run Tryd.prog (w.setRow g A) = .ok (.tuple #[.agg A, .bool R]) (w.setRow g A) := by
  have h := run_loadVar_agg (P := Tryd.prog) Tryd.isAgg92 Tryd.sizeOf92 (row_size (A := A) hg) hs
  have ht' : tmps[4]?.getD undef = .pointer (some ⟨g, 0, none⟩) := by simpa using ht
  have h3' : tmps[5]?.getD undef = .bool R := by simpa using h3
  simp [results, Tryd.results57, ht', h3', asAddr, h]
set_option maxHeartbeats 1000000 in
set_option maxRecDepth 100000 in
/-- What readSession answers of a session's value. -/
theorem readSes_is (s : Ses) (h : Acts.Small s) (hr : s.rep.size ≤ 1000) (w : World) : Calls Tryd.prog 57 #[.int .i64 (s.id : Int), .string (sval s)] w fun e w' => e = .returned (.tuple #[sesV s, .bool true]) ∧ Below w.heap.size w w' := by
  obtain ⟨h1, h2, h3⟩ := h
  have d1 := Words.dec_len _ h2
  have d2 := Words.dec_len _ h3
  have hz : (sval s).size ≤ 1048576 := by
    have : (Batches.by_ (sval s)).length = (sval s).size := Words.size_list _
    rw [← this, Acts.by_sval]
    have e : (Batches.by_ s.rep).length = s.rep.size := Words.size_list _
    simp only [List.length_append, List.length_cons, e]
    omega
  have hz2 : (restS s).size ≤ 1048576 := by
    have : (Batches.by_ (restS s)).length = (restS s).size := Words.size_list _
    rw [← this]
    have e : (Batches.by_ s.rep).length = s.rep.size := Words.size_list _
    show (Words.dec s.at_ ++ (32 :: Batches.by_ s.rep)).length ≤ _
    simp only [List.length_append, List.length_cons, e]
    omega
  have HC1 : Hid (∀ W, Calls Tryd.prog 75 #[.string (sval s), .string ⟨#[32]⟩] W fun e w' => e = .returned (.tuple #[.string (decS s.seq), .string (restS s), .bool true]) ∧ Below W.heap.size W w') := fun W => cut_first s hz W
  have HC2 : Hid (∀ W, Calls Tryd.prog 75 #[.string (restS s), .string ⟨#[32]⟩] W fun e w' => e = .returned (.tuple #[.string (decS s.at_), .string s.rep, .bool true]) ∧ Below W.heap.size W w') := fun W => cut_second s hz2 W
  have HR1 : Hid (∀ W, Calls Tryd.prog 74 #[.string (decS s.seq)] W fun e w' => e = .returned (.tuple #[.int .i64 (s.seq : Int), .bool true]) ∧ W = w') := fun W => implRD_dec _ h2 W
  have HR2 : Hid (∀ W, Calls Tryd.prog 74 #[.string (decS s.at_)] W fun e w' => e = .returned (.tuple #[.int .i64 (s.at_ : Int), .bool true]) ∧ W = w') := fun W => implRD_dec _ h3 W
  obtain ⟨W0, hW0⟩ : ∃ W0, W0 = w.alloc (Obj.cells #[.int .i64 0, .int .i64 0, .int .i64 0, .string ⟨#[]⟩] 92) := ⟨_, rfl⟩
  have HB0 : Hid (Below w.heap.size w W0) := by rw [hW0]; exact (Below.refl _ _).alloc (Nat.le_refl _) _
  have HZ0 : Hid (W0.heap[w.heap.size]? = some (.cells zeroS 92 (0, 0))) := by rw [hW0]; exact heap_alloc_new w _
  have HONE : Hid (∀ v ∈ (sesC s).toList, v.oneCell' = true) := ses_one s
  obtain ⟨V, hV⟩ : ∃ V, V = sval s := ⟨_, rfl⟩
  obtain ⟨V2, hV2⟩ : ∃ V2, V2 = restS s := ⟨_, rfl⟩
  obtain ⟨D1, hD1⟩ : ∃ D1, D1 = decS s.seq := ⟨_, rfl⟩
  obtain ⟨D2, hD2⟩ : ∃ D2, D2 = decS s.at_ := ⟨_, rfl⟩
  rw [← hV, ← hV2, ← hD1] at HC1
  rw [← hV2, ← hD2] at HC2
  rw [← hD1] at HR1
  rw [← hD2] at HR2
  rw [← hV]
  clear hV hV2 hD1 hD2 hz hz2 d1 d2
  go_enter Tryd.func57, Tryd.ntmps57
  go_wp2_with fail
  rw [← hW0]
  clear hW0
  refine Calls.mono (HC1.out _) ?_
  rintro e w1 ⟨rfl, hb1⟩
  have HB1 : Hid (Below w.heap.size w w1) := HB0.out.trans (hb1.mono HB0.out.size)
  have HZ1 : Hid (w1.heap[w.heap.size]? = some (.cells zeroS 92 (0, 0))) := (hb1.block _ (Array.getElem?_eq_some_iff.1 HZ0.out).1).trans HZ0.out
  clear hb1 HB0 HZ0
  go_wp2_with fail
  refine Calls.mono (HC2.out _) ?_
  rintro e w2 ⟨rfl, hb2⟩
  have HB2 : Hid (Below w.heap.size w w2) := HB1.out.trans (hb2.mono HB1.out.size)
  have HZ2 : Hid (w2.heap[w.heap.size]? = some (.cells zeroS 92 (0, 0))) := (hb2.block _ (Array.getElem?_eq_some_iff.1 HZ1.out).1).trans HZ1.out
  clear hb2 HB1 HZ1
  go_wp2_with (first | (go_at_call 74; (first | (with_reducible refine Calls.mono (HR1.out _) ?_) | (with_reducible refine Calls.mono (HR2.out _) ?_)); rintro e w3 ⟨rfl, hw⟩; subst hw) | (refine wpList_storeA Tryd.sizeOf92 rfl _ _ rfl w.heap.size (sesC s) zeroS 92 rfl rfl HZ2.out rfl rfl HONE.out ?_))
  exact bodyPost_ret (result57 HZ2.out rfl rfl rfl) rfl ⟨rfl, HB2.out.grown (grown_setRow w2 w.heap.size (sesC s)) HB2.out.size (fun k e => by cases e; exact Nat.le_refl _)⟩
end Go.Proofs.YtpedpdgkbmpfjaaDoor
