/- The law's own cutOf, walked. -/
import Derived.Test.YtahpoemmlpbgdaaGreatSpecCut2
import Derived.Test.YtahpoemmlpbgdaaGreatAgg
import Derived.Test.YtahpoemmlpbgdaaGreatSpecBehind
namespace Go.Proofs.YtahpoemmlpbgdaaGreat
open Go.RowKit
set_option linter.unusedVariables false
set_option linter.unusedSimpArgs false

theorem disk_one {w : World} {base : Nat} {v : Value} {n : Nat} {xs : List Value} (h : w.ownsRow base 38 2 v n xs) : ∀ x ∈ (#[v] : Array Value).toList, x.oneCell' = true := by
  obtain ⟨a, c, rfl⟩ := own_slice h
  intro x hx
  simp at hx
  rw [hx]; rfl
theorem result14 {w : World} {g : Nat} {A C : Array Value} {b : Bool} (hg : w.heap[g]? = some (.cells C 41 (0, 0))) (hs : A.size = 1) {tmps : Array Value} (ht : tmps.getD 8 undef = .pointer (some ⟨g, 0, none⟩)) (hb : tmps.getD 9 undef = .bool b) : (results Tryz.f14 tmps).run Tryz.prog (w.setRow g A) = .ok (.tuple #[.agg A, .bool b]) (w.setRow g A) := by
  have h := run_loadVar_agg (P := Tryz.prog) Tryz.isAgg41 Tryz.sizeOf41 (row_size (A := A) hg) hs
  have ht' : tmps[8]?.getD undef = .pointer (some ⟨g, 0, none⟩) := by simpa using ht
  have hb' : tmps[9]?.getD undef = .bool b := by simpa using hb
  simp [results, Tryz.results14, ht', hb', asAddr, h]
theorem rem_in (x : Int) (n : Nat) (h : 0 ≤ x) : ∃ k : Nat, k ≤ n ∧ x.tmod ((n : Int) + 1) = (k : Int) := by
  refine ⟨(x % ((n : Int) + 1)).toNat, ?_, ?_⟩
  · have := Int.emod_lt_of_pos x (show (0 : Int) < (n : Int) + 1 by omega)
    have := Int.emod_nonneg x (show (n : Int) + 1 ≠ 0 by omega)
    omega
  · rw [Int.tmod_eq_emod_of_nonneg h]
    have := Int.emod_nonneg x (show (n : Int) + 1 ≠ 0 by omega)
    omega
set_option maxHeartbeats 4000000 in
set_option maxRecDepth 100000 in
theorem cutOf_is {a ra : Option Addr} {g off cap rg roff rcap : Nat} (l : List FileL) (rs : List Disks.RawL) (hok : Disks.ok l) (hdn : a = none → cap = 0) (hrl : rs.length ≤ 60) (hrs : ∀ r ∈ rs, smallRaw 1048576 r) (hk1 : ∀ r ∈ rs, 1 ≤ r.kind ∧ r.kind ≤ 4) (hcap : rs.length ≤ rcap) (hc2 : rcap ≤ 9223372036854775807) (hnil : ra = none → rcap = 0)
    (A C : Int) (hA : 0 ≤ A ∧ A ≤ 10000) (hC : 0 ≤ C ∧ C ≤ 10000) : ∃ wh pt : Nat, wh ≤ rs.length ∧ pt ≤ Disks.room rs wh ∧ ∀ (w : World), FilesAt w a g off l → RawsAt w ra rg roff rs →
    Calls Tryz.prog 14 #[.agg #[.slice a l.length cap], .slice ra rs.length rcap, .int .i64 A, .int .i64 C] w (putPost w (Disks.cutAll l rs (wh : Int) (pt : Int))) := by
  obtain ⟨wh, hwh, hrem⟩ := rem_in A rs.length hA.1
  have hsz : ∀ f ∈ l, f.1.size ≤ 1048576 ∧ f.2.size ≤ 1048576 := fun f hf => by have := ok_sizes hok f hf; omega
  have n0 : (((rs.length : Int) + 1) == 0) = false := by simp; omega
  have hstart : ∀ w : World, ∃ W, W = (w.alloc (Obj.cells #[.slice a l.length cap] 41)).alloc (Obj.cells #[.slice none 0 0] 41) ∧ Below w.heap.size w W ∧ W.heap[w.heap.size]? = some (.cells #[.slice a l.length cap] 41 (0, 0)) ∧ W.heap[w.heap.size + 1]? = some (.cells #[.slice none 0 0] 41 (0, 0)) := fun w =>
    ⟨_, rfl, ((Below.refl _ _).alloc (Nat.le_refl _) _).alloc (by simp) _, two_0 w _ _, two_1 w _ _⟩
  by_cases hlt : wh < rs.length
  · by_cases hkd : rs[wh].kind ≤ 2
    · obtain ⟨pt, hpt, hrem2⟩ := rem_in C rs[wh].text.size hC.1
      have hroom : Disks.room rs wh = rs[wh].text.size := by
        unfold Disks.room
        rw [List.getElem?_eq_getElem hlt]
        simp only [Disks.part]
        rw [if_pos ⟨(hk1 _ (List.getElem_mem hlt)).1, hkd⟩]
      refine ⟨wh, pt, hwh, by rw [hroom]; exact hpt, fun w hf hrf => ?_⟩
      obtain ⟨W, hW, hb, x0, x1⟩ := hstart w
      have HX1 : Hid (W.heap[w.heap.size + 1]? = some (.cells #[.slice none 0 0] 41 (0, 0))) := x1
      have HB : Hid (Below w.heap.size w W) := hb
      have HC : Hid (Calls Tryz.prog 38 #[.agg #[.slice a l.length cap], .slice ra rs.length rcap, .int .i64 (wh : Int), .int .i64 (pt : Int)] W (putPost W (Disks.cutAll l rs (wh : Int) (pt : Int)))) := specCutRaws_is l rs _ _ (by have := hok.1; omega) hsz hdn (by omega) hrs hcap hc2 hnil W (hf.kept hb) (hrf.kept hb)
      obtain ⟨O, hO⟩ : ∃ O, O = Disks.cutAll l rs (wh : Int) (pt : Int) := ⟨_, rfl⟩
      rw [← hO] at HC ⊢
      obtain ⟨a0, a1, a2, a3⟩ := (hrf.kept hb).2 wh hlt
      have ea := hrf.1 (by omega)
      subst ea
      obtain ⟨r, hr⟩ : ∃ r, r = rs[wh] := ⟨_, rfl⟩
      have hts : r.text.size ≤ 1048576 := by rw [hr]; exact (hrs _ (List.getElem_mem hlt)).2.2
      rw [← hr] at a0 a1 a2 a3 hkd hrem2
      have m0 : (((r.text.size : Int) + 1) == 0) = false := by simp; omega
      have k0 : (0 : Int) ≤ (wh : Int) := by omega
      have k1 : (wh : Int) < (rs.length : Int) := by omega
      rw [hW] at a0 a1 a2 a3
      have HXW : Hid (((w.alloc (Obj.cells #[.slice a l.length cap] 41)).alloc (Obj.cells #[.slice none 0 0] 41)).heap[w.heap.size]? = some (.cells #[.slice a l.length cap] 41 (0, 0))) := by rw [← hW]; exact x0
      clear hO hr hf hrf hb x0 x1 hroom hrs hk1 hsz hstart
      go_enter Tryz.func14, Tryz.ntmps14
      go_wp2_with (first | (refine wpList_loadA Tryz.isAgg41 Tryz.sizeOf41 rfl _ rfl w.heap.size #[.slice a l.length cap] 41 rfl HXW.out rfl ?_) | fail)
      rw [← hW]
      clear hW HXW a0 a1 a2 a3
      refine Calls.mono HC.out ?_
      rintro en w2 ⟨v, rfl, ho, hb2⟩
      have HZ2 : Hid (w2.heap[w.heap.size + 1]? = some (.cells #[.slice none 0 0] 41 (0, 0))) := (hb2.block _ (Array.getElem?_eq_some_iff.1 HX1.out).1).trans HX1.out
      have HO2 : Hid (w2.ownsRow w.heap.size 38 2 v (O.getD []).length (cellsF (O.getD []))) := own_mono ho HB.out.size
      have HB2 : Hid (Below w.heap.size w w2) := HB.out.trans (hb2.mono HB.out.size)
      clear ho hb2 HC HX1
      go_wp2_with (first | (refine wpList_storeA Tryz.sizeOf41 rfl _ _ rfl (w.heap.size + 1) #[v] #[.slice none 0 0] 41 rfl rfl HZ2.out rfl rfl (disk_one HO2.out) ?_) | fail)
      exact bodyPost_ret (result14 HZ2.out rfl rfl rfl) rfl ⟨v, rfl, own_row HO2.out _ _ (own_not HO2.out HZ2.out (by decide)), ⟨HB2.out.os, HB2.out.tape, HB2.out.output, by rw [setRow_size]; exact HB2.out.size, fun k hk => (setRow_other w2 (w.heap.size + 1) k _ (by omega)).trans (HB2.out.block k hk)⟩⟩
    · have hroom : Disks.room rs wh = 0 := by
        unfold Disks.room
        rw [List.getElem?_eq_getElem hlt]
        simp only [Disks.part]
        rw [if_neg (fun h => hkd h.2)]
      refine ⟨wh, 0, hwh, Nat.zero_le _, fun w hf hrf => ?_⟩
      obtain ⟨W, hW, hb, x0, x1⟩ := hstart w
      have HX1 : Hid (W.heap[w.heap.size + 1]? = some (.cells #[.slice none 0 0] 41 (0, 0))) := x1
      have HB : Hid (Below w.heap.size w W) := hb
      have HC : Hid (Calls Tryz.prog 38 #[.agg #[.slice a l.length cap], .slice ra rs.length rcap, .int .i64 (wh : Int), .int .i64 ((0 : Nat) : Int)] W (putPost W (Disks.cutAll l rs (wh : Int) ((0 : Nat) : Int)))) := specCutRaws_is l rs _ _ (by have := hok.1; omega) hsz hdn (by omega) hrs hcap hc2 hnil W (hf.kept hb) (hrf.kept hb)
      obtain ⟨O, hO⟩ : ∃ O, O = Disks.cutAll l rs (wh : Int) ((0 : Nat) : Int) := ⟨_, rfl⟩
      rw [← hO] at HC ⊢
      obtain ⟨a0, a1, a2, a3⟩ := (hrf.kept hb).2 wh hlt
      have ea := hrf.1 (by omega)
      subst ea
      obtain ⟨r, hr⟩ : ∃ r, r = rs[wh] := ⟨_, rfl⟩
      rw [← hr] at a0 a1 a2 a3 hkd
      have k0 : (0 : Int) ≤ (wh : Int) := by omega
      have k1 : (wh : Int) < (rs.length : Int) := by omega
      have hkd2 : 2 < r.kind := by omega
      rw [hW] at a0 a1 a2 a3
      have HXW : Hid (((w.alloc (Obj.cells #[.slice a l.length cap] 41)).alloc (Obj.cells #[.slice none 0 0] 41)).heap[w.heap.size]? = some (.cells #[.slice a l.length cap] 41 (0, 0))) := by rw [← hW]; exact x0
      clear hO hr hf hrf hb x0 x1 hroom hrs hk1 hsz hstart
      go_enter Tryz.func14, Tryz.ntmps14
      go_wp2_with (first | (refine wpList_loadA Tryz.isAgg41 Tryz.sizeOf41 rfl _ rfl w.heap.size #[.slice a l.length cap] 41 rfl HXW.out rfl ?_) | fail)
      rw [← hW]
      clear hW HXW a0 a1 a2 a3
      refine Calls.mono HC.out ?_
      rintro en w2 ⟨v, rfl, ho, hb2⟩
      have HZ2 : Hid (w2.heap[w.heap.size + 1]? = some (.cells #[.slice none 0 0] 41 (0, 0))) := (hb2.block _ (Array.getElem?_eq_some_iff.1 HX1.out).1).trans HX1.out
      have HO2 : Hid (w2.ownsRow w.heap.size 38 2 v (O.getD []).length (cellsF (O.getD []))) := own_mono ho HB.out.size
      have HB2 : Hid (Below w.heap.size w w2) := HB.out.trans (hb2.mono HB.out.size)
      clear ho hb2 HC HX1
      go_wp2_with (first | (refine wpList_storeA Tryz.sizeOf41 rfl _ _ rfl (w.heap.size + 1) #[v] #[.slice none 0 0] 41 rfl rfl HZ2.out rfl rfl (disk_one HO2.out) ?_) | fail)
      exact bodyPost_ret (result14 HZ2.out rfl rfl rfl) rfl ⟨v, rfl, own_row HO2.out _ _ (own_not HO2.out HZ2.out (by decide)), ⟨HB2.out.os, HB2.out.tape, HB2.out.output, by rw [setRow_size]; exact HB2.out.size, fun k hk => (setRow_other w2 (w.heap.size + 1) k _ (by omega)).trans (HB2.out.block k hk)⟩⟩
  · obtain rfl : wh = rs.length := by omega
    · refine ⟨rs.length, 0, Nat.le_refl _, Nat.zero_le _, fun w hf hrf => ?_⟩
      obtain ⟨W, hW, hb, x0, x1⟩ := hstart w
      have HX1 : Hid (W.heap[w.heap.size + 1]? = some (.cells #[.slice none 0 0] 41 (0, 0))) := x1
      have HB : Hid (Below w.heap.size w W) := hb
      have HC : Hid (Calls Tryz.prog 38 #[.agg #[.slice a l.length cap], .slice ra rs.length rcap, .int .i64 (rs.length : Int), .int .i64 ((0 : Nat) : Int)] W (putPost W (Disks.cutAll l rs (rs.length : Int) ((0 : Nat) : Int)))) := specCutRaws_is l rs _ _ (by have := hok.1; omega) hsz hdn (by omega) hrs hcap hc2 hnil W (hf.kept hb) (hrf.kept hb)
      obtain ⟨O, hO⟩ : ∃ O, O = Disks.cutAll l rs (rs.length : Int) ((0 : Nat) : Int) := ⟨_, rfl⟩
      rw [← hO] at HC ⊢
      have k1 : ¬ (rs.length : Int) < (rs.length : Int) := by omega
      have HXW : Hid (((w.alloc (Obj.cells #[.slice a l.length cap] 41)).alloc (Obj.cells #[.slice none 0 0] 41)).heap[w.heap.size]? = some (.cells #[.slice a l.length cap] 41 (0, 0))) := by rw [← hW]; exact x0
      clear hO hf hrf hb x0 x1 hrs hk1 hsz hstart
      go_enter Tryz.func14, Tryz.ntmps14
      go_wp2_with (first | (refine wpList_loadA Tryz.isAgg41 Tryz.sizeOf41 rfl _ rfl w.heap.size #[.slice a l.length cap] 41 rfl HXW.out rfl ?_) | fail)
      rw [← hW]
      clear hW HXW
      refine Calls.mono HC.out ?_
      rintro en w2 ⟨v, rfl, ho, hb2⟩
      have HZ2 : Hid (w2.heap[w.heap.size + 1]? = some (.cells #[.slice none 0 0] 41 (0, 0))) := (hb2.block _ (Array.getElem?_eq_some_iff.1 HX1.out).1).trans HX1.out
      have HO2 : Hid (w2.ownsRow w.heap.size 38 2 v (O.getD []).length (cellsF (O.getD []))) := own_mono ho HB.out.size
      have HB2 : Hid (Below w.heap.size w w2) := HB.out.trans (hb2.mono HB.out.size)
      clear ho hb2 HC HX1
      go_wp2_with (first | (refine wpList_storeA Tryz.sizeOf41 rfl _ _ rfl (w.heap.size + 1) #[v] #[.slice none 0 0] 41 rfl rfl HZ2.out rfl rfl (disk_one HO2.out) ?_) | fail)
      exact bodyPost_ret (result14 HZ2.out rfl rfl rfl) rfl ⟨v, rfl, own_row HO2.out _ _ (own_not HO2.out HZ2.out (by decide)), ⟨HB2.out.os, HB2.out.tape, HB2.out.output, by rw [setRow_size]; exact HB2.out.size, fun k hk => (setRow_other w2 (w.heap.size + 1) k _ (by omega)).trans (HB2.out.block k hk)⟩⟩
end Go.Proofs.YtahpoemmlpbgdaaGreat
