/- slices.Clone, slices.IndexFunc and slices.DeleteFunc at replies (DeleteFunc by didNothing), walked. Made by program. -/
import Derived.Test.YtddmogggdckneaaOnceM
import Derived.Lib.SliceRun
namespace Go.Proofs.Ytddmogggdckneaa
open Go.RowKit
set_option linter.unusedVariables false
set_option linter.unusedSimpArgs false
set_option maxHeartbeats 2000000 in
set_option maxRecDepth 100000 in
theorem cloneRp_is {g off cap : Nat} (l : List RpL) (hlen : l.length ≤ 1048576) (w : World) (hf : RpAt w (some ⟨g, off, none⟩) g off l) :
    Calls Try.prog 48 #[.slice (some ⟨g, off, none⟩) l.length cap] w fun e w' => ∃ v, e = .returned v ∧ w'.ownsRow w.heap.size 87 9 v l.length (cellsRp l) ∧ Below w.heap.size w w' := by
  have HF : Hid (RpAt w (some ⟨g, off, none⟩) g off l) := hf
  clear hf
  have heq : ∀ (wx : World), (binOp .eql 47 (.slice (some ⟨g, off, none⟩) l.length cap) (.slice none 0 0)).run Try.prog wx = .ok (.bool false) wx := fun wx => Go.Lib.run_eql_slice_nil wx 47 87 _ _ _ _ _ Try.underlying47
  have hown := World.ownsRow_made (base := w.heap.size) (e := 87) (size := 9) w #[] 0 (Nat.le_refl _) (by unfold maxLen; omega) rfl
  have HFA : Hid (RpAt (w.alloc (Obj.cells #[] 87)) (some ⟨g, off, none⟩) g off l) := HF.out.kept ((Below.refl _ _).alloc (Nat.le_refl _) _)
  go_enter Try.func48, Try.ntmps48
  go_wp2_with (at_builtin; refine wpList_appendRp rfl _ _ rfl w.heap.size _ 0 [] rfl hown (some ⟨g, off, none⟩) g off cap l rfl HFA.out (fun h => by cases h) (by omega) (by simp) ?_)
  intro v' w8 hown' hgrow
  have hown2 : w8.ownsRow w.heap.size 87 9 v' l.length (cellsRp l) := by
    have := hown'
    simpa using this
  have hB : Below w.heap.size w w8 := ((Below.refl _ _).alloc (Nat.le_refl _) _).grown hgrow (by simp) (fun k h => by simp [Value.ownBlock] at h; omega)
  clear hown hown' hgrow
  go_wp2
  go_ret
  exact ⟨v', rfl, hown2, hB⟩
/-- Where the first stands that did nothing. -/
def idxD (l : List RpL) : Int := match l.findIdx? (fun r => !doneR r) with
  | none => -1
  | some i => (i : Int)
theorem idxD_none {l : List RpL} (h : ∀ r ∈ l, doneR r = true) : idxD l = -1 := by
  unfold idxD
  rw [List.findIdx?_eq_none_iff.2 (fun r hr => by simp [h r hr])]
theorem idxD_some {l : List RpL} {k : Nat} (hk : k < l.length) (h : doneR l[k] = false) (hp : ∀ j (hj : j < k), doneR (l[j]'(by omega)) = true) : idxD l = (k : Int) := by
  unfold idxD
  rw [List.findIdx?_eq_some_iff_getElem.2 ⟨hk, by simp [h], fun j hj => by simp [hp j hj]⟩]
set_option maxHeartbeats 2000000 in
set_option maxRecDepth 100000 in
theorem indexRp_is {a : Option Addr} {g off cap : Nat} (l : List RpL) (hlen : l.length ≤ 1048576) (w : World) (hf : RpAt w a g off l) :
    Calls Try.prog 76 #[.slice a l.length cap, .func (.func 49) #[] #[]] w fun e w' => e = .returned (.int .i64 (idxD l)) ∧ Below w.heap.size w w' := by
  have HF : Hid (RpAt w a g off l) := hf
  clear hf
  go_enter Try.func76, Try.ntmps76
  go_wp2
  go_loopw [8] (fun i wr => ∃ k : Nat, k ≤ l.length ∧ i = .int .i64 (k : Int) ∧ Hid (∀ j (hj : j < l.length), j < k → doneR l[j] = true) ∧ Below w.heap.size w wr)
    (fun i _ => l.length - (intOf i).toNat)
  case atStart => exact ⟨0, Nat.zero_le _, rfl, fun j hj h => by omega, Below.refl _ _⟩
  case round =>
    obtain ⟨k, hk, rfl, HA, hbel⟩ := hrel
    by_cases hlt : k < l.length
    · have hcc := (HF.out.kept hbel).2 k hlt
      have ea := HF.out.1 (by omega)
      subst ea
      obtain ⟨D, hD⟩ : ∃ D, D = doneR l[k] := ⟨_, rfl⟩
      have HD : Hid (doneR l[k] = D) := hD.symm
      obtain ⟨F0, hF0⟩ : ∃ F0, F0 = l[k].call := ⟨_, rfl⟩
      obtain ⟨F1, hF1⟩ : ∃ F1, F1 = l[k].idx := ⟨_, rfl⟩
      obtain ⟨F2, hF2⟩ : ∃ F2, F2 = l[k].op := ⟨_, rfl⟩
      obtain ⟨F3, hF3⟩ : ∃ F3, F3 = l[k].session := ⟨_, rfl⟩
      obtain ⟨F4, hF4⟩ : ∃ F4, F4 = l[k].seq := ⟨_, rfl⟩
      obtain ⟨F5, hF5⟩ : ∃ F5, F5 = l[k].key := ⟨_, rfl⟩
      obtain ⟨F6, hF6⟩ : ∃ F6, F6 = l[k].old := ⟨_, rfl⟩
      obtain ⟨F7, hF7⟩ : ∃ F7, F7 = l[k].value := ⟨_, rfl⟩
      obtain ⟨F8, hF8⟩ : ∃ F8, F8 = l[k].text := ⟨_, rfl⟩
      have HEL : Hid (l[k] = ⟨F0, F1, F2, F3, F4, F5, F6, F7, F8⟩) := by show _ = _; rw [hF0, hF1, hF2, hF3, hF4, hF5, hF6, hF7, hF8]
      simp only [← hF0, ← hF1, ← hF2, ← hF3, ← hF4, ← hF5, ← hF6, ← hF7, ← hF8] at hcc
      obtain ⟨c0, c1, c2, c3, c4, c5, c6, c7, c8⟩ := hcc
      have hrun := didNothing_is l[k] wr
      rw [← hD, HEL.out] at hrun
      have HRUN : Hid _ := hrun
      clear hrun hD hF0 hF1 hF2 hF3 hF4 hF5 hF6 hF7 hF8
      have hk0 : (0 : Int) ≤ (k : Int) := by omega
      have hk1 : (k : Int) < (l.length : Int) := by omega
      cases D
      · go_wp2_with (go_at_call 49; fail)
        refine Calls.mono HRUN.out ?_
        rintro e w1 ⟨rfl, hb1⟩
        have HX : Hid (idxD l = (k : Int)) := idxD_some hlt HD.out (fun j hj => HA.out j (by omega) hj)
        go_wp2
        go_ret
        exact ⟨by rw [HX.out]; rfl, hbel.trans (hb1.mono hbel.size)⟩
      · go_wp2_with (go_at_call 49; fail)
        refine Calls.mono HRUN.out ?_
        rintro e w1 ⟨rfl, hb1⟩
        go_wp2
        go_roundw
        case rel =>
          refine ⟨k + 1, by omega, by go_num, fun j hj hjk => ?_, hbel.trans (hb1.mono hbel.size)⟩
          by_cases e : j = k
          · subst e; exact HD.out
          · exact HA.out j hj (by omega)
        case measure => simp [intOf]; omega
    · have hk1 : ¬ (k : Int) < (l.length : Int) := by omega
      have HX : Hid (idxD l = -1) := idxD_none (fun r hr => by
        obtain ⟨j, hj, rfl⟩ := List.mem_iff_getElem.1 hr
        exact HA.out j hj (by omega))
      go_wp2
      go_ret
      exact ⟨by rw [HX.out]; rfl, hbel⟩
theorem below_setCells {N : Nat} {w0 : World} {b : Nat} (hb : N ≤ b) : ∀ (vs : List Value) (o : Nat) (w : World), Below N w0 w → Below N w0 (w.setCells b o vs)
  | [], _, _, h => h
  | v :: r, o, w, h => below_setCells hb r (o + 1) (w.setCell ⟨b, o, none⟩ v) (h.setCell hb v)
theorem zeroCells_len (z : Array Value) (n : Nat) : (Builtin.zeroCells z n).toList.length = n * z.size := by
  rw [Array.length_toList, size_zeroCells]
def zeroRp : Value := .agg #[.int .i64 0, .int .i64 0, .int .i64 0, .int .i64 0, .int .i64 0, .string ⟨#[]⟩, .string ⟨#[]⟩, .string ⟨#[]⟩, .string ⟨#[]⟩]
theorem zeroRp_one (n : Nat) : ∀ u ∈ (Builtin.zeroCells zeroRp.cells n).toList, u.oneCell' = true := by
  intro u hu
  simp only [Builtin.zeroCells, Array.toList_map, List.mem_map] at hu
  obtain ⟨i, _, rfl⟩ := hu
  have h : ∀ q, q < 9 → (zeroRp.cells[q]!).oneCell' = true := by
    intro q hq
    have h3 : q = 0 ∨ q = 1 ∨ q = 2 ∨ q = 3 ∨ q = 4 ∨ q = 5 ∨ q = 6 ∨ q = 7 ∨ q = 8 := by omega
    rcases h3 with rfl | rfl | rfl | rfl | rfl | rfl | rfl | rfl | rfl <;> rfl
  exact h _ (Nat.mod_lt _ (by decide))
theorem run_clearRp (w : World) (ty : TypeId) (b o n c : Nat) (hn : 0 < n) (hc : ∀ j, j < n * 9 → (w.cell? ⟨b, o + j, none⟩).isSome = true) (hf : ∀ j, j < n * 9 → w.frozen? ⟨b, o + j, none⟩ = false) :
    (Builtin.clear_ #[47] ty #[.slice (some ⟨b, o, none⟩) n c]).run Try.prog w = .ok (.tuple #[]) (w.setCells b o (Builtin.zeroCells zeroRp.cells n).toList) := by
  have hv : ∀ w, (zeroValue 87).run Try.prog w = .ok zeroRp w := fun w => by kernel_rfl
  have hl : (Builtin.zeroCells zeroRp.cells n).toList.length = n * 9 := zeroCells_len _ n
  have hst := run_storeCells_cells (P := Try.prog) b o (Builtin.zeroCells zeroRp.cells n).toList 0 w (by rw [hl]; simpa using hc) (by rw [hl]; simpa using hf) (zeroRp_one n)
  simp only [Nat.add_zero] at hst
  obtain ⟨m, rfl⟩ : ∃ m, n = m + 1 := ⟨n - 1, by omega⟩
  simp [Builtin.clear_, run_underlying Try.underlying47, hv, hst]
theorem filter_step_yes {l : List RpL} {j : Nat} (hj : j < l.length) (h : doneR l[j] = true) : (l.take (j + 1)).filter doneR = (l.take j).filter doneR ++ [l[j]] := by
  rw [List.take_succ_eq_append_getElem hj, List.filter_append]
  simp [h]
theorem filter_step_no {l : List RpL} {j : Nat} (hj : j < l.length) (h : doneR l[j] = false) : (l.take (j + 1)).filter doneR = (l.take j).filter doneR := by
  rw [List.take_succ_eq_append_getElem hj, List.filter_append]
  simp [h]
theorem rp_cut {w : World} {b : Nat} {pre : List RpL} (i : Nat) (hi : i ≤ pre.length) (h : RpAt w (some ⟨b, 0, none⟩) b 0 pre) (vs : List Value) : RpAt (w.setCells b (i * 9) vs) (some ⟨b, 0, none⟩) b 0 (pre.take i) := by
  refine ⟨fun _ => rfl, fun j hj => ?_⟩
  rw [List.length_take] at hj
  have hj' : j < pre.length := by omega
  have h0 := h.2 j hj'
  have out : ∀ q, q < 9 → ∀ v, w.cell? ⟨b, 0 + j * 9 + q, none⟩ = some v → (w.setCells b (i * 9) vs).cell? ⟨b, 0 + j * 9 + q, none⟩ = some v := fun q hq v hv => by
    rw [World.cell?_setCells_out b vs (i * 9) w ⟨b, 0 + j * 9 + q, none⟩ (fun _ _ => Or.inl (by show 0 + j * 9 + q < i * 9; omega))]
    exact hv
  rw [List.getElem_take]
  obtain ⟨h0, h1, h2, h3, h4, h5, h6, h7, h8⟩ := h0
  exact ⟨out 0 (by omega) _ h0, out 1 (by omega) _ h1, out 2 (by omega) _ h2, out 3 (by omega) _ h3, out 4 (by omega) _ h4, out 5 (by omega) _ h5, out 6 (by omega) _ h6, out 7 (by omega) _ h7, out 8 (by omega) _ h8⟩
/-- What DeleteFunc leaves: those that did something. -/
def DelPost (l : List RpL) (base : Nat) (w : World) (e : Ending) (w' : World) : Prop := ∃ a g cap, e = .returned (.slice a (l.filter doneR).length cap) ∧ RpAt w' a g 0 (l.filter doneR) ∧ Below base w w'
set_option maxHeartbeats 4000000 in
set_option maxRecDepth 100000 in
theorem deleteRp_is {v : Value} {base : Nat} (l : List RpL) (hlen : l.length ≤ 1048576) (w : World) (hown : w.ownsRow base 87 9 v l.length (cellsRp l)) (hbase : base ≤ w.heap.size) :
    Calls Try.prog 47 #[v, .func (.func 49) #[] #[]] w (DelPost l base w) := by
  by_cases hall : ∀ r ∈ l, doneR r = true
  · have hfl : l.filter doneR = l := List.filter_eq_self.2 hall
    have hix := idxD_none hall
    have HFL : Hid (l.filter doneR = l) := hfl
    obtain ⟨a, g, cap, rfl, hat⟩ := cellsRp_slice hown
    have hrun := indexRp_is (cap := cap) l hlen w hat
    rw [hix] at hrun
    have HRUN : Hid _ := hrun
    have HAT : Hid (RpAt w a g 0 l) := hat
    have HBS : Hid (base ≤ w.heap.size) := hbase
    clear hrun hat hown hix hfl hall
    go_enter Try.func47, Try.ntmps47
    go_wp2_with (go_at_call 76; fail)
    refine Calls.mono HRUN.out ?_
    rintro e w1 ⟨rfl, hb1⟩
    go_wp2
    go_ret
    exact ⟨a, g, cap, by rw [HFL.out]; rfl, by rw [HFL.out]; exact HAT.out.kept hb1, hb1.mono HBS.out⟩
  · obtain ⟨i0, hi0, hn0, hp0⟩ : ∃ i0, ∃ h : i0 < l.length, doneR l[i0] = false ∧ ∀ j (hj : j < i0), doneR (l[j]'(by omega)) = true := by
      have hex : ∃ r ∈ l, (fun r => !doneR r) r = true := by
        by_cases q : ∃ r ∈ l, (fun r => !doneR r) r = true
        · exact q
        · exfalso; apply hall; intro r hr
          cases c : doneR r
          · exact absurd ⟨r, hr, by simp [c]⟩ q
          · rfl
      have h1 := List.findIdx_lt_length_of_exists hex
      refine ⟨l.findIdx (fun r => !doneR r), h1, ?_, fun j hj => ?_⟩
      · have := List.findIdx_getElem (xs := l) (p := fun r => !doneR r) (w := h1)
        simpa using this
      · have := List.not_of_lt_findIdx hj
        simpa using this
    have hix := idxD_some hi0 hn0 hp0
    have hpos : 0 < l.length := by omega
    obtain ⟨b, cap, rfl, hcap, hb0⟩ : ∃ b cap, v = .slice (some ⟨b, 0, none⟩) l.length cap ∧ l.length ≤ cap ∧ base ≤ b := by
      rcases hown.2 with ⟨_, h⟩ | ⟨b, cap, cur, h1, h2, h3, h4, h5, h6⟩
      · omega
      · exact ⟨b, cap, h1, h4, h2⟩
    have hrun := indexRp_is (cap := cap) l hlen w (cellsRp_own rfl hown)
    rw [hix] at hrun
    have HRUN : Hid _ := hrun
    have HBS : Hid (base ≤ w.heap.size) := hbase
    have HB0 : Hid (base ≤ b) := hb0
    have hst0 : l.take i0 = (l.take (i0 + 1)).filter doneR := by
      rw [filter_step_no hi0 hn0]
      refine (List.filter_eq_self.2 ?_).symm
      intro r hr
      obtain ⟨j, hj, rfl⟩ := List.mem_take_iff_getElem.1 hr
      exact hp0 j (by omega)
    have HST0 : Hid (l.take i0 = (l.take (i0 + 1)).filter doneR) := hst0
    have HOWN : Hid (w.ownsRow base 87 9 (.slice (some ⟨b, 0, none⟩) l.length cap) l.length (cellsRp l)) := hown
    clear hrun hix hall hn0 hp0 hst0 hown
    go_enter Try.func47, Try.ntmps47
    go_wp2_with (go_at_call 76; fail)
    refine Calls.mono HRUN.out ?_
    rintro e w1 ⟨rfl, hb1⟩
    have HO1 : Hid (w1.ownsRow base 87 9 (.slice (some ⟨b, 0, none⟩) l.length cap) l.length (cellsRp l)) := own_kept HOWN.out hb1
    have HBE1 : Hid (Below base w w1) := hb1.mono HBS.out
    clear hb1 HRUN HOWN
    have k0 : (0 : Int) ≤ (i0 : Int) := by omega
    have k1 : ((i0 : Int) == -1) = false := by simp
    have k2 : decide ((i0 : Int) = -1) = false := by simp
    go_wp2
    go_loopw [5, 6] (fun x y wr => ∃ (i j : Nat) (pre : List RpL), i < j ∧ j ≤ l.length ∧ x = .int .i64 (i : Int) ∧ y = .int .i64 (j : Int) ∧ Hid (pre.length = l.length) ∧ Hid (pre.take i = (l.take j).filter doneR) ∧ Hid (pre.drop j = l.drop j) ∧
        Hid (wr.ownsRow base 87 9 (.slice (some ⟨b, 0, none⟩) l.length cap) l.length (cellsRp pre)) ∧ Hid (Below base w wr))
      (fun _ y _ => l.length - (intOf y).toNat)
    case atStart => exact ⟨i0, i0 + 1, l, by omega, by omega, rfl, by go_num, rfl, HST0.out, rfl, HO1.out, HBE1.out⟩
    case round =>
      obtain ⟨i, j, pre, hij, hj, rfl, rfl, HL, HT, HD, HO, HB⟩ := hrel
      clear HO1 HBE1 HST0 k0
      by_cases hlt : j < l.length
      · have hjp : j < pre.length := by rw [HL.out]; exact hlt
        have hel : pre[j] = l[j] := by
          have := HD.out
          have e1 : (pre.drop j)[0]? = (l.drop j)[0]? := by rw [this]
          rw [List.getElem?_drop, List.getElem?_drop, Nat.add_zero, List.getElem?_eq_getElem hjp, List.getElem?_eq_getElem hlt] at e1
          exact Option.some.inj e1
        have hcc := (cellsRp_own HL.out HO.out).2 j hjp
        rw [hel] at hcc
        simp only [Nat.zero_add] at hcc
        obtain ⟨D, hD⟩ : ∃ D, D = doneR l[j] := ⟨_, rfl⟩
        have HDN : Hid (doneR l[j] = D) := hD.symm
        obtain ⟨F0, hF0⟩ : ∃ F0, F0 = l[j].call := ⟨_, rfl⟩
        obtain ⟨F1, hF1⟩ : ∃ F1, F1 = l[j].idx := ⟨_, rfl⟩
        obtain ⟨F2, hF2⟩ : ∃ F2, F2 = l[j].op := ⟨_, rfl⟩
        obtain ⟨F3, hF3⟩ : ∃ F3, F3 = l[j].session := ⟨_, rfl⟩
        obtain ⟨F4, hF4⟩ : ∃ F4, F4 = l[j].seq := ⟨_, rfl⟩
        obtain ⟨F5, hF5⟩ : ∃ F5, F5 = l[j].key := ⟨_, rfl⟩
        obtain ⟨F6, hF6⟩ : ∃ F6, F6 = l[j].old := ⟨_, rfl⟩
        obtain ⟨F7, hF7⟩ : ∃ F7, F7 = l[j].value := ⟨_, rfl⟩
        obtain ⟨F8, hF8⟩ : ∃ F8, F8 = l[j].text := ⟨_, rfl⟩
        have HEL : Hid (l[j] = ⟨F0, F1, F2, F3, F4, F5, F6, F7, F8⟩) := by show _ = _; rw [hF0, hF1, hF2, hF3, hF4, hF5, hF6, hF7, hF8]
        simp only [← hF0, ← hF1, ← hF2, ← hF3, ← hF4, ← hF5, ← hF6, ← hF7, ← hF8] at hcc
        obtain ⟨c0, c1, c2, c3, c4, c5, c6, c7, c8⟩ := hcc
        have hrun := fun X => didNothing_is l[j] X
        rw [← hD, HEL.out] at hrun
        unfold rpV at hrun
        have HRUN : Hid (∀ X, _) := hrun
        clear hrun hD hel hjp hF0 hF1 hF2 hF3 hF4 hF5 hF6 hF7 hF8
        have hk0 : (0 : Int) ≤ (j : Int) := by omega
        have hk1 : (j : Int) < (l.length : Int) := by omega
        have hi1 : (0 : Int) ≤ (i : Int) := by omega
        have hi2 : (i : Int) < (l.length : Int) := by omega
        have hbw : b < wr.heap.size := (HO.out.lt b rfl).2
        cases D
        · go_wp2_with (go_at_call 49; fail)
          refine Calls.mono (HRUN.out _) ?_
          rintro e w2 ⟨rfl, hb2⟩
          have hB2 : Below wr.heap.size wr w2 := ((Below.refl _ _).alloc (Nat.le_refl _) _).trans (hb2.mono (by simp))
          have HO2 : Hid (w2.ownsRow base 87 9 (.slice (some ⟨b, 0, none⟩) l.length cap) l.length (cellsRp pre)) := own_kept HO.out hB2
          have HBE2 : Hid (Below base w w2) := HB.out.trans (hB2.mono (by omega))
          clear hb2 hB2 c0 c1 c2 c3 c4 c5 c6 c7 c8
          go_wp2
          go_roundw
          case rel =>
            refine ⟨i, j + 1, pre, by omega, by omega, rfl, by go_num, HL, ?_, ?_, HO2, HBE2⟩
            · show _ = _; rw [filter_step_no hlt HDN.out]; exact HT.out
            · show _ = _; rw [← List.drop_drop, ← List.drop_drop, HD.out]
          case measure => simp [intOf]; omega
        · go_wp2_with (go_at_call 49; fail)
          refine Calls.mono (HRUN.out _) ?_
          rintro e w2 ⟨rfl, hb2⟩
          have hB2 : Below wr.heap.size wr w2 := ((Below.refl _ _).alloc (Nat.le_refl _) _).trans (hb2.mono (by simp))
          have hrow2 := (hb2.block _ (by simp)).trans (heap_alloc_new wr (.cells #[.int .i64 F0, .int .i64 F1, .int .i64 F2, .int .i64 F3, .int .i64 F4, .string F5, .string F6, .string F7, .string F8] 87))
          have hown2 : w2.ownsRow base 87 9 (.slice (some ⟨b, 0, none⟩) l.length cap) l.length (cellsRp pre) := own_kept HO.out hB2
          have hbe2 : Below base w w2 := HB.out.trans (hB2.mono (by omega))
          have r0 := cell_of_row _ _ 0 _ _ _ hrow2
          have r1 := cell_of_row _ _ 1 _ _ _ hrow2
          have r2 := cell_of_row _ _ 2 _ _ _ hrow2
          have r3 := cell_of_row _ _ 3 _ _ _ hrow2
          have r4 := cell_of_row _ _ 4 _ _ _ hrow2
          have r5 := cell_of_row _ _ 5 _ _ _ hrow2
          have r6 := cell_of_row _ _ 6 _ _ _ hrow2
          have r7 := cell_of_row _ _ 7 _ _ _ hrow2
          have r8 := cell_of_row _ _ 8 _ _ _ hrow2
          simp at r0 r1 r2 r3 r4 r5 r6 r7 r8
          have hip : i < pre.length := by rw [HL.out]; omega
          have hf0 := hown2.frozenAt (i * 9)
          have hf1 := hown2.frozenAt (i * 9 + 1)
          have hf2 := hown2.frozenAt (i * 9 + 2)
          have hf3 := hown2.frozenAt (i * 9 + 3)
          have hf4 := hown2.frozenAt (i * 9 + 4)
          have hf5 := hown2.frozenAt (i * 9 + 5)
          have hf6 := hown2.frozenAt (i * 9 + 6)
          have hf7 := hown2.frozenAt (i * 9 + 7)
          have hf8 := hown2.frozenAt (i * 9 + 8)
          obtain ⟨u0, hu0⟩ : ∃ u0, w2.cell? ⟨b, i * 9, none⟩ = some u0 := by
            rw [hown2.cellAt (i * 9) (by omega)]
            exact ⟨_, (cellsRp_at pre i hip).1⟩
          obtain ⟨u1, hu1⟩ : ∃ u1, w2.cell? ⟨b, i * 9 + 1, none⟩ = some u1 := by
            rw [hown2.cellAt (i * 9 + 1) (by omega)]
            exact ⟨_, (cellsRp_at pre i hip).2.1⟩
          obtain ⟨u2, hu2⟩ : ∃ u2, w2.cell? ⟨b, i * 9 + 2, none⟩ = some u2 := by
            rw [hown2.cellAt (i * 9 + 2) (by omega)]
            exact ⟨_, (cellsRp_at pre i hip).2.2.1⟩
          obtain ⟨u3, hu3⟩ : ∃ u3, w2.cell? ⟨b, i * 9 + 3, none⟩ = some u3 := by
            rw [hown2.cellAt (i * 9 + 3) (by omega)]
            exact ⟨_, (cellsRp_at pre i hip).2.2.2.1⟩
          obtain ⟨u4, hu4⟩ : ∃ u4, w2.cell? ⟨b, i * 9 + 4, none⟩ = some u4 := by
            rw [hown2.cellAt (i * 9 + 4) (by omega)]
            exact ⟨_, (cellsRp_at pre i hip).2.2.2.2.1⟩
          obtain ⟨u5, hu5⟩ : ∃ u5, w2.cell? ⟨b, i * 9 + 5, none⟩ = some u5 := by
            rw [hown2.cellAt (i * 9 + 5) (by omega)]
            exact ⟨_, (cellsRp_at pre i hip).2.2.2.2.2.1⟩
          obtain ⟨u6, hu6⟩ : ∃ u6, w2.cell? ⟨b, i * 9 + 6, none⟩ = some u6 := by
            rw [hown2.cellAt (i * 9 + 6) (by omega)]
            exact ⟨_, (cellsRp_at pre i hip).2.2.2.2.2.2.1⟩
          obtain ⟨u7, hu7⟩ : ∃ u7, w2.cell? ⟨b, i * 9 + 7, none⟩ = some u7 := by
            rw [hown2.cellAt (i * 9 + 7) (by omega)]
            exact ⟨_, (cellsRp_at pre i hip).2.2.2.2.2.2.2.1⟩
          obtain ⟨u8, hu8⟩ : ∃ u8, w2.cell? ⟨b, i * 9 + 8, none⟩ = some u8 := by
            rw [hown2.cellAt (i * 9 + 8) (by omega)]
            exact ⟨_, (cellsRp_at pre i hip).2.2.2.2.2.2.2.2⟩
          have hst := (((((((((hown2.stored (i * 9) (.int .i64 F0)).1.stored (i * 9 + 1) (.int .i64 F1)).1.stored (i * 9 + 2) (.int .i64 F2)).1.stored (i * 9 + 3) (.int .i64 F3)).1.stored (i * 9 + 4) (.int .i64 F4)).1.stored (i * 9 + 5) (.string F5)).1.stored (i * 9 + 6) (.string F6)).1.stored (i * 9 + 7) (.string F7)).1.stored (i * 9 + 8) (.string F8))
          rw [← cellsRp_set pre i ⟨F0, F1, F2, F3, F4, F5, F6, F7, F8⟩] at hst
          have HST : Hid (_ ∧ _) := hst
          have HBE2 : Hid (Below base w w2) := hbe2
          have hne : b ≠ wr.heap.size := by omega
          have hne2 : wr.heap.size ≠ b := by omega
          clear hst hb2 hB2 hown2 hbe2 hrow2 c0 c1 c2 c3 c4 c5 c6 c7 c8
          go_wp2
          go_roundw
          case rel =>
            refine ⟨i + 1, j + 1, pre.set i ⟨F0, F1, F2, F3, F4, F5, F6, F7, F8⟩, by omega, by omega, by go_num, by go_num, ?_, ?_, ?_, HST.out.1, ?_⟩
            · show _ = _; rw [List.length_set]; exact HL.out
            · show _ = _
              rw [filter_step_yes hlt HDN.out, ← HT.out, HEL.out, List.take_succ_eq_append_getElem (by rw [List.length_set]; omega), List.take_set_of_le (Nat.le_refl _)]
              simp
            · show _ = _
              rw [List.drop_set_of_lt (by omega), ← List.drop_drop, ← List.drop_drop, HD.out]
            · exact (((((((((HBE2.out.setCell HB0.out _).setCell HB0.out _).setCell HB0.out _).setCell HB0.out _).setCell HB0.out _).setCell HB0.out _).setCell HB0.out _).setCell HB0.out _).setCell HB0.out _)
          case measure => simp [intOf]; omega
      · have hjl : j = l.length := by omega
        subst hjl
        have hk1 : ¬ (l.length : Int) < (l.length : Int) := by omega
        have hi1 : (0 : Int) ≤ (i : Int) := by omega
        have hi2 : (i : Int) ≤ (l.length : Int) := by omega
        have hi3 : (l.length : Int) ≤ (cap : Int) := by omega
        have hi4 : (i : Int) ≤ (cap : Int) := by omega
        have hz2 : ¬ cap ≤ i := by omega
        have hcl : ∀ ty, (Builtin.clear_ #[47] ty #[.slice (some ⟨b, i * 9, none⟩) (l.length - i) (cap - i)]).run Try.prog wr = .ok (.tuple #[]) (wr.setCells b (i * 9) (Builtin.zeroCells zeroRp.cells (l.length - i)).toList) := fun ty =>
          run_clearRp wr ty b (i * 9) (l.length - i) (cap - i) (by omega) (fun q hq => by
            rw [HO.out.cellAt (i * 9 + q) (by omega), List.getElem?_eq_getElem (by rw [cellsRp_len, HL.out]; omega)]; rfl) (fun q hq => HO.out.frozenAt (i * 9 + q))
        obtain ⟨V, hV⟩ : ∃ V, V = (Builtin.zeroCells zeroRp.cells (l.length - i)).toList := ⟨_, rfl⟩
        rw [← hV] at hcl
        have HRES : Hid (RpAt (wr.setCells b (i * 9) V) (some ⟨b, 0, none⟩) b 0 (l.filter doneR)) := by
          have h := rp_cut i (by rw [HL.out]; omega) (cellsRp_own HL.out HO.out) V
          rw [HT.out, List.take_of_length_le (Nat.le_refl _)] at h
          exact h
        have HLEN : Hid ((l.filter doneR).length = i) := by
          show _ = _
          have := HT.out
          rw [List.take_of_length_le (Nat.le_refl l.length)] at this
          rw [← this, List.length_take, HL.out]
          omega
        have HBE : Hid (Below base w (wr.setCells b (i * 9) V)) := below_setCells HB0.out V _ wr HB.out
        clear hV
        go_wp2
        go_ret
        exact ⟨_, b, cap, by rw [HLEN.out]; rfl, HRES.out, HBE.out⟩
end Go.Proofs.Ytddmogggdckneaa
