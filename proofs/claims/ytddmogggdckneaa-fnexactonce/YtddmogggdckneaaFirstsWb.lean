/- The program's firsts and agree of watchers of replies, walked. -/
import Derived.Test.YtddmogggdckneaaWatRp
import Derived.Test.YtddmogggdckneaaKeyOn
import Derived.Test.YtddmogggdckneaaAgreeWa
namespace Go.Proofs.Ytddmogggdckneaa
open Go.RowKit Go.Maps
set_option linter.unusedVariables false
set_option linter.unusedSimpArgs false
def wbPair (r : WbL) : (Int × Int) × ByteArray := ((r.session, r.seq), r.text)
def wbPairs (l : List WbL) : List ((Int × Int) × ByteArray) := l.map wbPair
def okWb (r : WbL) : Prop := (Lit.int .i64 r.session).wf = true ∧ (Lit.int .i64 r.seq).wf = true
set_option maxHeartbeats 2000000 in
set_option maxRecDepth 100000 in
theorem firstsWb_is {g off cap : Nat} {a : Option Addr} (l : List WbL) (hlen : l.length ≤ 1048576) (hwf : ∀ r ∈ l, okWb r) (w : World) (hf : WbAt w a g off l) :
    Calls Try.prog 77 #[.slice a l.length cap] w fun e w' => e = .returned (.map (some w.heap.size)) ∧ (∃ n D, w'.ownsMap Try.prog 97 (plainElem (H := Unit) Try.prog 3) w.heap.size n D ∧ Watch.ToldP okOn kOn (wbPairs l) l.length D) ∧ Below w.heap.size w w' := by
  have HF : Hid (WbAt w a g off l) := hf
  have HWF : Hid (∀ r ∈ l, okWb r) := hwf
  clear hf hwf
  have hmm := @run_makeMap Try.prog
  go_enter Try.func77, Try.ntmps77
  go_wp2
  go_loopw [10] (fun i wr => ∃ (k n : Nat) (D : DataW Unit), k ≤ l.length ∧ n ≤ k ∧ i = .int .i64 (k : Int) ∧ Hid (wr.ownsMap Try.prog 97 (plainElem Try.prog 3) w.heap.size n D) ∧ Hid (Watch.ToldP okOn kOn (wbPairs l) k D) ∧ Below w.heap.size w wr)
    (fun i _ => l.length - (intOf i).toNat)
  case atStart => exact ⟨0, 0, .map [], Nat.zero_le _, Nat.zero_le _, rfl, World.ownsMap_made _ _ _ _, Watch.toldP_nil _ _ _, (Below.refl _ _).alloc (Nat.le_refl _) _⟩
  case round =>
    obtain ⟨k, n, D, hk, hn, rfl, HO, HT, hbel⟩ := hrel
    by_cases hlt : k < l.length
    · obtain ⟨c0, c1, -⟩ := (HF.out.kept hbel).2 k hlt
      have ea := HF.out.1 (by omega)
      subst ea
      obtain ⟨F0, hF0⟩ : ∃ F0, F0 = l[k].session := ⟨_, rfl⟩
      obtain ⟨F1, hF1⟩ : ∃ F1, F1 = l[k].seq := ⟨_, rfl⟩
      have hwf0 := HWF.out _ (List.getElem_mem hlt)
      unfold okWb at hwf0
      have HP1 : Hid (∃ h : k < (wbPairs l).length, (wbPairs l)[k].1 = (F0, F1)) := ⟨by unfold wbPairs; simpa using hlt, by rw [hF0, hF1]; simp [wbPairs, wbPair]⟩
      rw [← hF0, ← hF1] at hwf0
      rw [← hF0] at c0
      rw [← hF1] at c1
      clear hF0 hF1
      have hkey : keyOf Try.prog 97 (.agg #[.int .i64 F0, .int .i64 F1]) = some (kOn (F0, F1)) := keyOf97 F0 F1 hwf0.1 hwf0.2
      have HOK : Hid (okOn (F0, F1)) := hwf0
      have HALL : Hid (∀ i (hi : i < (wbPairs l).length), okOn (wbPairs l)[i].1) := fun i hi => by
        have hi' : i < l.length := by unfold wbPairs at hi; simpa using hi
        have := HWF.out _ (List.getElem_mem hi')
        simpa [wbPairs, wbPair, okOn, okWb] using this
      have HIM : Hid (IsMap D) := HO.out.isMap
      have hk0 : (0 : Int) ≤ (k : Int) := by omega
      have hk1 : (k : Int) < (l.length : Int) := by omega
      obtain ⟨B, hB⟩ : ∃ B, Maps.has D (kOn (F0, F1)) = B := ⟨_, rfl⟩
      have HB : Hid (B = ((wbPairs l).take k).any fun p => @BEq.beq (Int × Int) instBEqOfDecidableEq p.1 (F0, F1)) := by
        show _ = _
        rw [← hB, HT.out.has _ HOK.out]
      clear hwf0
      cases B
      · have HT2 : Hid (Watch.ToldP okOn kOn (wbPairs l) (k + 1) (D.put (kOn (F0, F1)) (.lit (.int .i64 (k : Int))))) := by
          obtain ⟨h, e⟩ := HP1.out
          have := Watch.toldP_put kOn_inj kOn_key HALL.out HIM.out HT.out h (by rw [e]; exact HB.out.symm)
          rw [e] at this
          exact this
        go_wp2_with (first
          | (at_lookup; refine wpList_lookup_own_ok_int _ rfl _ _ 133 rfl 97 3 .i64 key97 Try.underlying133 Try.underlying3 (zer3 _) w.heap.size n D rfl HO.out _ _ rfl hkey ?_; intro c hat hwc; rw [hB])
          | (at_mapUpdate; refine wpList_mapUpdate_own _ rfl _ _ _ 133 rfl 97 3 key97 Try.underlying133 _ w.heap.size n D rfl HO.out (by unfold maxLen; omega) _ _ _ rfl rfl hkey _ [] (plainElem_int Try.underlying3 (k_wf hk hlen)) ?_; intro w1 hown1 hgrow1)
          | fail)
        go_roundw
        case rel => exact ⟨k + 1, n + 1, _, by omega, by omega, by go_num, hown1, HT2.out, hbel.grown hgrow1 hbel.size (fun j hj => by cases hj; exact Nat.le_refl _)⟩
        case measure => simp [intOf]; omega
      · have HT2 : Hid (Watch.ToldP okOn kOn (wbPairs l) (k + 1) D) := by
          obtain ⟨h, e⟩ := HP1.out
          exact Watch.toldP_seen HT.out h (by rw [e]; exact HB.out.symm)
        go_wp2_with (first
          | (at_lookup; refine wpList_lookup_own_ok_int _ rfl _ _ 133 rfl 97 3 .i64 key97 Try.underlying133 Try.underlying3 (zer3 _) w.heap.size n D rfl HO.out _ _ rfl hkey ?_; intro c hat hwc; rw [hB])
          | fail)
        go_roundw
        case rel => exact ⟨k + 1, n, D, by omega, by omega, by go_num, HO.out, HT2.out, hbel⟩
        case measure => simp [intOf]; omega
    · have hkl : k = l.length := by omega
      subst hkl
      have hk1 : ¬ (l.length : Int) < (l.length : Int) := by omega
      go_wp2
      go_ret
      exact ⟨rfl, ⟨n, D, HO.out, HT.out⟩, hbel⟩
end Go.Proofs.Ytddmogggdckneaa
