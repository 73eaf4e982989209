/- The program's firsts of watchers of Entries: a map of first places. -/
import Derived.Test.YtddmogggdckneaaWatAp
import Derived.Test.YtddmogggdckneaaSpecSame
import Derived.Test.YtddmogggdckneaaMathW
import Derived.Maps.Own
import Derived.Maps.OwnSet
namespace Go.Proofs.Ytddmogggdckneaa
open Go.RowKit Go.Maps
set_option linter.unusedVariables false
set_option linter.unusedSimpArgs false
theorem key3 : Keyed Try.prog 3 := int_keyed Try.underlying3
theorem zer3 (w : World) : (zeroValue 3).run Try.prog w = .ok (.int .i64 0) w := by kernel_rfl
def waPair (r : WaL) : Int × (Int × Int × ByteArray) := (r.thing, (r.eterm, r.ekind, r.edata))
def waPairs (l : List WaL) : List (Int × (Int × Int × ByteArray)) := l.map waPair
theorem waPairs_waS (l : List ApL) : waPairs (waS l) = apPairs l := by simp [waPairs, waS, apPairs, waPair, waOf, apPair, Function.comp_def]
abbrev kInt (n : Int) : Lit := .int .i64 n
theorem kInt_inj : ∀ a b, kInt a = kInt b → a = b := fun a b h => by simpa [kInt] using h
theorem kInt_key : ∀ a, Go.WideAt.IsKeyLit (kInt a) := fun a => by simp [kInt, Go.WideAt.IsKeyLit]
theorem k_wf {k n : Nat} (h : k ≤ n) (hn : n ≤ 1048576) : (Lit.int .i64 (k : Int)).wf = true := by
  simp [Lit.wf, IntKind.min, IntKind.max, IntKind.signed, IntKind.bits]; omega
set_option maxHeartbeats 2000000 in
set_option maxRecDepth 100000 in
theorem firstsWa_is {g off cap : Nat} {a : Option Addr} (l : List WaL) (hlen : l.length ≤ 1048576) (hwf : ∀ r ∈ l, (Lit.int .i64 r.thing).wf = true) (w : World) (hf : WaAt w a g off l) :
    Calls Try.prog 73 #[.slice a l.length cap] w fun e w' => e = .returned (.map (some w.heap.size)) ∧ (∃ n D, w'.ownsMap Try.prog 3 (plainElem (H := Unit) Try.prog 3) w.heap.size n D ∧ Watch.Told kInt (waPairs l) l.length D) ∧ Below w.heap.size w w' := by
  have HF : Hid (WaAt w a g off l) := hf
  have HWF : Hid (∀ r ∈ l, (Lit.int .i64 r.thing).wf = true) := hwf
  clear hf hwf
  have hmm := @run_makeMap Try.prog
  go_enter Try.func73, Try.ntmps73
  go_wp2
  go_loopw [10] (fun i wr => ∃ (k n : Nat) (D : DataW Unit), k ≤ l.length ∧ n ≤ k ∧ i = .int .i64 (k : Int) ∧ Hid (wr.ownsMap Try.prog 3 (plainElem Try.prog 3) w.heap.size n D) ∧ Hid (Watch.Told kInt (waPairs l) k D) ∧ Below w.heap.size w wr)
    (fun i _ => l.length - (intOf i).toNat)
  case atStart => exact ⟨0, 0, .map [], Nat.zero_le _, Nat.zero_le _, rfl, World.ownsMap_made _ _ _ _, Watch.told_nil _ _, (Below.refl _ _).alloc (Nat.le_refl _) _⟩
  case round =>
    obtain ⟨k, n, D, hk, hn, rfl, HO, HT, hbel⟩ := hrel
    by_cases hlt : k < l.length
    · obtain ⟨c0, -, -, -⟩ := (HF.out.kept hbel).2 k hlt
      have ea := HF.out.1 (by omega)
      subst ea
      obtain ⟨F0, hF0⟩ : ∃ F0, F0 = l[k].thing := ⟨_, rfl⟩
      have hwf0 := HWF.out _ (List.getElem_mem hlt)
      have HP1 : Hid (∃ h : k < (waPairs l).length, (waPairs l)[k].1 = F0) := ⟨by unfold waPairs; simpa using hlt, by rw [hF0]; simp [waPairs, waPair]⟩
      rw [← hF0] at c0 hwf0
      clear hF0
      have hkey : keyOf Try.prog 3 (.int .i64 F0) = some (.int .i64 F0) := keyOf_int_mk Try.underlying3 hwf0
      have HIM : Hid (IsMap D) := HO.out.isMap
      have hk0 : (0 : Int) ≤ (k : Int) := by omega
      have hk1 : (k : Int) < (l.length : Int) := by omega
      obtain ⟨B, hB⟩ : ∃ B, Maps.has D (kInt F0) = B := ⟨_, rfl⟩
      have HB : Hid (B = ((waPairs l).take k).any fun p => p.1 == F0) := by
        show _ = _
        rw [← hB, HT.out.has]
      clear hwf0
      have HK : Hid (keyOf Try.prog 3 (.int .i64 F0) = some (.int .i64 F0)) := hkey
      cases B
      · have HT2 : Hid (Watch.Told kInt (waPairs l) (k + 1) (D.put (kInt F0) (.lit (.int .i64 (k : Int))))) := by
          obtain ⟨h, e⟩ := HP1.out
          have := Watch.told_put kInt_inj kInt_key HIM.out HT.out h (by rw [e]; exact HB.out.symm)
          rw [e] at this
          exact this
        go_wp2_with (first
          | (at_lookup; refine wpList_lookup_own_ok_int _ rfl _ _ 123 rfl 3 3 .i64 key3 Try.underlying123 Try.underlying3 (zer3 _) w.heap.size n D rfl HO.out _ _ rfl hkey ?_; intro c hat hwc; rw [hB])
          | (at_mapUpdate; refine wpList_mapUpdate_own _ rfl _ _ _ 123 rfl 3 3 key3 Try.underlying123 _ w.heap.size n D rfl HO.out (by unfold maxLen; omega) _ _ _ rfl rfl hkey _ [] (plainElem_int Try.underlying3 (k_wf hk hlen)) ?_; intro w1 hown1 hgrow1)
          | fail)
        go_roundw
        case rel => exact ⟨k + 1, n + 1, _, by omega, by omega, by go_num, hown1, HT2.out, hbel.grown hgrow1 hbel.size (fun j hj => by cases hj; exact Nat.le_refl _)⟩
        case measure => simp [intOf]; omega
      · have HT2 : Hid (Watch.Told kInt (waPairs l) (k + 1) D) := by
          obtain ⟨h, e⟩ := HP1.out
          exact Watch.told_seen HT.out h (by rw [e]; exact HB.out.symm)
        go_wp2_with (first
          | (at_lookup; refine wpList_lookup_own_ok_int _ rfl _ _ 123 rfl 3 3 .i64 key3 Try.underlying123 Try.underlying3 (zer3 _) w.heap.size n D rfl HO.out _ _ rfl hkey ?_; intro c hat hwc; rw [hB])
          | fail)
        go_roundw
        case rel => exact ⟨k + 1, n, D, by omega, by omega, by go_num, HO.out, HT2.out, hbel⟩
        case measure => simp [intOf]; omega
    · have hkl : k = l.length := by omega
      subst hkl
      have hk1 : ¬ (l.length : Int) < (l.length : Int) := by omega
      go_wp2
      go_ret
      exact ⟨rfl, ⟨n, D, HO.out, HT.out⟩, hbel⟩
end Go.Proofs.Ytddmogggdckneaa
