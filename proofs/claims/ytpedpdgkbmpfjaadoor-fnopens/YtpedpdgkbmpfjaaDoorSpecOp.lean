/- The specification's l15Next and l15Op, walked. -/
import Derived.Test.YtpedpdgkbmpfjaaDoorSpecRead
import Derived.Test.YtpedpdgkbmpfjaaDoorImplPick
import Derived.Test.YtpedpdgkbmpfjaaDoorImplOps
namespace Go.Proofs.YtpedpdgkbmpfjaaDoor
open Go.RowKit
open Acts (decS skey sval nkey kkey sess parse Enc get nextN least pickL findS)
set_option linter.unusedVariables false
set_option linter.unusedSimpArgs false
theorem at_get {m : List PairL} (ha : Maps.Asc m) (K : ByteArray) : (∃ v k, ∃ hk : k < m.length, get m K = some v ∧ m[k].value = v ∧ AtK m K (k : Int)) ∨ (get m K = none ∧ AtK m K (-1)) := by
  cases hg : get m K with
  | none => exact Or.inr ⟨rfl, Or.inr ⟨rfl, fun i hi => Acts.get_none hg _ (List.getElem_mem hi)⟩⟩
  | some v =>
    obtain ⟨k, hk, e⟩ := List.mem_iff_getElem.1 (Acts.get_mem hg)
    refine Or.inl ⟨v, k, hk, rfl, by rw [e], Or.inl ⟨k, hk, rfl, by rw [e], fun i hi he => ?_⟩⟩
    have := Maps.asc_at PairL.key ha hk hi
    rw [he, e, Batches.lt_irrefl] at this
    cases this
set_option maxHeartbeats 1000000 in
set_option maxRecDepth 100000 in
theorem specNext_is {T : Nat} {a : Option Addr} {g off cap : Nat} (m : List PairL) (hG : Acts.Good T m) (hT : T ≤ 30) (w : World) (hf : PairAt w a g off m) :
    Calls Tryd.prog 51 #[.slice a m.length cap] w fun e w' => e = .returned (.tuple #[.int .i64 (nextN m : Int), .bool true]) ∧ Below w.heap.size w w' := by
  obtain ⟨n1, n2, n3⟩ := Acts.nextN_in (by omega) hG.enc
  have hl := hG.len
  have hml : m.length ≤ 2097152 := by omega
  have HF : Hid (PairAt w a g off m) := hf
  rcases at_get hG.asc nkey with ⟨v, k, hk, hg, hv, hat⟩ | ⟨hg, hat⟩
  · have e1 : v = decS (nextN m) := by
      rcases n3 with ⟨e, _⟩ | e
      · rw [e] at hg; cases hg
      · rw [e] at hg; exact (Option.some.inj hg).symm
    have HA : Hid (∀ W, PairAt W a g off m → Calls Tryd.prog 47 #[.slice a m.length cap, .string ⟨#[110]⟩] W fun e w' => e = .returned (.int .i64 (k : Int)) ∧ W = w') := fun W h => l06At_is m hml nkey _ hat W h
    have HV : Hid (∀ W, PairAt W a g off m → Calls Tryd.prog 48 #[.slice a m.length cap, .string ⟨#[110]⟩] W fun e w' => e = .returned (.string v) ∧ W = w') := fun W h => by rw [← hv]; exact l06Get_is m hml nkey k hk hat W h
    have HD : Hid (∀ W, Calls Tryd.prog 49 #[.string v] W fun e w' => e = .returned (.tuple #[.int .i64 (nextN m : Int), .bool true]) ∧ Below W.heap.size W w') := fun W => by rw [e1]; exact specRD_dec _ (by omega) W
    have k0 : ¬ (k : Int) < 0 := by omega
    obtain ⟨N, hN⟩ : ∃ N : Int, N = (nextN m : Int) := ⟨_, rfl⟩
    rw [← hN] at HD ⊢
    clear hf e1 hg hv hat n1 n2 n3 hN hG
    go_enter Tryd.func51, Tryd.ntmps51
    go_wp2_with (first | (go_at_call 47; refine Calls.mono (HA.out _ HF.out) ?_; rintro e w1 ⟨rfl, rfl⟩) | (go_at_call 48; refine Calls.mono (HV.out _ HF.out) ?_; rintro e w2 ⟨rfl, rfl⟩) | (go_at_call 49; refine Calls.mono (HD.out _) ?_; rintro e w3 ⟨rfl, hb3⟩))
    go_ret2
    exact ⟨rfl, hb3⟩
  · have e1 : nextN m = 1 := by
      rcases n3 with ⟨_, e⟩ | e
      · exact e
      · rw [e] at hg; cases hg
    have HA : Hid (∀ W, PairAt W a g off m → Calls Tryd.prog 47 #[.slice a m.length cap, .string ⟨#[110]⟩] W fun e w' => e = .returned (.int .i64 (-1)) ∧ W = w') := fun W h => l06At_is m hml nkey _ hat W h
    rw [e1]
    clear hf e1 hg hat n1 n2 n3 hG
    go_enter Tryd.func51, Tryd.ntmps51
    go_wp2_with (first | (go_at_call 47; refine Calls.mono (HA.out _ HF.out) ?_; rintro e w1 ⟨rfl, rfl⟩) | fail)
    go_ret2
    exact ⟨rfl, Below.refl _ _⟩
set_option maxHeartbeats 1000000 in
set_option maxRecDepth 100000 in
theorem l06Get_no {a : Option Addr} {g off cap : Nat} (l : List PairL) (hlen : l.length ≤ 2097152) (K : ByteArray) (hx : AtK l K (-1)) (w : World) (hf : PairAt w a g off l) :
    Calls Tryd.prog 48 #[.slice a l.length cap, .string K] w fun e w' => e = .returned (.string ⟨#[]⟩) ∧ w = w' := by
  have HF : Hid (PairAt w a g off l) := hf
  have HX : Hid (AtK l K (-1)) := hx
  clear hf hx
  go_enter Tryd.func48, Tryd.ntmps48
  go_wp2_with (go_at_call 47; refine (l06At_is l hlen K _ HX.out _ HF.out).mono ?_; rintro e w1 ⟨rfl, rfl⟩)
  go_ret
  exact ⟨rfl, rfl⟩
/-- A state that is answered: it lies somewhere. -/
def OutM (m : List PairL) (r : ByteArray) (w : World) (e : Ending) (w' : World) : Prop := ∃ a g off cap, e = .returned (.tuple #[.slice a m.length cap, .string r]) ∧ PairAt w' a g off m ∧ Below w.heap.size w w'
set_option maxHeartbeats 2000000 in
set_option maxRecDepth 100000 in
theorem specOp_is {a : Option Addr} {g off cap : Nat} (m : List PairL) (c : CmdL) (ha : Maps.Asc m) (hl : m.length ≤ 190) (hk : c.key.size ≤ 1000) (hvz : ∀ v, get m (kkey c.key) = some v → v.size ≤ 1000) (hop : c.op = 2 ∨ c.op = 3 ∨ c.op = 4 ∨ c.op = 5) (w : World) (hf : PairAt w a g off m) :
    Calls Tryd.prog 27 #[.slice a m.length cap, cmdV c] w (OutM (Acts.opM m c) (Acts.opR m c) w) := by
  have hml : m.length ≤ 2097152 := by omega
  have HF : Hid (PairAt w a g off m) := hf
  have HFX : Hid (∀ W, Below w.heap.size w W → PairAt W a g off m) := fun W h => hf.kept h
  have HPUT : Hid (∀ X, ∀ W, Below w.heap.size w W → Calls Tryd.prog 28 #[.slice a m.length cap, .string (kkey c.key), .string X] W fun e w' => ∃ v, e = .returned v ∧ w'.ownsRow W.heap.size 48 2 v (Maps.putK m (kkey c.key) X).length (cellsPair (Maps.putK m (kkey c.key) X)) ∧ Below W.heap.size W w') := fun X W h => l06Put_is m (by omega) _ X W (hf.kept h)
  have HCUT : Hid (∀ W, Below w.heap.size w W → Calls Tryd.prog 52 #[.slice a m.length cap, .string (kkey c.key)] W fun e w' => ∃ v, e = .returned v ∧ w'.ownsRow W.heap.size 48 2 v (Maps.cutK m (kkey c.key)).length (cellsPair (Maps.cutK m (kkey c.key))) ∧ Below W.heap.size W w') := fun W h => l06Cut_is m (by omega) _ W (hf.kept h)
  obtain ⟨x, G, h, HA, HV, hx, HG⟩ : ∃ (x : Int) (G : ByteArray) (h : Bool), Hid (∀ W, Below w.heap.size w W → Calls Tryd.prog 47 #[.slice a m.length cap, .string (kkey c.key)] W fun e w' => e = .returned (.int .i64 x) ∧ W = w') ∧ Hid (∀ W, Below w.heap.size w W → Calls Tryd.prog 48 #[.slice a m.length cap, .string (kkey c.key)] W fun e w' => e = .returned (.string G) ∧ W = w') ∧ ((h = true → 0 ≤ x) ∧ (h = false → ¬ 0 ≤ x)) ∧ Hid ((get m (kkey c.key)).isSome = h ∧ (get m (kkey c.key)).getD ⟨#[]⟩ = G ∧ (h = true → get m (kkey c.key) = some G) ∧ (h = false → get m (kkey c.key) = none) ∧ G.size ≤ 1000) := by
    rcases at_get ha (kkey c.key) with ⟨v, k, hk, hg, hv, hat⟩ | ⟨hg, hat⟩
    · exact ⟨(k : Int), v, true, fun W h => l06At_is m hml _ _ hat W (hf.kept h), fun W h => by rw [← hv]; exact l06Get_is m hml _ k hk hat W (hf.kept h), ⟨fun _ => (by omega), fun h => (by cases h)⟩, (by rw [hg]; exact ⟨rfl, rfl, fun _ => rfl, fun h => (by cases h), hvz v hg⟩)⟩
    · exact ⟨-1, ⟨#[]⟩, false, fun W h => l06At_is m hml _ _ hat W (hf.kept h), fun W h => l06Get_no m hml _ hat W (hf.kept h), ⟨fun h => (by cases h), fun _ => (by omega)⟩, (by rw [hg]; exact ⟨rfl, rfl, fun h => (by cases h), fun _ => rfl, Nat.zero_le _⟩)⟩
  have HC : Hid (Acts.opC m c = (if c.op = 2 then [] else if c.op = 3 then [⟨kkey c.key, c.val, false⟩] else if c.op = 4 then (if h = true then [⟨kkey c.key, ⟨#[]⟩, true⟩] else []) else if G = c.old then [⟨kkey c.key, c.val, false⟩] else [])) := by
    show _ = _
    unfold Acts.opC
    rw [HG.out.1, HG.out.2.1]
  have HO : Hid (Acts.opR m c = (if c.op = 2 then (if h = true then Acts.gotR ++ G else Acts.noneR) else if c.op = 3 then Acts.putR else if c.op = 4 then (if h = true then Acts.cutR else Acts.noneR) else if G = c.old then Acts.swapR else Acts.keptR)) := by
    show _ = _
    unfold Acts.opR
    rw [HG.out.1, HG.out.2.1]
    cases h
    · rw [HG.out.2.2.2.1 rfl]; simp
    · rw [HG.out.2.2.1 rfl]; simp
  have hgz := HG.out.2.2.2.2
  have hkz : (kkey c.key).size = c.key.size + 1 := Acts.kkey_size _
  have z1 : ¬ 9223372036854775807 < 1 + c.key.size := by omega
  have z2 : ¬ 9223372036854775807 < 4 + G.size := by omega
  obtain ⟨KK, hKK⟩ : ∃ KK, KK = kkey c.key := ⟨_, rfl⟩
  have HKK : Hid (KK = ⟨#[107]⟩ ++ c.key) := hKK
  rw [← hKK] at HA HV HPUT HCUT HC
  obtain ⟨O, hO⟩ : ∃ O, O = c.op := ⟨_, rfl⟩
  obtain ⟨S, hS⟩ : ∃ S, S = c.ses := ⟨_, rfl⟩
  obtain ⟨Q, hQ⟩ : ∃ Q, Q = c.seq := ⟨_, rfl⟩
  obtain ⟨K, hK⟩ : ∃ K, K = c.key := ⟨_, rfl⟩
  obtain ⟨V, hV⟩ : ∃ V, V = c.val := ⟨_, rfl⟩
  obtain ⟨U, hU⟩ : ∃ U, U = c.old := ⟨_, rfl⟩
  have HPV : Hid (∀ W, Below w.heap.size w W → Calls Tryd.prog 28 #[.slice a m.length cap, .string KK, .string V] W fun e w' => ∃ v, e = .returned v ∧ w'.ownsRow W.heap.size 48 2 v (Maps.putK m KK V).length (cellsPair (Maps.putK m KK V)) ∧ Below W.heap.size W w') := fun W h => HPUT.out V W h
  obtain ⟨M, hM⟩ : ∃ M, M = Acts.opM m c := ⟨_, rfl⟩
  obtain ⟨RR, hRR⟩ : ∃ RR, RR = Acts.opR m c := ⟨_, rfl⟩
  have HM : Hid (M = (Acts.opC m c).foldl Maps.stepC m) := hM
  rw [HC.out] at HM
  rw [← hRR] at HO
  rw [← hM, ← hRR]
  unfold cmdV
  rw [← hO, ← hU, ← hV] at HM
  rw [← hO, ← hU] at HO
  rw [← hO, ← hS, ← hQ, ← hK, ← hV, ← hU]
  rw [← hO] at hop
  rw [← hK] at z1 HKK
  have hkk : (⟨#[107]⟩ : ByteArray) ++ K = KK := HKK.out.symm
  clear hf hKK hO hS hQ hK hV hU hM hRR HC HG hkz hgz hk HPUT hvz
  obtain ⟨W, hW⟩ : ∃ W, W = w.alloc (Obj.cells #[.int .i64 O, .int .i64 S, .int .i64 Q, .string K, .string V, .string U] 31) := ⟨_, rfl⟩
  have hb : Below w.heap.size w W := by rw [hW]; exact (Below.refl _ _).alloc (Nat.le_refl _) _
  have hr : W.heap[w.heap.size]? = some (.cells #[.int .i64 O, .int .i64 S, .int .i64 Q, .string K, .string V, .string U] 31 (0, 0)) := by rw [hW]; exact heap_alloc_new w _
  have c0 := cell_of_row _ _ 0 _ _ _ hr
  have c3 := cell_of_row _ _ 3 _ _ _ hr
  have c4 := cell_of_row _ _ 4 _ _ _ hr
  have c5 := cell_of_row _ _ 5 _ _ _ hr
  simp at c0 c3 c4 c5
  have HB : Hid _ := hb
  clear hb hr
  obtain ⟨hx1, hx2⟩ := hx
  rcases hop with rfl | rfl | rfl | rfl
  · cases h
    · have x1 := hx2 rfl
      clear hx1 hx2
      have E1 : Hid (M = m) := by show _ = _; rw [HM.out]; simp [Maps.stepC]
      have E2 : Hid (RR = Acts.noneR) := by show _ = _; rw [HO.out]; simp
      clear HM HO
      go_enter Tryd.func27, Tryd.ntmps27
      go_wp2_with (first | (rw [← hW]; clear hW) | (go_at_call 47; refine Calls.mono (HA.out _ HB.out) ?_; rintro e w1 ⟨rfl, rfl⟩) | (go_at_call 48; refine Calls.mono (HV.out _ HB.out) ?_; rintro e w2 ⟨rfl, rfl⟩) | (go_at_call 28; refine Calls.mono (HPV.out _ HB.out) ?_; rintro e w3 ⟨v, rfl, hown, hb3⟩) | (go_at_call 52; refine Calls.mono (HCUT.out _ HB.out) ?_; rintro e w3 ⟨v, rfl, hown, hb3⟩) | fail)
      go_ret2
      exact ⟨a, g, off, cap, by rw [E1.out, E2.out]; rfl, by rw [E1.out]; exact HFX.out _ HB.out, HB.out⟩
    · have x1 := hx1 rfl
      clear hx1 hx2
      have E1 : Hid (M = m) := by show _ = _; rw [HM.out]; simp [Maps.stepC]
      have E2 : Hid (RR = Acts.gotR ++ G) := by show _ = _; rw [HO.out]; simp
      clear HM HO
      go_enter Tryd.func27, Tryd.ntmps27
      go_wp2_with (first | (rw [← hW]; clear hW) | (go_at_call 47; refine Calls.mono (HA.out _ HB.out) ?_; rintro e w1 ⟨rfl, rfl⟩) | (go_at_call 48; refine Calls.mono (HV.out _ HB.out) ?_; rintro e w2 ⟨rfl, rfl⟩) | (go_at_call 28; refine Calls.mono (HPV.out _ HB.out) ?_; rintro e w3 ⟨v, rfl, hown, hb3⟩) | (go_at_call 52; refine Calls.mono (HCUT.out _ HB.out) ?_; rintro e w3 ⟨v, rfl, hown, hb3⟩) | fail)
      go_ret2
      exact ⟨a, g, off, cap, by rw [E1.out, E2.out]; rfl, by rw [E1.out]; exact HFX.out _ HB.out, HB.out⟩
  · clear hx1 hx2
    have E1 : Hid (M = Maps.putK m KK V) := by show _ = _; rw [HM.out]; simp [Maps.stepC]
    have E2 : Hid (RR = Acts.putR) := by show _ = _; rw [HO.out]; simp
    clear HM HO
    go_enter Tryd.func27, Tryd.ntmps27
    go_wp2_with (first | (rw [← hW]; clear hW) | (go_at_call 47; refine Calls.mono (HA.out _ HB.out) ?_; rintro e w1 ⟨rfl, rfl⟩) | (go_at_call 48; refine Calls.mono (HV.out _ HB.out) ?_; rintro e w2 ⟨rfl, rfl⟩) | (go_at_call 28; refine Calls.mono (HPV.out _ HB.out) ?_; rintro e w3 ⟨v, rfl, hown, hb3⟩) | (go_at_call 52; refine Calls.mono (HCUT.out _ HB.out) ?_; rintro e w3 ⟨v, rfl, hown, hb3⟩) | fail)
    obtain ⟨va, vg, vc, rfl, hat⟩ := cellsPair_slice hown
    go_ret2
    exact ⟨va, vg, 0, vc, by rw [E1.out, E2.out]; rfl, by rw [E1.out]; exact hat, HB.out.trans (hb3.mono HB.out.size)⟩
  · cases h
    · have x1 := hx2 rfl
      clear hx1 hx2
      have E1 : Hid (M = m) := by show _ = _; rw [HM.out]; simp [Maps.stepC]
      have E2 : Hid (RR = Acts.noneR) := by show _ = _; rw [HO.out]; simp
      clear HM HO
      go_enter Tryd.func27, Tryd.ntmps27
      go_wp2_with (first | (rw [← hW]; clear hW) | (go_at_call 47; refine Calls.mono (HA.out _ HB.out) ?_; rintro e w1 ⟨rfl, rfl⟩) | (go_at_call 48; refine Calls.mono (HV.out _ HB.out) ?_; rintro e w2 ⟨rfl, rfl⟩) | (go_at_call 28; refine Calls.mono (HPV.out _ HB.out) ?_; rintro e w3 ⟨v, rfl, hown, hb3⟩) | (go_at_call 52; refine Calls.mono (HCUT.out _ HB.out) ?_; rintro e w3 ⟨v, rfl, hown, hb3⟩) | fail)
      go_ret2
      exact ⟨a, g, off, cap, by rw [E1.out, E2.out]; rfl, by rw [E1.out]; exact HFX.out _ HB.out, HB.out⟩
    · have x1 := hx1 rfl
      clear hx1 hx2
      have E1 : Hid (M = Maps.cutK m KK) := by show _ = _; rw [HM.out]; simp [Maps.stepC]
      have E2 : Hid (RR = Acts.cutR) := by show _ = _; rw [HO.out]; simp
      clear HM HO
      go_enter Tryd.func27, Tryd.ntmps27
      go_wp2_with (first | (rw [← hW]; clear hW) | (go_at_call 47; refine Calls.mono (HA.out _ HB.out) ?_; rintro e w1 ⟨rfl, rfl⟩) | (go_at_call 48; refine Calls.mono (HV.out _ HB.out) ?_; rintro e w2 ⟨rfl, rfl⟩) | (go_at_call 28; refine Calls.mono (HPV.out _ HB.out) ?_; rintro e w3 ⟨v, rfl, hown, hb3⟩) | (go_at_call 52; refine Calls.mono (HCUT.out _ HB.out) ?_; rintro e w3 ⟨v, rfl, hown, hb3⟩) | fail)
      obtain ⟨va, vg, vc, rfl, hat⟩ := cellsPair_slice hown
      go_ret2
      exact ⟨va, vg, 0, vc, by rw [E1.out, E2.out]; rfl, by rw [E1.out]; exact hat, HB.out.trans (hb3.mono HB.out.size)⟩
  · clear hx1 hx2
    by_cases hgu : G = U
    · have hq := beq_yes hgu
      have E1 : Hid (M = Maps.putK m KK V) := by show _ = _; rw [HM.out]; simp [Maps.stepC, hgu]
      have E2 : Hid (RR = Acts.swapR) := by show _ = _; rw [HO.out]; simp [hgu]
      clear HM HO
      go_enter Tryd.func27, Tryd.ntmps27
      go_wp2_with (first | (rw [← hW]; clear hW) | (go_at_call 47; refine Calls.mono (HA.out _ HB.out) ?_; rintro e w1 ⟨rfl, rfl⟩) | (go_at_call 48; refine Calls.mono (HV.out _ HB.out) ?_; rintro e w2 ⟨rfl, rfl⟩) | (go_at_call 28; refine Calls.mono (HPV.out _ HB.out) ?_; rintro e w3 ⟨v, rfl, hown, hb3⟩) | (go_at_call 52; refine Calls.mono (HCUT.out _ HB.out) ?_; rintro e w3 ⟨v, rfl, hown, hb3⟩) | fail)
      obtain ⟨va, vg, vc, rfl, hat⟩ := cellsPair_slice hown
      go_ret2
      exact ⟨va, vg, 0, vc, by rw [E1.out, E2.out]; rfl, by rw [E1.out]; exact hat, HB.out.trans (hb3.mono HB.out.size)⟩
    · have hq := beq_no hgu
      have E1 : Hid (M = m) := by show _ = _; rw [HM.out]; simp [Maps.stepC, hgu]
      have E2 : Hid (RR = Acts.keptR) := by show _ = _; rw [HO.out]; simp [hgu]
      clear HM HO
      go_enter Tryd.func27, Tryd.ntmps27
      go_wp2_with (first | (rw [← hW]; clear hW) | (go_at_call 47; refine Calls.mono (HA.out _ HB.out) ?_; rintro e w1 ⟨rfl, rfl⟩) | (go_at_call 48; refine Calls.mono (HV.out _ HB.out) ?_; rintro e w2 ⟨rfl, rfl⟩) | (go_at_call 28; refine Calls.mono (HPV.out _ HB.out) ?_; rintro e w3 ⟨v, rfl, hown, hb3⟩) | (go_at_call 52; refine Calls.mono (HCUT.out _ HB.out) ?_; rintro e w3 ⟨v, rfl, hown, hb3⟩) | fail)
      go_ret2
      exact ⟨a, g, off, cap, by rw [E1.out, E2.out]; rfl, by rw [E1.out]; exact HFX.out _ HB.out, HB.out⟩
end Go.Proofs.YtpedpdgkbmpfjaaDoor
