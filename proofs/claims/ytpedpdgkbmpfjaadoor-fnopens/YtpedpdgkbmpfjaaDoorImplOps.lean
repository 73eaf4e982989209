/- The program's ops of a session, walked: get, put, cut and swap. -/
import Derived.Test.YtpedpdgkbmpfjaaDoorImplAsk
namespace Go.Proofs.YtpedpdgkbmpfjaaDoor
open Go.RowKit
open Acts (decS skey sval nkey kkey sess parse Enc get nextN least pickL findS opC opR)
set_option linter.unusedVariables false
set_option linter.unusedSimpArgs false

set_option maxHeartbeats 1000000 in
theorem opGet_is {T B ab : Nat} {c : CmdL} {a : Option Addr} {g off cap : Nat} (m : List PairL) (hG : Acts.Good T m) (hT : T ≤ 30) (hk : c.key.size ≤ 9) (w : World) (hB : B ≤ ab) (h : Ask w ab (.slice a m.length cap) c (.slice none 0 0)) (hf : PairAt w a g off m) (hop : c.op = 2) : Calls Tryd.prog 83 #[.pointer (some ⟨ab, 0, none⟩)] w fun e w' => e = .returned (.string (opR m c)) ∧ ChgPost w B ab (.slice a m.length cap) c none (opC m c) w' := by
  have HV : Hid (Calls Tryd.prog 93 #[.pointer (some ⟨ab, 0, none⟩)] w fun e w' => e = .returned (.tuple #[.string ((get m (kkey c.key)).getD ⟨#[]⟩), .bool (get m (kkey c.key)).isSome]) ∧ Below w.heap.size w w') := askVal_is m hG hT hk w h hf
  have HN : Hid (∀ W, Below w.heap.size w W → ChgPost w B ab (.slice a m.length cap) c none [] W) := fun W hb => ⟨_, h.below hb, World.ownsRow_nil _ _ _ _, hb.mono (by have := h.lt; omega), hb.size, fun q o hq _ _ => (hb.block _ (Array.getElem?_eq_some_iff.1 hq).1).trans hq⟩
  have e1 : opC m c = [] := by unfold opC; rw [if_pos hop]
  have hsz : ∀ v, get m (kkey c.key) = some v → v.size ≤ 5 := fun v hv => Acts.get_k hG.enc hv
  rw [e1]
  cases hg : get m (kkey c.key) with
  | none =>
    have e2 : opR m c = Acts.noneR := by unfold opR; rw [if_pos hop, hg]
    rw [hg] at HV
    simp only [Option.getD_none, Option.isSome_none] at HV
    rw [e2]
    clear e1 e2 hg hop h hf hG hsz
    go_enter Tryd.func83, Tryd.ntmps83
    go_wp2_with (go_at_call 93; refine Calls.mono HV.out ?_; rintro e w1 ⟨rfl, hb1⟩)
    go_ret
    exact ⟨rfl, HN.out _ hb1⟩
  | some v =>
    have hv := hsz v hg
    have e2 : opR m c = Acts.gotR ++ v := by unfold opR; rw [if_pos hop, hg]
    rw [hg] at HV
    simp only [Option.getD_some, Option.isSome_some] at HV
    rw [e2]
    have z1 : ¬ 9223372036854775807 < 4 + v.size := by omega
    clear e1 e2 hg hop h hf hG hsz
    go_enter Tryd.func83, Tryd.ntmps83
    go_wp2_with (go_at_call 93; refine Calls.mono HV.out ?_; rintro e w1 ⟨rfl, hb1⟩)
    go_ret
    exact ⟨rfl, HN.out _ hb1⟩
set_option maxHeartbeats 1000000 in
theorem opPut_is {T B ab : Nat} {c : CmdL} {a : Option Addr} {g off cap : Nat} (m : List PairL) (hG : Acts.Good T m) (hT : T ≤ 30) (hk : c.key.size ≤ 9) (w : World) (hB : B ≤ ab) (h : Ask w ab (.slice a m.length cap) c (.slice none 0 0)) (hf : PairAt w a g off m) (hop : c.op = 3) : Calls Tryd.prog 84 #[.pointer (some ⟨ab, 0, none⟩)] w fun e w' => e = .returned (.string (opR m c)) ∧ ChgPost w B ab (.slice a m.length cap) c none (opC m c) w' := by
  have HC : Hid (∀ W, Below w.heap.size w W → Calls Tryd.prog 94 #[.pointer (some ⟨ab, 0, none⟩), .agg #[.string ⟨#[]⟩, .string c.val, .bool false]] W fun e w' => e = .returned (.tuple #[]) ∧ ChgPost w B ab (.slice a m.length cap) c none [⟨kkey c.key, c.val, false⟩] w') := fun W hb => (change_is (va := none) (vc := 0) [] (by decide) c.val false hk W hB (h.below hb) (World.ownsRow_nil _ _ _ _)).mono fun e w' ⟨h1, v, h2, h3, h4, h5, h6⟩ => ⟨h1, v, h2, h3, (hb.mono (by have := h.lt; omega)).trans h4, by have := hb.size; omega, fun q o hq n1 _ => h6 q o ((hb.block _ (Array.getElem?_eq_some_iff.1 hq).1).trans hq) n1 (by intro e; cases e)⟩
  have e1 : opC m c = [⟨kkey c.key, c.val, false⟩] := by unfold opC; rw [if_neg (by omega), if_pos hop]
  have e2 : opR m c = Acts.putR := by unfold opR; rw [if_neg (by omega), if_pos hop]
  rw [e1, e2]
  have c5 := h.c5
  clear e1 e2 hop h hf hG
  go_enter Tryd.func84, Tryd.ntmps84
  go_wp2_with (go_at_call 94; refine Calls.mono (HC.out _ (Below.refl _ _)) ?_; rintro e w1 ⟨rfl, hp⟩)
  go_ret
  exact ⟨rfl, hp⟩
set_option maxHeartbeats 1000000 in
theorem opCut_is {T B ab : Nat} {c : CmdL} {a : Option Addr} {g off cap : Nat} (m : List PairL) (hG : Acts.Good T m) (hT : T ≤ 30) (hk : c.key.size ≤ 9) (w : World) (hB : B ≤ ab) (h : Ask w ab (.slice a m.length cap) c (.slice none 0 0)) (hf : PairAt w a g off m) (hop : c.op = 4) : Calls Tryd.prog 85 #[.pointer (some ⟨ab, 0, none⟩)] w fun e w' => e = .returned (.string (opR m c)) ∧ ChgPost w B ab (.slice a m.length cap) c none (opC m c) w' := by
  have HV : Hid (Calls Tryd.prog 93 #[.pointer (some ⟨ab, 0, none⟩)] w fun e w' => e = .returned (.tuple #[.string ((get m (kkey c.key)).getD ⟨#[]⟩), .bool (get m (kkey c.key)).isSome]) ∧ Below w.heap.size w w') := askVal_is m hG hT hk w h hf
  have HN : Hid (∀ W, Below w.heap.size w W → ChgPost w B ab (.slice a m.length cap) c none [] W) := fun W hb => ⟨_, h.below hb, World.ownsRow_nil _ _ _ _, hb.mono (by have := h.lt; omega), hb.size, fun q o hq _ _ => (hb.block _ (Array.getElem?_eq_some_iff.1 hq).1).trans hq⟩
  have HC : Hid (∀ W, Below w.heap.size w W → Calls Tryd.prog 94 #[.pointer (some ⟨ab, 0, none⟩), .agg #[.string ⟨#[]⟩, .string ⟨#[]⟩, .bool true]] W fun e w' => e = .returned (.tuple #[]) ∧ ChgPost w B ab (.slice a m.length cap) c none [⟨kkey c.key, ⟨#[]⟩, true⟩] w') := fun W hb => (change_is (va := none) (vc := 0) [] (by decide) ⟨#[]⟩ true hk W hB (h.below hb) (World.ownsRow_nil _ _ _ _)).mono fun e w' ⟨h1, v, h2, h3, h4, h5, h6⟩ => ⟨h1, v, h2, h3, (hb.mono (by have := h.lt; omega)).trans h4, by have := hb.size; omega, fun q o hq n1 _ => h6 q o ((hb.block _ (Array.getElem?_eq_some_iff.1 hq).1).trans hq) n1 (by intro e; cases e)⟩
  cases hg : get m (kkey c.key) with
  | none =>
    have e1 : opC m c = [] := by unfold opC; rw [if_neg (by omega), if_neg (by omega), if_pos hop, hg]; rfl
    have e2 : opR m c = Acts.noneR := by unfold opR; rw [if_neg (by omega), if_neg (by omega), if_pos hop, hg]; rfl
    rw [hg] at HV
    simp only [Option.getD_none, Option.isSome_none] at HV
    rw [e1, e2]
    clear e1 e2 hg hop h hf hG HC
    go_enter Tryd.func85, Tryd.ntmps85
    go_wp2_with (go_at_call 93; refine Calls.mono HV.out ?_; rintro e w1 ⟨rfl, hb1⟩)
    go_ret
    exact ⟨rfl, HN.out _ hb1⟩
  | some v =>
    have e1 : opC m c = [⟨kkey c.key, ⟨#[]⟩, true⟩] := by unfold opC; rw [if_neg (by omega), if_neg (by omega), if_pos hop, hg]; rfl
    have e2 : opR m c = Acts.cutR := by unfold opR; rw [if_neg (by omega), if_neg (by omega), if_pos hop, hg]; rfl
    rw [hg] at HV
    simp only [Option.getD_some, Option.isSome_some] at HV
    rw [e1, e2]
    clear e1 e2 hg hop h hf hG
    go_enter Tryd.func85, Tryd.ntmps85
    go_wp2_with (first | (go_at_call 93; refine Calls.mono HV.out ?_; rintro e w1 ⟨rfl, hb1⟩) | (go_at_call 94; refine Calls.mono (HC.out _ hb1) ?_; rintro e w2 ⟨rfl, hp⟩))
    go_ret
    exact ⟨rfl, hp⟩
set_option maxHeartbeats 1000000 in
theorem opSwap_is {T B ab : Nat} {c : CmdL} {a : Option Addr} {g off cap : Nat} (m : List PairL) (hG : Acts.Good T m) (hT : T ≤ 30) (hk : c.key.size ≤ 9) (w : World) (hB : B ≤ ab) (h : Ask w ab (.slice a m.length cap) c (.slice none 0 0)) (hf : PairAt w a g off m) (hop : c.op = 5) : Calls Tryd.prog 86 #[.pointer (some ⟨ab, 0, none⟩)] w fun e w' => e = .returned (.string (opR m c)) ∧ ChgPost w B ab (.slice a m.length cap) c none (opC m c) w' := by
  have HV : Hid (Calls Tryd.prog 93 #[.pointer (some ⟨ab, 0, none⟩)] w fun e w' => e = .returned (.tuple #[.string ((get m (kkey c.key)).getD ⟨#[]⟩), .bool (get m (kkey c.key)).isSome]) ∧ Below w.heap.size w w') := askVal_is m hG hT hk w h hf
  have HN : Hid (∀ W, Below w.heap.size w W → ChgPost w B ab (.slice a m.length cap) c none [] W) := fun W hb => ⟨_, h.below hb, World.ownsRow_nil _ _ _ _, hb.mono (by have := h.lt; omega), hb.size, fun q o hq _ _ => (hb.block _ (Array.getElem?_eq_some_iff.1 hq).1).trans hq⟩
  have HC : Hid (∀ W, Below w.heap.size w W → Calls Tryd.prog 94 #[.pointer (some ⟨ab, 0, none⟩), .agg #[.string ⟨#[]⟩, .string c.val, .bool false]] W fun e w' => e = .returned (.tuple #[]) ∧ ChgPost w B ab (.slice a m.length cap) c none [⟨kkey c.key, c.val, false⟩] w') := fun W hb => (change_is (va := none) (vc := 0) [] (by decide) c.val false hk W hB (h.below hb) (World.ownsRow_nil _ _ _ _)).mono fun e w' ⟨h1, v, h2, h3, h4, h5, h6⟩ => ⟨h1, v, h2, h3, (hb.mono (by have := h.lt; omega)).trans h4, by have := hb.size; omega, fun q o hq n1 _ => h6 q o ((hb.block _ (Array.getElem?_eq_some_iff.1 hq).1).trans hq) n1 (by intro e; cases e)⟩
  obtain ⟨G, hG2⟩ : ∃ G, G = (get m (kkey c.key)).getD ⟨#[]⟩ := ⟨_, rfl⟩
  obtain ⟨R, hR⟩ : ∃ R, R = (get m (kkey c.key)).isSome := ⟨_, rfl⟩
  rw [← hG2, ← hR] at HV
  have HCE : Hid (∀ W, Below w.heap.size w W → W.cell? ⟨ab, 5, none⟩ = some (.string c.val) ∧ W.cell? ⟨ab, 6, none⟩ = some (.string c.old)) := fun W hb => ⟨(h.below hb).c5, (h.below hb).c6⟩
  cases hs : (G.toList == c.old.toList) with
  | true =>
    have hs2 : (!(G.toList == c.old.toList)) = false := by rw [hs]; rfl
    have he : (get m (kkey c.key)).getD ⟨#[]⟩ = c.old := by rw [← hG2]; exact (same_list _ _).1 hs
    have e1 : opC m c = [⟨kkey c.key, c.val, false⟩] := by unfold opC; rw [if_neg (by omega), if_neg (by omega), if_neg (by omega), if_pos he]
    have e2 : opR m c = Acts.swapR := by unfold opR; rw [if_neg (by omega), if_neg (by omega), if_neg (by omega), if_pos he]
    rw [e1, e2]
    clear e1 e2 hop h hf hG he hG2 hR hs
    go_enter Tryd.func86, Tryd.ntmps86
    go_wp2_with (first | (go_at_call 93; refine Calls.mono HV.out ?_; rintro e w1 ⟨rfl, hb1⟩; obtain ⟨c5, c6⟩ := HCE.out _ hb1) | (go_at_call 94; refine Calls.mono (HC.out _ hb1) ?_; rintro e w2 ⟨rfl, hp⟩))
    go_ret
    exact ⟨rfl, hp⟩
  | false =>
    have hs2 : (!(G.toList == c.old.toList)) = true := by rw [hs]; rfl
    have he : ¬ (get m (kkey c.key)).getD ⟨#[]⟩ = c.old := by rw [← hG2]; intro e; rw [(same_list _ _).2 e] at hs; cases hs
    have e1 : opC m c = [] := by unfold opC; rw [if_neg (by omega), if_neg (by omega), if_neg (by omega), if_neg he]
    have e2 : opR m c = Acts.keptR := by unfold opR; rw [if_neg (by omega), if_neg (by omega), if_neg (by omega), if_neg he]
    rw [e1, e2]
    clear e1 e2 hop h hf hG he hG2 hR hs HC
    go_enter Tryd.func86, Tryd.ntmps86
    go_wp2_with (go_at_call 93; refine Calls.mono HV.out ?_; rintro e w1 ⟨rfl, hb1⟩; obtain ⟨c5, c6⟩ := HCE.out _ hb1)
    go_ret
    exact ⟨rfl, HN.out _ hb1⟩
end Go.Proofs.YtpedpdgkbmpfjaaDoor
