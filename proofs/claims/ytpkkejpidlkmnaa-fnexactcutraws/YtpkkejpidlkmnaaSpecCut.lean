/- The specification's l03Room and CutRaws, walked; both CutRaws as one contract. -/
import Derived.Test.YtpkkejpidlkmnaaImplCut
namespace Go.Proofs.Ytpkkejpidlkmnaa
open Go.RowKit
set_option linter.unusedVariables false

theorem implCutRaws_is {a ra : Option Addr} {g off cap rg roff rcap : Nat} (l : List FileL) (rs : List Disks.RawL) (WH PT : Int) (hlen : l.length ≤ 1048576) (hsz : ∀ f ∈ l, f.1.size ≤ 1048576 ∧ f.2.size ≤ 1048576) (hrl : rs.length ≤ 1048576) (hrs : ∀ r ∈ rs, smallRaw 1048576 r) (hcap : rs.length ≤ rcap) (hc2 : rcap ≤ 1048576) (hnil : ra = none → rcap = 0) (w : World) (hf : FilesAt w a g off l) (hrf : RawsAt w ra rg roff rs) :
    Calls Try.prog 39 #[.agg #[.slice a l.length cap], .slice ra rs.length rcap, .int .i64 WH, .int .i64 PT] w (putPost w (Disks.cutAll l rs WH PT)) := by
  by_cases hok : Disks.ok l
  case neg => rw [Disks.cutAll_out (fun h => hok h.1)]; exact implCut_bad (rg := rg) (roff := roff) l rs hlen hsz hok WH PT w hf
  by_cases h60 : rs.length ≤ 60
  case neg => rw [Disks.cutAll_out (fun h => h60 h.2.1)]; exact implCut_big (rg := rg) (roff := roff) l rs hok hrl (by omega) WH PT w hf
  by_cases hw0 : WH < 0
  · rw [Disks.cutAll_out (fun h => by have := h.2.2.1.1; omega)]; exact implCut_low (rg := rg) (roff := roff) l rs hok h60 WH PT hw0 w hf
  by_cases hw1 : (rs.length : Int) < WH
  · rw [Disks.cutAll_out (fun h => by have := h.2.2.1.2; omega)]; exact implCut_high (rg := rg) (roff := roff) l rs hok h60 WH PT (by omega) hw1 w hf
  obtain ⟨wh, rfl⟩ := Int.eq_ofNat_of_zero_le (show 0 ≤ WH by omega)
  have hw : wh ≤ rs.length := by omega
  by_cases hp0 : PT < 0
  · rw [Disks.cutAll_out (fun h => by have := h.2.2.2.1; omega)]; exact implCut_neg (rg := rg) (roff := roff) l rs hok h60 wh hw PT hp0 w hf
  by_cases hp1 : (Disks.room rs wh : Int) < PT
  · rw [Disks.cutAll_out (fun h => by have := h.2.2.2.2; rw [Int.toNat_natCast] at this; omega)]
    exact implCut_far l rs hok h60 hrs hcap hc2 hnil wh hw PT (by omega) hp1 w hf hrf
  obtain ⟨pt, rfl⟩ := Int.eq_ofNat_of_zero_le (show 0 ≤ PT by omega)
  have hp : pt ≤ Disks.room rs wh := by omega
  rw [Disks.cutAll_in ⟨hok, h60, ⟨by omega, by omega⟩, by omega, by rw [Int.toNat_natCast]; omega⟩, Int.toNat_natCast, Int.toNat_natCast]
  have hle := Disks.run_le (rs.take wh) l
  have htl : (rs.take wh).length = wh := by rw [List.length_take, Nat.min_eq_left hw]
  rw [htl] at hle
  by_cases hs : (Disks.run l (rs.take wh)).2 = wh
  · rcases Nat.eq_zero_or_pos pt with hz | hz
    · subst hz
      rw [Disks.cutDone_zero, Disks.whole, if_pos (by rw [htl]; exact hs)]
      exact implCut_zero l rs hok h60 hrs hcap hc2 hnil wh hw (Nat.zero_le _) hs w hf hrf
    · have hlt := Disks.room_pos (rs := rs) (wh := wh) (by omega)
      refine implCut_part l rs hok h60 hrs hcap hc2 hnil wh hw pt hp hz hs _ (fun h => ?_) w hf hrf
      rw [Disks.cutDone_part hlt hz, Disks.whole_snoc, Disks.whole, if_pos (by rw [htl]; exact hs)]
      rfl
  · have hn : Disks.whole l (Disks.cutDone rs wh pt) = none := by
      have h1 : Disks.whole l (rs.take wh) = none := by rw [Disks.whole, if_neg (by rw [htl]; exact hs)]
      rcases Nat.eq_zero_or_pos pt with hz | hz
      · subst hz; rw [Disks.cutDone_zero]; exact h1
      · rw [Disks.cutDone_part (Disks.room_pos (rs := rs) (wh := wh) (by omega)) hz, Disks.whole_snoc, h1]; rfl
    rw [hn]
    exact implCut_stop l rs hok h60 hrs hcap hc2 hnil wh hw pt hp (by omega) w hf hrf

set_option maxHeartbeats 1000000 in
set_option maxRecDepth 100000 in
theorem l03Room_is {a : Option Addr} {g off cap : Nat} (rs : List Disks.RawL) (hlen : rs.length ≤ 1048576) (hsz : ∀ r ∈ rs, smallRaw 1048576 r) (wh : Nat) (hw : wh ≤ rs.length) (w : World) (hf : RawsAt w a g off rs) :
    Calls Try.prog 67 #[.slice a rs.length cap, .int .i64 (wh : Int)] w fun e w' => e = .returned (.int .i64 (Disks.room rs wh : Int)) ∧ w = w' := by
  have HF : Hid (RawsAt w a g off rs) := hf
  have HS : Hid (∀ r ∈ rs, smallRaw 1048576 r) := hsz
  clear hf hsz
  by_cases h0 : wh < rs.length
  · obtain ⟨c0, c1, c2, c3⟩ := HF.out.2 wh h0
    have ea := HF.out.1 (by omega)
    subst ea
    have hs := (HS.out rs[wh] (List.getElem_mem _)).2.2
    obtain ⟨K, hK⟩ : ∃ K, K = rs[wh].kind := ⟨_, rfl⟩
    obtain ⟨X, hX⟩ : ∃ X, X = rs[wh].text := ⟨_, rfl⟩
    have HR : Hid (Disks.room rs wh = if 1 ≤ K ∧ K ≤ 2 then X.size else 0) := by show _ = _; rw [Disks.room_at h0, hK, hX]; rfl
    rw [← hK] at c0
    rw [← hX] at c3 hs
    clear hK hX
    have hw0 : (0 : Int) ≤ (wh : Int) := by omega
    have hw1 : (wh : Int) < (rs.length : Int) := by omega
    have hb : decide ((rs.length : Int) ≤ (wh : Int)) = false := decide_eq_false (by omega)
    have hbn : decide (rs.length ≤ wh) = false := decide_eq_false (by omega)
    by_cases k1 : 2 < K
    · have hk1 : decide (2 < K) = true := decide_eq_true k1
      have HZ : Hid (Disks.room rs wh = 0) := by show _ = _; rw [HR.out, if_neg (by omega)]
      go_enter Try.func67, Try.ntmps67
      go_wp2
      go_ret
      exact ⟨by rw [HZ.out]; rfl, rfl⟩
    · have hk1 : decide (2 < K) = false := decide_eq_false k1
      by_cases k2 : K < 1
      · have hk2 : decide (K < 1) = true := decide_eq_true k2
        have HZ : Hid (Disks.room rs wh = 0) := by show _ = _; rw [HR.out, if_neg (by omega)]
        go_enter Try.func67, Try.ntmps67
        go_wp2
        go_ret
        exact ⟨by rw [HZ.out]; rfl, rfl⟩
      · have hk2 : decide (K < 1) = false := decide_eq_false k2
        have HZ : Hid (Disks.room rs wh = X.size) := by show _ = _; rw [HR.out, if_pos (by omega)]
        go_enter Try.func67, Try.ntmps67
        go_wp2
        go_ret
        exact ⟨by rw [HZ.out]; rfl, rfl⟩
  · have hb : decide ((rs.length : Int) ≤ (wh : Int)) = true := decide_eq_true (by omega)
    have hbn : decide (rs.length ≤ wh) = true := decide_eq_true (by omega)
    have HZ : Hid (Disks.room rs wh = 0) := by show _ = _; unfold Disks.room; rw [List.getElem?_eq_none (by omega)]
    go_enter Try.func67, Try.ntmps67
    go_wp2
    go_ret
    exact ⟨by rw [HZ.out]; rfl, rfl⟩
end Go.Proofs.Ytpkkejpidlkmnaa
