/- A list of raw writes cut: plainly; and the program's longestPart and beginningOf, walked. -/
import Derived.Test.YtpkkejpidlkmnaaImplRaws
import Derived.Test.YtpkkejpidlkmnaaRawsLaw
namespace Go.Proofs.Ytpkkejpidlkmnaa
open Go.RowKit
set_option linter.unusedVariables false

namespace Disks
/-- How many bytes of a raw write may be done in part. -/
def part (r : RawL) : Nat := if 1 ≤ r.kind ∧ r.kind ≤ 2 then r.text.size else 0
def room (rs : List RawL) (wh : Nat) : Nat := match rs[wh]? with
  | some r => part r
  | none => 0
def begin (r : RawL) (pt : Nat) : RawL := ⟨r.kind, r.name, r.to, r.text.extract 0 pt⟩
def cutDone (rs : List RawL) (wh pt : Nat) : List RawL := rs.take wh ++ (match rs[wh]? with
  | some r => if 0 < pt then [begin r pt] else []
  | none => [])
def cutIn (l : List FileL) (rs : List RawL) (WH PT : Int) : Prop := ok l ∧ rs.length ≤ 60 ∧ (0 ≤ WH ∧ WH ≤ rs.length) ∧ (0 ≤ PT ∧ PT ≤ room rs WH.toNat)
def cutInB (l : List FileL) (rs : List RawL) (WH PT : Int) : Bool := okB l && decide (rs.length ≤ 60) && decide (0 ≤ WH ∧ WH ≤ rs.length) && decide (0 ≤ PT ∧ PT ≤ room rs WH.toNat)
theorem cutInB_iff (l : List FileL) (rs : List RawL) (WH PT : Int) : cutInB l rs WH PT = true ↔ cutIn l rs WH PT := by
  unfold cutInB cutIn
  rw [Bool.and_eq_true, Bool.and_eq_true, Bool.and_eq_true, okB_iff, decide_eq_true_iff, decide_eq_true_iff, decide_eq_true_iff]
  exact ⟨fun ⟨⟨⟨h1, h2⟩, h3⟩, h4⟩ => ⟨h1, h2, h3, h4⟩, fun ⟨h1, h2, h3, h4⟩ => ⟨⟨⟨h1, h2⟩, h3⟩, h4⟩⟩
def whole (l : List FileL) (d : List RawL) : Option (List FileL) := if (run l d).2 = d.length then some (run l d).1 else none
def cutAll (l : List FileL) (rs : List RawL) (WH PT : Int) : Option (List FileL) := if cutInB l rs WH PT = true then whole l (cutDone rs WH.toNat PT.toNat) else none
theorem cutAll_in {l : List FileL} {rs : List RawL} {WH PT : Int} (h : cutIn l rs WH PT) : cutAll l rs WH PT = whole l (cutDone rs WH.toNat PT.toNat) := by
  unfold cutAll; rw [if_pos ((cutInB_iff _ _ _ _).2 h)]
theorem cutAll_out {l : List FileL} {rs : List RawL} {WH PT : Int} (h : ¬ cutIn l rs WH PT) : cutAll l rs WH PT = none := by
  unfold cutAll; rw [if_neg (fun q => h ((cutInB_iff _ _ _ _).1 q))]
theorem whole_len (l : List FileL) (hok : ok l) (d : List RawL) : ((whole l d).getD []).length ≤ 30 := by
  unfold whole
  split
  · exact (run_ok d hok).1
  · exact Nat.zero_le _
theorem cutAll_len (l : List FileL) (rs : List RawL) (WH PT : Int) : ((cutAll l rs WH PT).getD []).length ≤ 30 := by
  by_cases h : cutIn l rs WH PT
  · rw [cutAll_in h]; exact whole_len l h.1 _
  · rw [cutAll_out h]; exact Nat.zero_le _
theorem run_snoc : ∀ (d : List RawL) (l : List FileL) (r : RawL), run l (d ++ [r]) = if (run l d).2 = d.length then (match putRaw (run l d).1 r with | none => ((run l d).1, d.length) | some L => (L, d.length + 1)) else run l d
  | [], l, r => by
    simp only [List.nil_append, run, List.length_nil, if_true]
    cases putRaw l r <;> rfl
  | x :: d, l, r => by
    rw [List.cons_append]
    cases h : putRaw l x with
    | none => rw [run_none h, run_none h, if_neg (by simp)]
    | some l' =>
      rw [run_some h, run_some h, run_snoc d l' r]
      simp only [List.length_cons, Nat.add_right_cancel_iff]
      split
      · cases putRaw (run l' d).1 r <;> rfl
      · rfl
theorem whole_snoc (l : List FileL) (d : List RawL) (r : RawL) : whole l (d ++ [r]) = (whole l d).bind fun L => putRaw L r := by
  unfold whole
  rw [run_snoc]
  by_cases h : (run l d).2 = d.length
  · simp only [h, if_true, Option.bind_some]
    cases e : putRaw (run l d).1 r with
    | none => simp
    | some L => simp
  · simp only [h, if_false, Option.bind_none]
    have := run_le d l
    rw [if_neg (by rw [List.length_append, List.length_singleton]; omega)]
theorem cutDone_zero (rs : List RawL) (wh : Nat) : cutDone rs wh 0 = rs.take wh := by
  unfold cutDone
  cases rs[wh]? <;> simp
theorem cutDone_part {rs : List RawL} {wh pt : Nat} (h : wh < rs.length) (hp : 0 < pt) : cutDone rs wh pt = rs.take wh ++ [begin rs[wh] pt] := by
  unfold cutDone
  rw [List.getElem?_eq_getElem h]
  simp [hp]
theorem room_pos {rs : List RawL} {wh : Nat} (h : 0 < room rs wh) : wh < rs.length := by
  unfold room at h
  by_cases q : wh < rs.length
  · exact q
  · rw [List.getElem?_eq_none (by omega)] at h; simp at h
theorem room_at {rs : List RawL} {wh : Nat} (h : wh < rs.length) : room rs wh = part rs[wh] := by
  unfold room; rw [List.getElem?_eq_getElem h]
end Disks
theorem RawsAt.drop {w : World} {a : Option Addr} {g off : Nat} {rs : List Disks.RawL} (h : RawsAt w a g off rs) (k : Nat) (b : Option Addr) (hb : 0 < (rs.drop k).length → b = some ⟨g, off + k * 4, none⟩) : RawsAt w b g (off + k * 4) (rs.drop k) := by
  refine ⟨hb, fun j hj => ?_⟩
  have hj' : j < rs.length - k := by simpa using hj
  have := h.2 (k + j) (by omega)
  simp only [List.getElem_drop]
  rw [show off + k * 4 + j * 4 = off + (k + j) * 4 by omega]
  exact this
theorem RawsAt.take {w : World} {a : Option Addr} {g off : Nat} {rs : List Disks.RawL} (h : RawsAt w a g off rs) (k : Nat) : RawsAt w a g off (rs.take k) := by
  refine ⟨fun hp => h.1 (by rw [List.length_take] at hp; omega), fun j hj => ?_⟩
  have hj' : j < rs.length := by rw [List.length_take] at hj; omega
  simp only [List.getElem_take]
  exact h.2 j hj'
theorem elem53 : Try.prog.underlying 53 = some (.slice (Try.prog.elem 53)) := by kernel_rfl
theorem slice_from (ra : Option Addr) (n rcap wh : Nat) (h : wh ≤ n) (wx : World) : (Instr.slice 53 (.slice ra n rcap) (some (.int .i64 (wh : Int))) none none).run Try.prog wx = .ok (.slice (if rcap = wh then ra else ra.map (·.add (wh * 4))) (n - wh) (rcap - wh)) wx := by
  rw [run_slice_l wx 53 ra n rcap elem53 .i64 _ (by omega) (by omega), show (sizeOf (Try.prog.elem 53)).run Try.prog wx = .ok 4 wx by kernel_rfl]
  simp [Result.andThen, sliced]
theorem slice_to (ra : Option Addr) (n rcap wh : Nat) (h : wh ≤ rcap) (wx : World) : (Instr.slice 53 (.slice ra n rcap) none (some (.int .i64 (wh : Int))) none).run Try.prog wx = .ok (.slice (if rcap = 0 then ra else ra.map (·.add 0)) wh rcap) wx := by
  rw [run_slice_h wx 53 ra n rcap elem53 .i64 _ (by omega) (by omega), show (sizeOf (Try.prog.elem 53)).run Try.prog wx = .ok 4 wx by kernel_rfl]
  simp [Result.andThen, sliced]
theorem from_at {ra : Option Addr} {rg roff rcap : Nat} (rs : List Disks.RawL) (wh : Nat) (hw : wh ≤ rs.length) (hcap : rs.length ≤ rcap) (hra : 0 < rs.length → ra = some ⟨rg, roff, none⟩) : ∃ SA : Option Addr, (∀ wx, (Instr.slice 53 (.slice ra rs.length rcap) (some (.int .i64 (wh : Int))) none none).run Try.prog wx = .ok (.slice SA (rs.drop wh).length (rcap - wh)) wx) ∧ ∀ w, RawsAt w ra rg roff rs → RawsAt w SA rg (roff + wh * 4) (rs.drop wh) := by
  refine ⟨_, fun wx => by rw [slice_from ra rs.length rcap wh hw wx, List.length_drop], fun w h => h.drop wh _ fun hp => ?_⟩
  have hp' : wh < rs.length := by rw [List.length_drop] at hp; omega
  rw [if_neg (by omega), hra (by omega), Option.map_some, Addr.add_lit]
theorem to_at {ra : Option Addr} {rg roff rcap : Nat} (rs : List Disks.RawL) (wh : Nat) (hw : wh ≤ rs.length) (hcap : rs.length ≤ rcap) (hnil : ra = none → rcap = 0) : ∃ SA : Option Addr, (∀ wx, (Instr.slice 53 (.slice ra rs.length rcap) none (some (.int .i64 (wh : Int))) none).run Try.prog wx = .ok (.slice SA (rs.take wh).length rcap) wx) ∧ (SA = none → rcap = 0) ∧ ∀ w, RawsAt w ra rg roff rs → RawsAt w SA rg roff (rs.take wh) := by
  refine ⟨_, fun wx => by rw [slice_to ra rs.length rcap wh (by omega) wx, List.length_take, Nat.min_eq_left hw], ?_, fun w h => ⟨fun hp => ?_, (h.take wh).2⟩⟩
  · split
    · exact fun _ => by assumption
    · intro e
      cases ra with
      | none => exact hnil rfl
      | some x => cases e
  · have hp' : 0 < rs.length := by rw [List.length_take] at hp; omega
    rw [if_neg (by omega), h.1 hp', Option.map_some, Addr.add_lit, Nat.add_zero]
theorem ext_part (r : Disks.RawL) (pt : Nat) : (Disks.begin r pt).text.size ≤ r.text.size := by
  show (r.text.extract 0 pt).size ≤ _
  rw [ByteArray.size_extract]; omega

set_option maxHeartbeats 1000000 in
set_option maxRecDepth 100000 in
theorem longestPart_is {a : Option Addr} {g off cap : Nat} (rs : List Disks.RawL) (hlen : rs.length ≤ 1048576) (hsz : ∀ r ∈ rs, r.text.size ≤ 1048576) (w : World) (hf : RawsAt w a g off rs) :
    Calls Try.prog 68 #[.slice a rs.length cap] w fun e w' => e = .returned (.int .i64 (Disks.room rs 0 : Int)) ∧ w = w' := by
  have HF : Hid (RawsAt w a g off rs) := hf
  have HS : Hid (∀ r ∈ rs, r.text.size ≤ 1048576) := hsz
  clear hf hsz
  by_cases h0 : rs.length = 0
  · have hb : ((rs.length : Int) == 0) = true := by rw [beq_iff_eq]; omega
    have HE : Hid (Disks.room rs 0 = 0) := by show _ = _; unfold Disks.room; rw [List.getElem?_eq_none (by omega)]
    clear h0
    go_enter Try.func68, Try.ntmps68
    go_wp2
    go_ret
    exact ⟨by rw [HE.out]; rfl, rfl⟩
  · have hb : ((rs.length : Int) == 0) = false := beq_eq_false_iff_ne.2 (by omega)
    have hp : 0 < rs.length := by omega
    obtain ⟨c0, c1, c2, c3⟩ := HF.out.2 0 hp
    have ea := HF.out.1 hp
    subst ea
    have hl0 : (0 : Int) < (rs.length : Int) := by omega
    have hs := HS.out rs[0] (List.getElem_mem _)
    obtain ⟨K, hK⟩ : ∃ K, K = rs[0].kind := ⟨_, rfl⟩
    obtain ⟨X, hX⟩ : ∃ X, X = rs[0].text := ⟨_, rfl⟩
    have HR : Hid (Disks.room rs 0 = if 1 ≤ K ∧ K ≤ 2 then X.size else 0) := by show _ = _; rw [Disks.room_at hp, hK, hX]; rfl
    rw [← hK] at c0
    rw [← hX] at c3 hs
    simp only [Nat.zero_mul, Nat.add_zero] at c0 c1 c2 c3
    clear hK hX h0
    by_cases k1 : K = 1
    · subst k1
      go_enter Try.func68, Try.ntmps68
      go_wp2
      go_ret
      exact ⟨by rw [HR.out]; rfl, rfl⟩
    · have hk1 : (K == 1) = false := beq_eq_false_iff_ne.2 k1
      by_cases k2 : K = 2
      · subst k2
        go_enter Try.func68, Try.ntmps68
        go_wp2
        go_ret
        exact ⟨by rw [HR.out]; rfl, rfl⟩
      · have hk2 : (K == 2) = false := beq_eq_false_iff_ne.2 k2
        have HZ : Hid (Disks.room rs 0 = 0) := by show _ = _; rw [HR.out, if_neg (by omega)]
        clear k1 k2 HR
        go_enter Try.func68, Try.ntmps68
        go_wp2
        go_ret
        exact ⟨by rw [HZ.out]; rfl, rfl⟩
set_option maxHeartbeats 1000000 in
set_option maxRecDepth 100000 in
theorem beginningOf_is (K : Int) (M O X : ByteArray) (pt : Nat) (hp : pt ≤ X.size) (hX : X.size ≤ 1048576) (w : World) :
    Calls Try.prog 69 #[.agg #[.int .i64 K, .string M, .string O, .string X], .int .i64 (pt : Int)] w fun e w' => e = .returned (.agg #[.int .i64 K, .string M, .string O, .string (X.extract 0 pt)]) ∧ Below w.heap.size w w' := by
  have hsl : ∀ wx, (Instr.slice 9 (.string X) none (some (.int .i64 (pt : Int))) none).run Try.prog wx = .ok (.string (X.extract 0 pt)) wx := fun wx => by
    rw [run_slice_string_h wx 9 X Try.underlying9 .i64 _ (by omega) (by omega)]; simp
  go_enter Try.func69, Try.ntmps69
  go_wp2
  exact bodyPost_ret (v := .agg #[.int .i64 K, .string M, .string O, .string (X.extract 0 pt)]) (by simp [results, Try.results69, go_sem]) rfl ⟨rfl, ((Below.refl _ _).alloc (Nat.le_refl _) _).alloc (by simp) _⟩
end Go.Proofs.Ytpkkejpidlkmnaa
