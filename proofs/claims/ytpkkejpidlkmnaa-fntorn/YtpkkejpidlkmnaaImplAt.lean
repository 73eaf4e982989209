/- The program's FileAt, walked. -/
import Derived.Test.YtpkkejpidlkmnaaTabDo
namespace Go.Proofs.Ytpkkejpidlkmnaa
open Go.RowKit
set_option linter.unusedVariables false

set_option maxHeartbeats 400000 in
theorem clone_str (s : ByteArray) (h : s.size ≤ 281474976710656) (w : World) :
    Calls Try.prog 49 #[.string s] w fun e w' => e = .returned (.string s) ∧ Below w.heap.size w w' := by
  go_enter Try.func49, Try.ntmps49
  go_wp2_with (go_at_call 77; refine (Try.stringslite_Clone s _ h).mono ?_; rintro e w1 ⟨rfl, hb1⟩)
  go_ret
  exact ⟨rfl, hb1⟩
set_option maxHeartbeats 1000000 in
set_option maxRecDepth 100000 in
theorem implFileAt_no {a : Option Addr} {g off cap : Nat} (l : List FileL) (hlen : l.length ≤ 1048576) (hsz : ∀ f ∈ l, f.1.size ≤ 1048576 ∧ f.2.size ≤ 1048576) (hno : ¬ Disks.ok l) (n : ByteArray) (w : World) (hf : FilesAt w a g off l) :
    Calls Try.prog 25 #[.agg #[.slice a l.length cap], .string n] w fun e w' => e = .returned (.tuple #[.string ⟨#[]⟩, .bool false]) ∧ Below w.heap.size w w' := by
  have HF : Hid (FilesAt w a g off l) := hf
  have HS : Hid (∀ f ∈ l, f.1.size ≤ 1048576 ∧ f.2.size ≤ 1048576) := hsz
  have HN : Hid (¬ Disks.ok l) := hno
  clear hf hsz hno
  go_enter Try.func25, Try.ntmps25
  go_wp2_with fail
  obtain ⟨W1, hW1⟩ : ∃ W1, W1 = w.alloc (Obj.cells #[Value.slice a l.length cap] 34) := ⟨_, rfl⟩
  rw [← hW1]
  have hB1 : Below w.heap.size w W1 := by rw [hW1]; exact (Below.refl _ _).alloc (Nat.le_refl _) _
  clear hW1
  refine (filesOf_no l hlen HS.out HN.out W1 (HF.out.kept hB1)).mono ?_
  rintro e w2 ⟨rfl, hb2⟩
  go_wp2
  go_ret2
  exact ⟨rfl, hB1.trans (hb2.mono hB1.size)⟩
set_option maxHeartbeats 1000000 in
set_option maxRecDepth 100000 in
theorem implFileAt_yes {a : Option Addr} {g off cap : Nat} (l : List FileL) (hok : Disks.ok l) (n : ByteArray) (hn : n.size ≤ 1048576) (LA LT : ByteArray) (LB : Bool) (hL : Disks.look l n = ((LA, LT), LB)) (hs : LT.size ≤ 20000) (w : World) (hf : FilesAt w a g off l) :
    Calls Try.prog 25 #[.agg #[.slice a l.length cap], .string n] w fun e w' => e = .returned (.tuple #[.string LT, .bool LB]) ∧ Below w.heap.size w w' := by
  have HF : Hid (FilesAt w a g off l) := hf
  have HK : Hid (Disks.ok l) := hok
  have HL : Hid (Disks.look l n = ((LA, LT), LB)) := hL
  clear hf hok hL
  go_enter Try.func25, Try.ntmps25
  go_wp2_with fail
  obtain ⟨W1, hW1⟩ : ∃ W1, W1 = w.alloc (Obj.cells #[Value.slice a l.length cap] 34) := ⟨_, rfl⟩
  rw [← hW1]
  have hB1 : Below w.heap.size w W1 := by rw [hW1]; exact (Below.refl _ _).alloc (Nat.le_refl _) _
  clear hW1
  refine (filesOf_yes l HK.out W1 (HF.out.kept hB1)).mono ?_
  rintro e w2 ⟨b, rfl, hb, T2, hb2⟩
  have T2' : Hid (Table w2 b l) := T2
  have hB2 : Below w.heap.size w w2 := hB1.trans (hb2.mono hB1.size)
  clear T2 hb hb2 hB1
  go_wp2_with (first | (at_lookup; refine wpList_look_tab _ rfl _ _ rfl b l n (by unfold maxLen; omega) T2'.out _ _ _ HL.out (by rfl) (by rfl) ?_) | fail)
  refine (clone_str LT (by omega) _).mono ?_
  rintro e w3 ⟨rfl, hb3⟩
  have hB3 : Below w.heap.size w w3 := (hB2.alloc hB2.size _).trans (hb3.mono (hB2.alloc hB2.size _).size)
  go_wp2
  go_ret2
  exact ⟨rfl, hB3⟩
theorem implFileAt : ImplFileAt := by
  intro a g off cap l n o w hlen hsz hn ho hf
  by_cases hok : Disks.ok l
  · cases o with
    | none =>
      have hN := ho.resolve_left (fun h => h hok)
      have e1 : (Disks.look l n).2 = false := by
        rw [Disks.look_any, ← Bool.not_eq_true, Disks.any_iff]
        exact fun h => h hN
      exact implFileAt_yes l hok n hn _ _ _ (Disks.look_none e1) (Nat.zero_le _) w hf
    | some t =>
      obtain ⟨_, k, hk, ⟨_, h1, _⟩, rfl⟩ := ho
      have h2 := (Disks.nameIs_iff n l[k]).1 h1
      have h3 := Disks.look_at ((Disks.ok_iff l).1 hok).2.2 hk
      rw [h2] at h3
      exact implFileAt_yes l hok n hn l[k].1 l[k].2 true h3 (((Disks.ok_iff l).1 hok).2.1 _ (List.getElem_mem hk)).2.2 w hf
  · cases o with
    | none => exact implFileAt_no l hlen hsz hok n w hf
    | some t => exact absurd ho.1 hok
end Go.Proofs.Ytpkkejpidlkmnaa
