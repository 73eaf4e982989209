/- The calls of DirMore, the specification's and the program's, walked. -/
import Derived.Test.YtjpokcjpogkafaaGreatDoorSpecMore
import Derived.Test.YtjpokcjpogkafaaGreatDoorDirOk
namespace Go.Proofs.YtjpokcjpogkafaaGreatDoor
open Go.RowKit
set_option linter.unusedVariables false

def MoreR (l xs cs : List SpotL) (R : Bool) : Prop := Dirs.MoreIs l xs cs R
theorem moreR_ex (l xs : List SpotL) : ∃ cs R, MoreR l xs cs R := by
  by_cases h : Dirs.ok l ∧ Dirs.ok (Dirs.more l xs)
  · exact ⟨_, _, Or.inl ⟨h.1, h.2, rfl, rfl⟩⟩
  · exact ⟨_, _, Or.inr ⟨h, rfl, rfl⟩⟩
def MorePost (w : World) (l : List SpotL) (R : Bool) (en : Ending) (w' : World) : Prop := ∃ v, en = .returned (.tuple #[v, .bool R]) ∧ w'.ownsRow w.heap.size 135 4 v l.length (cellsSpot l) ∧ Below w.heap.size w w'
theorem small_up {l : List SpotL} (h : ∀ r ∈ l, smallSpot 1048576 r) : ∀ r ∈ l, smallSpot 2097152 r := fun r hr => Nat.le_trans (h r hr) (by omega)
set_option maxHeartbeats 1000000 in
set_option maxRecDepth 100000 in
theorem implMore_any {l xs cs : List SpotL} {R : Bool} (hR : MoreR l xs cs R) {a a2 : Option Addr} {g off cap g2 off2 cap2 : Nat} (hl : l.length ≤ 1048576) (hx : xs.length ≤ 1048576) (hsl : ∀ r ∈ l, smallSpot 1048576 r) (hsx : ∀ r ∈ xs, smallSpot 1048576 r) (w : World) (hf : SpotAt w a g off l) (hf2 : SpotAt w a2 g2 off2 xs) :
    Calls Tryz.prog 167 #[.slice a l.length cap, .slice a2 xs.length cap2] w (MorePost w cs R) := by
  have HF : Hid (SpotAt w a g off l) := hf
  have HX : Hid (SpotAt w a2 g2 off2 xs) := hf2
  have HSL : Hid (∀ r ∈ l, smallSpot 2097152 r) := small_up hsl
  have HSX : Hid (∀ r ∈ xs, smallSpot 2097152 r) := small_up hsx
  have HSM : Hid (∀ r ∈ Dirs.more l xs, smallSpot 2097152 r) := Dirs.more_all xs l (small_up hsl) (small_up hsx)
  have HR : Hid (MoreR l xs cs R) := hR
  clear hf hf2 hsl hsx hR
  have hml : (Dirs.more l xs).length ≤ 2097152 := by have := Dirs.more_len xs l; omega
  by_cases hok : Dirs.ok l
  · have HK : Hid (Dirs.ok l) := hok
    clear hok
    have hmk := make_stab
    go_enter Tryz.func167, Tryz.ntmps167
    go_wp2_with fail
    refine (implDirOk_any true l (by omega) w HF.out HSL.out (by simp [HK.out])).mono ?_
    rintro e w1 ⟨rfl, hb1⟩
    obtain ⟨b, hb⟩ : ∃ b, b = w1.heap.size := ⟨_, rfl⟩
    obtain ⟨W2, hW2⟩ : ∃ W2, W2 = w1.alloc (Obj.map #[] 0) := ⟨_, rfl⟩
    have T2 : Hid (STable W2 b []) := by show STable _ _ _; rw [hW2, hb]; exact stable_made w1
    have hB2 : Below w.heap.size w W2 := by rw [hW2]; exact hb1.alloc hb1.size _
    have hbw : w.heap.size ≤ b := by rw [hb]; exact hb1.size
    go_wp2_with fail
    rw [← hW2, ← hb]
    clear hW2 hb hb1 hmk
    have HL1 : Hid (Dirs.more [] l = l) := Dirs.more_self (Dirs.ok_asc HK.out) (Dirs.ok_size HK.out)
    refine (take_is [] l List.Pairwise.nil (by simp; omega) HSL.out b W2 T2.out (HF.out.kept hB2) (fun hp => by have := HF.out.lt hp; omega)).mono ?_
    rintro e w3 ⟨rfl, hT3, hg3⟩
    rw [HL1.out] at hT3
    have T3 : Hid (STable w3 b l) := hT3
    have hB3 : Below w.heap.size w w3 := hB2.grown hg3 hB2.size (fun k e => by cases e; exact hbw)
    clear hT3 hg3 T2 hB2
    go_wp2_with fail
    refine (take_is l xs (Dirs.ok_asc HK.out) (by omega) HSX.out b w3 T3.out (HX.out.kept hB3) (fun hp => by have := HX.out.lt hp; omega)).mono ?_
    rintro e w4 ⟨rfl, hT4, hg4⟩
    have T4 : Hid (STable w4 b (Dirs.more l xs)) := hT4
    have hB4 : Below w.heap.size w w4 := hB3.grown hg4 hB3.size (fun k e => by cases e; exact hbw)
    clear hT4 hg4 T3 hB3
    go_wp2_with fail
    refine (told_is (Dirs.more l xs) (Dirs.asc_more xs l (Dirs.ok_asc HK.out)) (by have := Dirs.more_len xs l; have := HK.out.1; omega) HSM.out b w4 T4.out).mono ?_
    rintro e w5 ⟨v, rfl, hown5, hb5⟩
    obtain ⟨va, gg, vc, rfl, hat⟩ := cellsSpot_slice hown5
    have hB5 : Below w.heap.size w w5 := hB4.trans (hb5.mono hB4.size)
    have HO5 : Hid (w5.ownsRow w.heap.size 135 4 (.slice va (Dirs.more l xs).length vc) (Dirs.more l xs).length (cellsSpot (Dirs.more l xs))) := own_mono hown5 hB4.size
    have HA5 : Hid (SpotAt w5 va gg 0 (Dirs.more l xs)) := hat
    clear hown5 hat hb5 hB4 T4
    by_cases hok2 : Dirs.ok (Dirs.more l xs)
    · have HK2 : Hid (Dirs.ok (Dirs.more l xs)) := hok2
      clear hok2
      go_wp2_with fail
      refine (implDirOk_any true (Dirs.more l xs) hml w5 HA5.out HSM.out (by simp [HK2.out])).mono ?_
      rintro e w6 ⟨rfl, hb6⟩
      go_wp2
      go_ret2
      rcases HR.out with ⟨_, _, rfl, rfl⟩ | ⟨h, _⟩
      · exact ⟨_, rfl, own_kept HO5.out hb6, hB5.trans (hb6.mono hB5.size)⟩
      · exact absurd ⟨HK.out, HK2.out⟩ h
    · have HK2 : Hid (¬ Dirs.ok (Dirs.more l xs)) := hok2
      clear hok2
      go_wp2_with fail
      refine (implDirOk_any false (Dirs.more l xs) hml w5 HA5.out HSM.out (by simp [HK2.out])).mono ?_
      rintro e w6 ⟨rfl, hb6⟩
      have hB6 : Below w.heap.size w w6 := hB5.trans (hb6.mono hB5.size)
      go_wp2
      go_ret2
      rcases HR.out with ⟨_, h, _⟩ | ⟨_, rfl, rfl⟩
      · exact absurd h HK2.out
      · exact ⟨_, rfl, World.ownsRow_nil _ _ _ _, hB6⟩
  · have HK : Hid (¬ Dirs.ok l) := hok
    clear hok
    go_enter Tryz.func167, Tryz.ntmps167
    go_wp2_with fail
    refine (implDirOk_any false l (by omega) w HF.out HSL.out (by simp [HK.out])).mono ?_
    rintro e w1 ⟨rfl, hb1⟩
    go_wp2
    go_ret2
    rcases HR.out with ⟨h, _⟩ | ⟨_, rfl, rfl⟩
    · exact absurd h HK.out
    · exact ⟨_, rfl, World.ownsRow_nil _ _ _ _, hb1⟩
end Go.Proofs.YtjpokcjpogkafaaGreatDoor
