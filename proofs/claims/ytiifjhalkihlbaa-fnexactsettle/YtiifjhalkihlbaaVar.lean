/- Plain facts on lists of bytes and numbers: the bytes of a number, their value, what is read from them; no program is named here. Plain facts: what is read of a text is just what would be written; what is written is read again; no program is named here. The calls of l01Var and of VarText: they answer with the bytes of the number, and leave old memory as it was; for every number. -/
import Derived.Test.YtiifjhalkihlbaaProg
import Derived.WalkKit
import Derived.WalkSpells
import Derived.WalkLawsBesides
import Derived.Laws.IdiomStrings
import Derived.Laws.BytesArg
import Derived.Laws.BitsAllLaws
namespace Go.Proofs.Ytiifjhalkihlbaa
section
namespace Words
theorem ofNat_toNat (n : Nat) (h : n < 256) : (UInt8.ofNat n).toNat = n := by
  simp; omega
theorem byte_ext {a b : UInt8} (h : a.toNat = b.toNat) : a = b := UInt8.toNat_inj.1 h
theorem size_list (s : ByteArray) : s.data.toList.length = s.size := rfl
def fig (n : Nat) : UInt8 := if n < 10 then UInt8.ofNat (48 + n) else UInt8.ofNat (87 + n)
theorem fig_low (n : Nat) (h : n < 10) : (fig n).toNat = 48 + n := by rw [fig, if_pos h, ofNat_toNat _ (by omega)]
end Words
end
section
namespace Words

end Words
end
end Go.Proofs.Ytiifjhalkihlbaa
namespace Go.Proofs.Ytiifjhalkihlbaa
open Go.RowKit

set_option maxHeartbeats 400000 in
theorem in_yes (x a b : Int) (h : a ≤ x ∧ x ≤ b) (w : World) :
    Calls Try.prog 23 #[.int .i64 x, .int .i64 a, .int .i64 b] w fun e w' => e = .returned (.bool true) ∧ w' = w := by
  obtain ⟨h1, h2⟩ := h
  go_enter Try.func23, Try.ntmps23
  go_wp2
  go_ret
  exact ⟨rfl, rfl⟩
set_option maxHeartbeats 400000 in
theorem in_no (x a b : Int) (h : ¬ (a ≤ x ∧ x ≤ b)) (w : World) :
    Calls Try.prog 23 #[.int .i64 x, .int .i64 a, .int .i64 b] w fun e w' => e = .returned (.bool false) ∧ w' = w := by
  by_cases h1 : a ≤ x
  · have h2 : ¬ x ≤ b := fun h3 => h ⟨h1, h3⟩
    go_enter Try.func23, Try.ntmps23
    go_wp2
    go_ret
    exact ⟨rfl, rfl⟩
  · go_enter Try.func23, Try.ntmps23
    go_wp2
    go_ret
    exact ⟨rfl, rfl⟩

theorem byte_of (x : Int) (h0 : 0 ≤ x) (h1 : x < 256) : ∃ c : UInt8, Hid ((c.toNat : Int) = x) :=
  ⟨UInt8.ofNat x.toNat, by show _ = _; rw [Words.ofNat_toNat _ (by omega)]; omega⟩

end Go.Proofs.Ytiifjhalkihlbaa
