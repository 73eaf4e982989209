/- Plain facts on lists of bytes and numbers: the bytes of a number, their value, what is read from them; no program is named here. The calls of l01Var and of VarText: they answer with the bytes of the number, and leave old memory as it was; for every number. Plain facts on batches: which are right, their texts, what is read of a text; no program is named here. -/
import Derived.Test.YtpedpdgkbmpfjaaDoorRows
import Derived.WalkKit
import Derived.WalkSpells
import Derived.WalkLawsBesides
import Derived.Laws.IdiomStrings
import Derived.Laws.BytesArg
import Derived.Laws.BitsAllLaws
namespace Go.Proofs.YtpedpdgkbmpfjaaDoor.Words
theorem ofNat_toNat (n : Nat) (h : n < 256) : (UInt8.ofNat n).toNat = n := by
  simp; omega
theorem byte_ext {a b : UInt8} (h : a.toNat = b.toNat) : a = b := UInt8.toNat_inj.1 h
theorem size_list (s : ByteArray) : s.data.toList.length = s.size := rfl
theorem extract_list (s : ByteArray) (a b : Nat) : (s.extract a b).data.toList = (s.data.toList.drop a).take (b - a) := by
  simp [ByteArray.data_extract]
def fig (n : Nat) : UInt8 := if n < 10 then UInt8.ofNat (48 + n) else UInt8.ofNat (87 + n)
theorem take_snoc (s : ByteArray) (k : Nat) (h : k < s.size) : s.data.toList.take (k + 1) = s.data.toList.take k ++ [s[k]] := by
  rw [List.take_succ_eq_append_getElem (by simpa using h)]; rfl
theorem fig_low (n : Nat) (h : n < 10) : (fig n).toNat = 48 + n := by rw [fig, if_pos h, ofNat_toNat _ (by omega)]
theorem fig_high (n : Nat) (h : ¬ n < 10) (h2 : n < 16) : (fig n).toNat = 87 + n := by rw [fig, if_neg h, ofNat_toNat _ (by omega)]
end Go.Proofs.YtpedpdgkbmpfjaaDoor.Words
namespace Go.Proofs.YtpedpdgkbmpfjaaDoor
open Go.RowKit

set_option maxHeartbeats 400000 in
theorem in_yes (x a b : Int) (h : a ≤ x ∧ x ≤ b) (w : World) :
    Calls Tryd.prog 24 #[.int .i64 x, .int .i64 a, .int .i64 b] w fun e w' => e = .returned (.bool true) ∧ w' = w := by
  obtain ⟨h1, h2⟩ := h
  go_enter Tryd.func24, Tryd.ntmps24
  go_wp2
  go_ret
  exact ⟨rfl, rfl⟩
set_option maxHeartbeats 400000 in
theorem in_no (x a b : Int) (h : ¬ (a ≤ x ∧ x ≤ b)) (w : World) :
    Calls Tryd.prog 24 #[.int .i64 x, .int .i64 a, .int .i64 b] w fun e w' => e = .returned (.bool false) ∧ w' = w := by
  by_cases h1 : a ≤ x
  · have h2 : ¬ x ≤ b := fun h3 => h ⟨h1, h3⟩
    go_enter Tryd.func24, Tryd.ntmps24
    go_wp2
    go_ret
    exact ⟨rfl, rfl⟩
  · go_enter Tryd.func24, Tryd.ntmps24
    go_wp2
    go_ret
    exact ⟨rfl, rfl⟩

end Go.Proofs.YtpedpdgkbmpfjaaDoor
namespace Go.Proofs.YtpedpdgkbmpfjaaDoor
structure ChangeL where
  key : ByteArray
  value : ByteArray
  gone : Bool
namespace Batches
open Go
/-- Texts byte by byte, a beginning being less. -/
def lt (a b : ByteArray) : Bool := Op.bytesLess a.toList b.toList
abbrev by_ (s : ByteArray) : List UInt8 := s.data.toList
theorem toList_by (s : ByteArray) : s.toList = by_ s := ByteArray.toList_eq s
theorem by_inj {a b : ByteArray} (h : by_ a = by_ b) : a = b := by
  cases a; cases b
  simp only [ByteArray.mk.injEq]
  exact Array.ext' h
theorem less_eq : ∀ (x y : List UInt8), Op.bytesLess x y = decide (x < y)
  | [], [] => by simp [Op.bytesLess]
  | _ :: _, [] => by simp [Op.bytesLess]
  | [], _ :: _ => by simp [Op.bytesLess]
  | a :: x, b :: y => by
    rw [Op.bytesLess, less_eq x y]
    simp only [List.cons_lt_cons_iff]
    by_cases h1 : a < b <;> by_cases h2 : a = b <;> by_cases h3 : x < y <;> simp [h1, h2, h3]
theorem lt_iff (a b : ByteArray) : lt a b = true ↔ by_ a < by_ b := by
  unfold lt; rw [less_eq, toList_by, toList_by, decide_eq_true_iff]
theorem lt_irrefl (a : ByteArray) : lt a a = false := by
  cases h : lt a a
  · rfl
  · exact absurd ((lt_iff a a).1 h) (List.lt_irrefl _)
theorem lt_trans {a b c : ByteArray} (h1 : lt a b = true) (h2 : lt b c = true) : lt a c = true :=
  (lt_iff a c).2 (List.lt_trans ((lt_iff a b).1 h1) ((lt_iff b c).1 h2))
theorem lt_total {a b : ByteArray} (h1 : lt a b = false) (h2 : lt b a = false) : a = b := by
  have e1 : ¬ by_ a < by_ b := fun h => by rw [(lt_iff a b).2 h] at h1; cases h1
  have e2 : ¬ by_ b < by_ a := fun h => by rw [(lt_iff b a).2 h] at h2; cases h2
  exact by_inj (List.le_antisymm (List.not_lt.1 e2) (List.not_lt.1 e1))
theorem lt_asymm {a b : ByteArray} (h : lt a b = true) : lt b a = false := by
  cases h2 : lt b a
  · rfl
  · have := lt_trans h h2; rw [lt_irrefl] at this; cases this

def changeOk (c : ChangeL) : Prop := 1 ≤ c.key.size ∧ c.key.size ≤ 10 ∧ c.value.size ≤ 40 ∧ (c.gone = true → c.value.size = 0)
/-- Is the change at j right, and behind the one ahead of it? -/
def okAt (l : List ChangeL) (j : Nat) : Prop := ∃ hj : j < l.length, changeOk l[j] ∧ (0 < j → ∃ hi : j - 1 < l.length, lt l[j - 1].key l[j].key = true)
def ok (st : Int) (l : List ChangeL) : Prop := (0 ≤ st ∧ st ≤ 100000) ∧ l.length ≤ 60 ∧ ∀ j, j < l.length → okAt l j
theorem ok_step {l : List ChangeL} {k : Nat} (h : ∀ j, j < k → okAt l j) (hk : okAt l k) : ∀ j, j < k + 1 → okAt l j := fun j hj => by
  rcases Nat.lt_succ_iff_lt_or_eq.1 hj with h1 | h1
  · exact h j h1
  · rw [h1]; exact hk
theorem not_ok {st : Int} {l : List ChangeL} {j : Nat} (hj : j < l.length) (h : ¬ okAt l j) : ¬ ok st l := fun h2 => h (h2.2.2 j hj)

end Batches
end Go.Proofs.YtpedpdgkbmpfjaaDoor
