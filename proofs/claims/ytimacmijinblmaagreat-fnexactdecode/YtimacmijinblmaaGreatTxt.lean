/- Contracts of library functions at this program: laid by program from theorems of the given library, no walk of ours. The call of strings.Clone: the same text. Texts by their bytes; varOf, walked. -/
import Derived.Shelf.LaysM
import Derived.Shelf.Strconv.Clone
import Derived.Test.YtimacmijinblmaaGreatProg
import Derived.Test.YtimacmijinblmaaGreatVar
import Derived.Test.YtimacmijinblmaaGreatMathBatch
namespace Go.Proofs
open Go.Shelf
def Tryz.laysM316_ren : Go.Shelf.Ren := ⟨fun | 316 => 128 | n => n, fun | 9 => 9 | 3 => 3 | 4 => 4 | 37 => 31 | 0 => 0 | 127 => 134 | 5 => 5 | n => n, fun | n => n⟩
theorem Tryz.laysM316 : Go.Proofs.LaysM.n316 Tryz.prog Tryz.laysM316_ren := {
  mixed := by kernel_rfl
  f316 := Tryz.func128.trans (congrArg some (by kernel_rfl))
  t0 := Tryz.underlying0
  a0 := Tryz.isAgg0
  z0 := Tryz.sizeOf0
  v0 := Tryz.zeroValue0
  t3 := Tryz.underlying3
  a3 := Tryz.isAgg3
  z3 := Tryz.sizeOf3
  v3 := Tryz.zeroValue3
  t4 := Tryz.underlying4
  a4 := Tryz.isAgg4
  z4 := Tryz.sizeOf4
  v4 := Tryz.zeroValue4
  t9 := Tryz.underlying9
  a9 := Tryz.isAgg9
  z9 := Tryz.sizeOf9
  v9 := Tryz.zeroValue9
  t37 := Tryz.underlying31
  a37 := Tryz.isAgg31
  z37 := Tryz.sizeOf31
  v37 := Tryz.zeroValue31
  t127 := Tryz.underlying134
  a127 := Tryz.isAgg134
  z127 := Tryz.sizeOf134
  v127 := Tryz.zeroValue134
  t5 := Tryz.underlying5
  a5 := Tryz.isAgg5
  z5 := Tryz.sizeOf5
  v5 := Tryz.zeroValue5
  i0 := by kernel_rfl
  i3 := by kernel_rfl
  i4 := by kernel_rfl
  i5 := by kernel_rfl
  i9 := by kernel_rfl
  i37 := by kernel_rfl
  i127 := by kernel_rfl }
open Go.RowKit in
theorem Tryz.stringslite_Clone (s : ByteArray) (w : World) (hlim : s.size ≤ 281474976710656) :
    Calls Tryz.prog 128 #[.string s] w fun e w' => e = .returned (.string s) ∧ Below w.heap.size w w' := Any.stringslite_Clone Tryz.laysM316 s w hlim
end Go.Proofs
namespace Go.Proofs.YtimacmijinblmaaGreat
open Go.RowKit

set_option maxHeartbeats 400000 in
theorem clone_any (s : ByteArray) (h : s.size ≤ 281474976710656) (w : World) :
    Calls Tryz.prog 122 #[.string s] w fun e w' => e = .returned (.string s) ∧ Below w.heap.size w w' := by
  go_enter Tryz.func122, Tryz.ntmps122
  go_wp2_with (go_at_call 128; refine (Tryz.stringslite_Clone s _ h).mono ?_; rintro e w1 ⟨rfl, hb1⟩)
  go_ret
  exact ⟨rfl, hb1⟩
end Go.Proofs.YtimacmijinblmaaGreat
namespace Go.Proofs.YtimacmijinblmaaGreat
open Go.RowKit

theorem app_list (a b : ByteArray) : (a ++ b).data.toList = a.data.toList ++ b.data.toList := by simp
/-- A text of these bytes. -/
def Is (S : ByteArray) (l : List UInt8) : Prop := S.data.toList = l
theorem Is.app {S T : ByteArray} {l m : List UInt8} (h1 : Is S l) (h2 : Is T m) : Is (S ++ T) (l ++ m) := by
  unfold Is at *; rw [app_list, h1, h2]
theorem Is.size {S : ByteArray} {l : List UInt8} (h : Is S l) : S.size = l.length := by unfold Is at h; rw [← h]; rfl
theorem Is.eq {S : ByteArray} {l : List UInt8} (h : Is S l) : S = ⟨l.toArray⟩ := by
  unfold Is at h
  cases S; simp at h; subst h; simp
theorem Is.mk (l : List UInt8) : Is ⟨l.toArray⟩ l := rfl

def varS (x : Int) : ByteArray := ⟨(Words.var x.toNat).toArray⟩
def shortS (s : ByteArray) : ByteArray := ⟨(Batches.short s).toArray⟩
def flagS (g : Bool) : ByteArray := ⟨#[Batches.flag g]⟩
theorem varS_is (x : Int) : Is (varS x) (Words.var x.toNat) := rfl
theorem shortS_is (s : ByteArray) : Is (shortS s) (Batches.short s) := rfl
theorem flagS_is (g : Bool) : Is (flagS g) [Batches.flag g] := rfl
theorem varS_size (x : Int) (B : Nat) (h : x ≤ B) : (varS x).size ≤ B + 1 := by rw [(varS_is x).size]; have := Words.var_len x.toNat; omega
theorem shortS_size (s : ByteArray) (B : Nat) (h : s.size ≤ B) : (shortS s).size ≤ 2 * B + 1 := by rw [(shortS_is s).size]; have := Batches.short_len s; omega
theorem flagS_size (g : Bool) : (flagS g).size = 1 := rfl
end Go.Proofs.YtimacmijinblmaaGreat
