/- What the list of variables gives: the table of powers; Itoa and the program's Decimal at every int. -/
import Derived.Test.YtcmjidcdkooliaaDoorRows
import Derived.Test.YtcmjidcdkooliaaDoorShelf
import Derived.WalkKit
import Derived.WalkSpells
import Derived.WalkLawsBesides
import Derived.Stop.LaidErr
import Derived.Lib.AppendIntMem
import Derived.Lib.LaidTab
namespace Go.Proofs.YtcmjidcdkooliaaDoor
open Go.RowKit

def Pow (w : World) : Prop := Lib.TabIs Tryd.prog w "internal/strconv.uint64pow10" .u64 Lib.pow10Tab
theorem Pow.below {w w' : World} (h : Pow w) (hb : Below w.heap.size w w') : Pow w' := Lib.tabBelow_of_tabIs h w' hb
theorem below_grow (w : World) (q : Nat) (os : Array Obj) : Below w.heap.size w (Sort.grow (w.drewN q) os) :=
  ⟨rfl, rfl, rfl, by simp [Sort.grow], fun i hi => by
    show ((w.drewN q).heap ++ os)[i]? = _
    rw [Array.getElem?_append_left (by show i < w.heap.size; omega)]
    rfl⟩

set_option maxHeartbeats 400000 in
theorem implDec_any (n : Int) (hn1 : -9223372036854775808 ≤ n) (hn2 : n ≤ 9223372036854775807) (w : World) (hp : Pow w) :
    Calls Tryd.prog 8 #[.int .i64 n] w fun e w' => e = .returned (.string ⟨(Lib.itoa n).toArray⟩) ∧ Below w.heap.size w w' := by
  have HP : Hid (Pow w) := hp
  have H1 : Hid (_ ≤ _) := hn1
  have H2 : Hid (_ ≤ _) := hn2
  clear hp hn1 hn2
  go_enter Tryd.func8, Tryd.ntmps8
  go_wp2_with (go_at_call 10; refine (Tryd.strconv_Itoa n H1.out H2.out _ HP.out).mono ?_; rintro e w1 ⟨rfl, k, os, rfl⟩)
  go_ret
  exact ⟨rfl, below_grow _ _ _⟩

theorem gPow : Tryd.prog.globalNamed "internal/strconv.uint64pow10" = some 0 := by kernel_rfl
theorem gPowType : (Tryd.prog.globals[0]?).map (·.type) = some 36 := by kernel_rfl
theorem cells62 : Tryd.prog.cellsOf 36 = 20 := by kernel_rfl
theorem cells55 : Tryd.prog.cellsOf 29 = 1 := by kernel_rfl
/-- What the rows' list gives: the table of powers. -/
theorem pow_of {W : World} (h : laidMetH Tryd.prog [("math/bits.deBruijn32tab", Rows.laid_math_bits_deBruijn32tab), ("math/bits.deBruijn64tab", Rows.laid_math_bits_deBruijn64tab), ("internal/strconv.uint64pow10", Rows.laid_internal_strconv_uint64pow10)] W) : Pow W :=
  Lib.tabIs_of_head (rest := []) gPow gPowType Tryd.underlying36 Tryd.underlying29 cells55 cells62 (laidMet.tail (laidMet.tail h))
end Go.Proofs.YtcmjidcdkooliaaDoor
