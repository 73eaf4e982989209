/- A region that draws its order and whose last operation waits for all the others, walked once an operation. No program is named here. The specification's Encode: what is refused, and what the walk of the rest wants. -/
import Derived.Test.YtimacmijinblmaaGreatRegInv
import Derived.Test.YtimacmijinblmaaGreatRegLast
import Derived.Test.YtimacmijinblmaaGreatSpecMsg
import Derived.Test.YtimacmijinblmaaGreatSpecConf
import Derived.Test.YtimacmijinblmaaGreatSTxt
namespace Go.Proofs.YtimacmijinblmaaGreat
open Go Go.RowKit
set_option linter.unusedVariables false
set_option linter.unusedSimpArgs false
namespace Inv
theorem held_of_any {P : Program} {md : Region.Mode} {ops : Array Oper} {Q : Exit → Act → World → Prop} : ∀ (fuel : Nat) (listed : Array Bool) (a : Act) (w : World), wpAny P md ops Q fuel listed a w → wpAnyH P md ops Q (fun _ => True) fuel listed a w
  | 0, _, _, _, h => h
  | fuel + 1, _, _, _, h => ⟨h.1, fun i hi => wpOp_mono (fun a' w' h' => ⟨trivial, held_of_any fuel _ a' w' h'⟩) (h.2 i hi)⟩
theorem region_walk_last {P : Program} {os : List Oper} {Q : Exit → Act → World → Prop} {ts : Array Value} {ds : List Deferred} {id : Nat} {w : World} (n : Nat) (V : Nat → Value → World → Prop) (hn : ts.size = n) (hm : P.follows .mixedOrders = true) (hok : lastOk os = true) (hap : apart os.dropLast.toArray = true)
    (hV : ∀ i v w w', V i v w → Below w.heap.size w w' → V i v w')
    (hop : All (Pays P os.dropLast.toArray (NX Q fun a w => wpOp P os.toArray Q (os.length - 1) (fun a' w' => Q .normal a' w') a w) n ds (fun s => ts.getD s undef) (freeOf os.dropLast.toArray) V w) 0 os.dropLast)
    (hend : ∀ (f : Nat → Value) (w' : World), Below w.heap.size w w' → (∀ s, freeOf os.dropLast.toArray s = true → f s = ts.getD s undef) → (∀ j, j < os.length - 1 → V j (f (dstOf os.dropLast.toArray j)) w') → wpOp P os.toArray Q (os.length - 1) (fun a' w' => Q .normal a' w') (act n ds f) w') :
    (Code.region id os.toArray true).wp P Q ⟨ts, ds⟩ w := by
  subst hn
  refine wp_region_last (S := fun _ => True) hm hok trivial (fun _ => held_of_any _ _ _ _ ?_)
  rw [act_of]
  have hsz : os.dropLast.toArray.size = os.length - 1 := by simp
  refine any_kept (V := V) (free := freeOf os.dropLast.toArray) (w1 := w) hap (fun i o d => freeOf_no) hV (fun i o ho => ?_) (fun f w' hb hf hv => ?_) _ _ _ _ (by simp) (by simp) ⟨_, rfl, (Below.refl _ _).drew, fun s _ => rfl, fun j p d hj hp hd => ?_⟩
  · have := All.get hop (show os.dropLast[i]? = some o by simpa using ho)
    rw [Nat.zero_add] at this
    exact this.owes hap ho
  · refine hend f w' hb hf fun j hj => ?_
    have hp : os.dropLast.toArray[j]? = some (os.dropLast[j]'(by simpa using hj)) := by simp [hj]
    obtain ⟨_, ⟨d, hd2, _⟩, _⟩ := apart_at hap hp
    have e3 : dstOf os.dropLast.toArray j = d := by simp only [dstOf, hp, Option.bind_some, hd2, Option.getD_some]
    rw [e3]
    exact hv j _ d hp hd2
  · have h1 : j < os.length - 1 := by
      have := (Array.getElem?_eq_some_iff.1 hp).1
      simpa using this
    simp [Array.getD, h1] at hj
/-- The last operation, which leaves no value. -/
theorem last_skip {P : Program} {ops : Array Oper} {o : Oper} {k : Nat} {a : Act} {w w' : World} {K : Act → World → Prop} {Q : Exit → Act → World → Prop} (ho : ops[k]? = some o) (hg : o.guard = none) (he : (execOp a.eval o).run P w = .ok .skip w') (h : K (a.put o.dst undef) w') : wpOp P ops Q k K a w := by
  unfold wpOp
  rw [ho]
  have hw : Region.wanted o (yielded ops a.tmps) = true := by simp [Region.wanted, hg]
  simp only [hw, if_true]
  left
  unfold Oper.wp
  rw [he]
  exact h
end Inv
end Go.Proofs.YtimacmijinblmaaGreat
namespace Go.Proofs.YtimacmijinblmaaGreat
open Go.RowKit
open Ents (okB)
open Msgs (okM bt)
set_option linter.unusedVariables false
set_option linter.unusedSimpArgs false

def encTuple (m : MsgL) : Value := if okM m = true then .tuple #[.string (Msgs.textS m), .bool true] else .tuple #[.string ⟨#[]⟩, .bool false]
theorem flag_q (x : Bool) (w : World) : Calls Tryz.prog 44 #[.bool x] w fun e w' => e = .returned (.string (flagS x)) ∧ Below w.heap.size w w' := by
  cases x
  all_goals
    go_enter Tryz.func44, Tryz.ntmps44
    go_wp2
    go_ret
    exact ⟨rfl, Below.refl _ _⟩
/-- Three bytes that a call has laid. -/
def Row3 (W : World) (g : Nat) (a b c : UInt8) : Prop := W.ownsRow 0 5 1 (.slice (some ⟨g, 0, none⟩) 3 3) 3 (cellsB [a, b, c])
theorem Row3.new (W : World) (a b c : UInt8) : Row3 (W.alloc (Obj.cells #[.int .u8 (a.toNat : Int), .int .u8 (b.toNat : Int), .int .u8 (c.toNat : Int)] 5)) W.heap.size a b c := by
  have := World.ownsRow_lit (base := 0) (e := 5) (size := 1) W #[.int .u8 (a.toNat : Int), .int .u8 (b.toNat : Int), .int .u8 (c.toNat : Int)] 3 (Nat.zero_le _) (by unfold maxLen; omega) rfl
  exact this
theorem Row3.kept {W W' : World} {g : Nat} {a b c : UInt8} (h : Row3 W g a b c) (hb : Below W.heap.size W W') : Row3 W' g a b c := own_kept h hb
theorem Row3.cv {W : World} {g : Nat} {a b c : UInt8} (h : Row3 W g a b c) : (convert 31 9 (.slice (some ⟨g, 0, none⟩) 3 3)).run Tryz.prog W = .ok (.string ⟨#[a, b, c]⟩) W := string_own (l := [a, b, c]) h
theorem wrap_small (k : Int) (h0 : 1 ≤ k) (h1 : k ≤ 6) : IntKind.u8.wrap k = ((bt k).toNat : Int) := by
  have : k = 1 ∨ k = 2 ∨ k = 3 ∨ k = 4 ∨ k = 5 ∨ k = 6 := by omega
  rcases this with rfl | rfl | rfl | rfl | rfl | rfl <;> decide
theorem front_is (m : MsgL) (x y z : UInt8) (hx : x = bt m.kind) (hy : y = bt m.frm) (hz : z = bt m.dst) : Is ((⟨#[x, y, z]⟩ : ByteArray) ++ varS m.term ++ varS m.index ++ varS m.lterm ++ varS m.commit ++ flagS m.ok ++ flagS m.last ++ varS (m.ents.length : Int)) (Msgs.front m) := by
  subst hx hy hz
  have h := (((((((Is.mk [bt m.kind, bt m.frm, bt m.dst]).app (varS_is m.term)).app (varS_is m.index)).app (varS_is m.lterm)).app (varS_is m.commit)).app (flagS_is m.ok)).app (flagS_is m.last)).app (varS_is (m.ents.length : Int))
  exact h
theorem textS_len (i : Nat) (e : EntL) (h : okB e = true) (hi : i ≤ 100000) : (Ents.textS i e).size ≤ 300000 := by
  obtain ⟨⟨t0, t1⟩, hk⟩ := Ents.okB_iff.1 h
  obtain ⟨_, hd⟩ := Ents.kind_in hk
  have e1 : (Ents.textS i e).size = (Ents.text i e).length := by show (Ents.text i e).toArray.size = _; simp
  have v1 := Words.var_len i
  have v2 := Words.var_len e.term.toNat
  have e2 : (Batches.by_ e.data).length = e.data.size := Words.size_list _
  rw [e1]
  simp only [Ents.text, List.length_cons, List.length_append, e2]
  omega

set_option maxHeartbeats 4000000 in
set_option maxRecDepth 100000 in
theorem specEnc_no {a b : Option Addr} {g off cap h offb capb : Nat} (m : MsgL) (hok : okM m = false) (hlen : m.ents.length ≤ 1048576) (hd : ∀ e ∈ m.ents, e.data.size ≤ 1048576) (hlc : m.conf.length ≤ 1048576) (hds : m.data.size ≤ 1048576) (w : World) (hf : EnAt w a g off m.ents) (hc : IntAt w b h offb m.conf) :
    Calls Tryz.prog 21 #[msgV m a cap b capb] w fun en w' => en = .returned (.tuple #[.string ⟨#[]⟩, .bool false]) ∧ Below w.heap.size w w' := by
  have HQ : Hid (∀ W', EnAt W' a g off m.ents → IntAt W' b h offb m.conf → Calls Tryz.prog 13 #[.agg #[.int .i64 m.kind, .int .i64 m.frm, .int .i64 m.dst, .int .i64 m.term, .int .i64 m.index, .int .i64 m.lterm, .int .i64 m.commit, .bool m.ok, .slice a m.ents.length cap, .slice b m.conf.length capb, .string m.data, .bool m.last]] W' fun en w' => en = .returned (.bool false) ∧ Below W'.heap.size W' w') := fun W' x y => by
    have := specMsgOk_is (cap := cap) (capb := capb) m hlen hd hlc hds W' x y
    rw [hok] at this
    exact this
  unfold msgV
  obtain ⟨W, hW⟩ : ∃ W, W = w.alloc (Obj.cells (msgC m a cap b capb) 25) := ⟨_, rfl⟩
  have hb : Below w.heap.size w W := by rw [hW]; exact (Below.refl _ _).alloc (Nat.le_refl _) _
  have HB : Hid (Below w.heap.size w W) := hb
  have HEN : Hid (EnAt W a g off m.ents) := hf.kept hb
  have HCO : Hid (IntAt W b h offb m.conf) := hc.kept hb
  have HWD : Hid (w.alloc (Obj.cells #[.int .i64 m.kind, .int .i64 m.frm, .int .i64 m.dst, .int .i64 m.term, .int .i64 m.index, .int .i64 m.lterm, .int .i64 m.commit, .bool m.ok, .slice a m.ents.length cap, .slice b m.conf.length capb, .string m.data, .bool m.last] 25) = W) := hW.symm
  clear hb hf hc hW
  go_enter Tryz.func21, Tryz.ntmps21
  go_wp2_with fail
  rw [HWD.out]
  clear HWD
  refine Calls.mono (HQ.out _ HEN.out HCO.out) ?_
  rintro en w1 ⟨rfl, hb1⟩
  have HB1 : Hid (Below w.heap.size w w1) := HB.out.trans (hb1.mono HB.out.size)
  clear hb1 HQ
  go_wp2
  go_ret2
  exact ⟨rfl, HB1.out⟩
end Go.Proofs.YtimacmijinblmaaGreat
