/- The program's contentText, EntryOk and EntryText, walked. -/
import Derived.Test.YtimacmijinblmaaGreatImplEnt
import Derived.Test.YtimacmijinblmaaGreatSpecEntT
namespace Go.Proofs.YtimacmijinblmaaGreat
open Go.RowKit
open Ents (okB kindB text textS right confOf confS)
set_option linter.unusedVariables false
set_option linter.unusedSimpArgs false

theorem met_none  (w : World) : (method 249 125 (.agg #[]) "loop.example/g00103/impl.data").run Tryz.prog w = .ok (146, .agg #[]) w := by kernel_rfl
theorem met_conf {ua : Option Addr} {un uc : Nat} (w : World) : (method 249 127 (.agg #[.slice ua un uc]) "loop.example/g00103/impl.data").run Tryz.prog w = .ok (147, .agg #[.slice ua un uc]) w := by kernel_rfl
theorem met_cmd {u : ByteArray} (w : World) : (method 249 129 (.agg #[.string u]) "loop.example/g00103/impl.data").run Tryz.prog w = .ok (148, .agg #[.string u]) w := by kernel_rfl
theorem neq_nil (t : TypeId) (x : Value) (w : World) : (binOp .neq 115 (.iface t x) .nilIface).run Tryz.prog w = .ok (.bool true) w := by kernel_rfl
theorem neq_nilnil (w : World) : (binOp .neq 115 .nilIface .nilIface).run Tryz.prog w = .ok (.bool false) w := by kernel_rfl
theorem ContV.iface {W : World} {B : Nat} {e : EntL} {v : Value} (h : ContV W B e v) : ∃ t x, v = .iface t x := by
  rcases h with ⟨_, _, h⟩ | ⟨_, _, u, h, _⟩ | ⟨_, h⟩
  · exact ⟨_, _, h⟩
  · exact ⟨_, _, h⟩
  · exact ⟨_, _, h⟩
set_option maxHeartbeats 2000000 in
set_option maxRecDepth 100000 in
theorem implEntOk_is (e : EntL) (hs : e.data.size ≤ 1048576) (w : World) : Calls Tryz.prog 116 #[entV e] w fun en w' => en = .returned (.bool (okB e)) ∧ Below w.heap.size w w' := by
  obtain ⟨O, hO⟩ : ∃ O, O = okB e := ⟨_, rfl⟩
  rw [← hO]
  obtain ⟨W, hW⟩ : ∃ W, W = w.alloc (Obj.cells #[.int .i64 e.term, .int .i64 e.kind, .string e.data] 44) := ⟨_, rfl⟩
  have hE : EntAt W w.heap.size e := by rw [hW]; exact EntAt.new w e
  obtain ⟨c0, c1, c2⟩ := hE
  rw [hW] at c0 c1 c2
  have HB : Hid (Below w.heap.size w W) := by show Below _ _ _; rw [hW]; exact (Below.refl _ _).alloc (Nat.le_refl _) _
  have HCO : Hid (∀ W, Calls Tryz.prog 119 #[.int .i64 e.kind, .string e.data] W (ContPost W e)) := fun W => contentOf_is e hs W
  have q1 := neq_nil
  have q2 := neq_nilnil
  unfold entV
  by_cases ht : 0 ≤ e.term ∧ e.term ≤ 100000
  · have hk : O = kindB e := by rw [hO]; unfold okB; simp [ht]
    have HT : Hid (∀ W, Calls Tryz.prog 108 #[.int .i64 e.term] W fun en w' => en = .returned (.bool true) ∧ w' = W) := fun W => termOk_is _ true (by simp [ht]) W
    have HKK : Hid (O = kindB e) := hk
    clear hO hk ht
    go_enter Tryz.func116, Tryz.ntmps116
    go_wp2_with fail
    refine Calls.mono (HT.out _) ?_
    rintro en w1 ⟨rfl, hw1⟩
    subst hw1
    go_wp2_with fail
    rw [← hW]
    clear c0 c1 c2 hW
    refine Calls.mono (HCO.out _) ?_
    rintro en w2 ⟨v, rfl, hv, hb2⟩
    have HB2 : Hid (Below w.heap.size w w2) := HB.out.trans (hb2.mono HB.out.size)
    clear hb2
    rcases hv with ⟨hk, rfl⟩ | ⟨hk, hv⟩
    · have hOf : O = false := by rw [HKK.out, hk]
      subst hOf
      clear hk HKK
      go_wp2
      go_ret
      exact ⟨rfl, HB2.out⟩
    · have hOf : O = true := by rw [HKK.out, hk]
      subst hOf
      obtain ⟨t, x, hvx⟩ := hv.iface
      subst hvx
      clear hk HKK hv
      go_wp2
      go_ret
      exact ⟨rfl, HB2.out⟩
  · have hOf : O = false := by rw [hO]; unfold okB; simp [ht]
    have HT : Hid (∀ W, Calls Tryz.prog 108 #[.int .i64 e.term] W fun en w' => en = .returned (.bool false) ∧ w' = W) := fun W => termOk_is _ false (by simp [ht]) W
    clear hO ht
    subst hOf
    go_enter Tryz.func116, Tryz.ntmps116
    go_wp2_with fail
    refine Calls.mono (HT.out _) ?_
    rintro en w1 ⟨rfl, hw1⟩
    subst hw1
    rw [← hW]
    clear c0 c1 c2 hW
    go_wp2
    go_ret
    exact ⟨rfl, HB.out⟩
end Go.Proofs.YtimacmijinblmaaGreat
