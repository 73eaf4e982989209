/- The program's contentText, EntryOk and EntryText, walked. -/
import Derived.Test.YtimacmijinblmaaGreatImplEnt
import Derived.Test.YtimacmijinblmaaGreatSpecEntT
namespace Go.Proofs.YtimacmijinblmaaGreat
open Go.RowKit
open Ents (okB kindB text textS right confOf confS)
set_option linter.unusedVariables false
set_option linter.unusedSimpArgs false

theorem met_none  (w : World) : (method 249 125 (.agg #[]) "loop.example/g00103/impl.data").run Tryz.prog w = .ok (146, .agg #[]) w := by kernel_rfl
set_option maxHeartbeats 4000000 in
set_option maxRecDepth 100000 in
theorem contentText_none  (k : Int) (b : UInt8) (hw : IntKind.u8.wrap k = (b.toNat : Int)) (d : ByteArray) (hd : d.size ≤ 120) (w : World)
    (hko : ∀ W : World, Below w.heap.size w W → Calls Tryz.prog 126 #[.iface 125 (.agg #[])] W fun en w' => en = .returned (.int .i64 k) ∧ w' = W)
    (hda : ∀ W : World, Below w.heap.size w W → Calls Tryz.prog 146 #[.agg #[]] W fun en w' => en = .returned (.string d) ∧ Below W.heap.size W w') :
    Calls Tryz.prog 118 #[.iface 125 (.agg #[])] w fun en w' => en = .returned (.string (⟨#[b]⟩ ++ d)) ∧ Below w.heap.size w w' := by
  have HKO : Hid (∀ W : World, Below w.heap.size w W → Calls Tryz.prog 126 #[.iface 125 (.agg #[])] W fun en w' => en = .returned (.int .i64 k) ∧ w' = W) := hko
  have HDA : Hid (∀ W : World, Below w.heap.size w W → Calls Tryz.prog 146 #[.agg #[]] W fun en w' => en = .returned (.string d) ∧ Below W.heap.size W w') := hda
  have z1 : ¬ 9223372036854775807 < 1 + d.size := by omega
  have HK : Hid (∀ W W' : World, Below w.heap.size w W → Below W.heap.size W W' → Below w.heap.size w W') := fun W W' a b => a.trans (b.mono a.size)
  have HR0 : Hid (∀ W' : World, Below (w.drew.alloc (Obj.cells #[.int .u8 (b.toNat : Int)] 5)).heap.size (w.drew.alloc (Obj.cells #[.int .u8 (b.toNat : Int)] 5)) W' → RowAt W' w.heap.size b) := fun W' a => (RowAt.new w.drew b).kept a
  have cv0 : ∀ X : World, (convert 31 9 (.slice (some ⟨X.heap.size, 0, none⟩) 1 1)).run Tryz.prog (X.alloc (Obj.cells #[.int .u8 (b.toNat : Int)] 5)) = .ok (.string ⟨#[b]⟩) (X.alloc (Obj.cells #[.int .u8 (b.toNat : Int)] 5)) := fun X => (RowAt.new X b).cv
  have cv00 : (convert 31 9 (.slice (some ⟨w.heap.size, 0, none⟩) 1 1)).run Tryz.prog (w.alloc (Obj.cells #[.int .u8 (b.toNat : Int)] 5)).drew = .ok (.string ⟨#[b]⟩) (w.alloc (Obj.cells #[.int .u8 (b.toNat : Int)] 5)).drew := (RowAt.new w.drew b).cv
  have BD : Below w.heap.size w w.drew := (Below.refl _ _).drew
  have mt : ∀ W : World, (method 249 125 (.agg #[]) "loop.example/g00103/impl.data").run Tryz.prog W = .ok (146, .agg #[]) W := fun W => met_none W
  clear hko hda
  go_enter Tryz.func118, Tryz.ntmps118
  go_wp2_with fail
  go_region_held (fun w' => Below w.heap.size w w')
    (first | assumption | exact Below.alloc (by assumption) (Below.size (by assumption)) _ | fail)
    (first | (go_at_call 126; refine Calls.mono (HKO.out _ (by assumption)) ?_; rintro en w5 ⟨rfl, hw5⟩; have hw6 := hw5.symm; clear hw5; subst hw6) | (go_at_call 146; refine Calls.mono (HDA.out _ (by assumption)) ?_; rintro en w5 ⟨rfl, hb5⟩; have hq5 := HK.out _ _ (by assumption) hb5; (first | (have r5 := HR0.out _ hb5; have cv5 := r5.cv; clear hb5) | (clear hb5))) | fail)
  all_goals (
    go_wp2
    go_ret
    exact ⟨rfl, by assumption⟩)
theorem met_conf {ua : Option Addr} {un uc : Nat} (w : World) : (method 249 127 (.agg #[.slice ua un uc]) "loop.example/g00103/impl.data").run Tryz.prog w = .ok (147, .agg #[.slice ua un uc]) w := by kernel_rfl
set_option maxHeartbeats 4000000 in
set_option maxRecDepth 100000 in
theorem contentText_conf {ua : Option Addr} {un uc : Nat} (k : Int) (b : UInt8) (hw : IntKind.u8.wrap k = (b.toNat : Int)) (d : ByteArray) (hd : d.size ≤ 120) (w : World)
    (hko : ∀ W : World, Below w.heap.size w W → Calls Tryz.prog 126 #[.iface 127 (.agg #[.slice ua un uc])] W fun en w' => en = .returned (.int .i64 k) ∧ w' = W)
    (hda : ∀ W : World, Below w.heap.size w W → Calls Tryz.prog 147 #[.agg #[.slice ua un uc]] W fun en w' => en = .returned (.string d) ∧ Below W.heap.size W w') :
    Calls Tryz.prog 118 #[.iface 127 (.agg #[.slice ua un uc])] w fun en w' => en = .returned (.string (⟨#[b]⟩ ++ d)) ∧ Below w.heap.size w w' := by
  have HKO : Hid (∀ W : World, Below w.heap.size w W → Calls Tryz.prog 126 #[.iface 127 (.agg #[.slice ua un uc])] W fun en w' => en = .returned (.int .i64 k) ∧ w' = W) := hko
  have HDA : Hid (∀ W : World, Below w.heap.size w W → Calls Tryz.prog 147 #[.agg #[.slice ua un uc]] W fun en w' => en = .returned (.string d) ∧ Below W.heap.size W w') := hda
  have z1 : ¬ 9223372036854775807 < 1 + d.size := by omega
  have HK : Hid (∀ W W' : World, Below w.heap.size w W → Below W.heap.size W W' → Below w.heap.size w W') := fun W W' a b => a.trans (b.mono a.size)
  have HR0 : Hid (∀ W' : World, Below (w.drew.alloc (Obj.cells #[.int .u8 (b.toNat : Int)] 5)).heap.size (w.drew.alloc (Obj.cells #[.int .u8 (b.toNat : Int)] 5)) W' → RowAt W' w.heap.size b) := fun W' a => (RowAt.new w.drew b).kept a
  have cv0 : ∀ X : World, (convert 31 9 (.slice (some ⟨X.heap.size, 0, none⟩) 1 1)).run Tryz.prog (X.alloc (Obj.cells #[.int .u8 (b.toNat : Int)] 5)) = .ok (.string ⟨#[b]⟩) (X.alloc (Obj.cells #[.int .u8 (b.toNat : Int)] 5)) := fun X => (RowAt.new X b).cv
  have cv00 : (convert 31 9 (.slice (some ⟨w.heap.size, 0, none⟩) 1 1)).run Tryz.prog (w.alloc (Obj.cells #[.int .u8 (b.toNat : Int)] 5)).drew = .ok (.string ⟨#[b]⟩) (w.alloc (Obj.cells #[.int .u8 (b.toNat : Int)] 5)).drew := (RowAt.new w.drew b).cv
  have BD : Below w.heap.size w w.drew := (Below.refl _ _).drew
  have mt : ∀ W : World, (method 249 127 (.agg #[.slice ua un uc]) "loop.example/g00103/impl.data").run Tryz.prog W = .ok (147, .agg #[.slice ua un uc]) W := fun W => met_conf W
  clear hko hda
  go_enter Tryz.func118, Tryz.ntmps118
  go_wp2_with fail
  go_region_held (fun w' => Below w.heap.size w w')
    (first | assumption | exact Below.alloc (by assumption) (Below.size (by assumption)) _ | fail)
    (first | (go_at_call 126; refine Calls.mono (HKO.out _ (by assumption)) ?_; rintro en w5 ⟨rfl, hw5⟩; have hw6 := hw5.symm; clear hw5; subst hw6) | (go_at_call 147; refine Calls.mono (HDA.out _ (by assumption)) ?_; rintro en w5 ⟨rfl, hb5⟩; have hq5 := HK.out _ _ (by assumption) hb5; (first | (have r5 := HR0.out _ hb5; have cv5 := r5.cv; clear hb5) | (clear hb5))) | fail)
  all_goals (
    go_wp2
    go_ret
    exact ⟨rfl, by assumption⟩)
theorem met_cmd {u : ByteArray} (w : World) : (method 249 129 (.agg #[.string u]) "loop.example/g00103/impl.data").run Tryz.prog w = .ok (148, .agg #[.string u]) w := by kernel_rfl
set_option maxHeartbeats 4000000 in
set_option maxRecDepth 100000 in
theorem contentText_cmd {u : ByteArray} (k : Int) (b : UInt8) (hw : IntKind.u8.wrap k = (b.toNat : Int)) (d : ByteArray) (hd : d.size ≤ 120) (w : World)
    (hko : ∀ W : World, Below w.heap.size w W → Calls Tryz.prog 126 #[.iface 129 (.agg #[.string u])] W fun en w' => en = .returned (.int .i64 k) ∧ w' = W)
    (hda : ∀ W : World, Below w.heap.size w W → Calls Tryz.prog 148 #[.agg #[.string u]] W fun en w' => en = .returned (.string d) ∧ Below W.heap.size W w') :
    Calls Tryz.prog 118 #[.iface 129 (.agg #[.string u])] w fun en w' => en = .returned (.string (⟨#[b]⟩ ++ d)) ∧ Below w.heap.size w w' := by
  have HKO : Hid (∀ W : World, Below w.heap.size w W → Calls Tryz.prog 126 #[.iface 129 (.agg #[.string u])] W fun en w' => en = .returned (.int .i64 k) ∧ w' = W) := hko
  have HDA : Hid (∀ W : World, Below w.heap.size w W → Calls Tryz.prog 148 #[.agg #[.string u]] W fun en w' => en = .returned (.string d) ∧ Below W.heap.size W w') := hda
  have z1 : ¬ 9223372036854775807 < 1 + d.size := by omega
  have HK : Hid (∀ W W' : World, Below w.heap.size w W → Below W.heap.size W W' → Below w.heap.size w W') := fun W W' a b => a.trans (b.mono a.size)
  have HR0 : Hid (∀ W' : World, Below (w.drew.alloc (Obj.cells #[.int .u8 (b.toNat : Int)] 5)).heap.size (w.drew.alloc (Obj.cells #[.int .u8 (b.toNat : Int)] 5)) W' → RowAt W' w.heap.size b) := fun W' a => (RowAt.new w.drew b).kept a
  have cv0 : ∀ X : World, (convert 31 9 (.slice (some ⟨X.heap.size, 0, none⟩) 1 1)).run Tryz.prog (X.alloc (Obj.cells #[.int .u8 (b.toNat : Int)] 5)) = .ok (.string ⟨#[b]⟩) (X.alloc (Obj.cells #[.int .u8 (b.toNat : Int)] 5)) := fun X => (RowAt.new X b).cv
  have cv00 : (convert 31 9 (.slice (some ⟨w.heap.size, 0, none⟩) 1 1)).run Tryz.prog (w.alloc (Obj.cells #[.int .u8 (b.toNat : Int)] 5)).drew = .ok (.string ⟨#[b]⟩) (w.alloc (Obj.cells #[.int .u8 (b.toNat : Int)] 5)).drew := (RowAt.new w.drew b).cv
  have BD : Below w.heap.size w w.drew := (Below.refl _ _).drew
  have mt : ∀ W : World, (method 249 129 (.agg #[.string u]) "loop.example/g00103/impl.data").run Tryz.prog W = .ok (148, .agg #[.string u]) W := fun W => met_cmd W
  clear hko hda
  go_enter Tryz.func118, Tryz.ntmps118
  go_wp2_with fail
  go_region_held (fun w' => Below w.heap.size w w')
    (first | assumption | exact Below.alloc (by assumption) (Below.size (by assumption)) _ | fail)
    (first | (go_at_call 126; refine Calls.mono (HKO.out _ (by assumption)) ?_; rintro en w5 ⟨rfl, hw5⟩; have hw6 := hw5.symm; clear hw5; subst hw6) | (go_at_call 148; refine Calls.mono (HDA.out _ (by assumption)) ?_; rintro en w5 ⟨rfl, hb5⟩; have hq5 := HK.out _ _ (by assumption) hb5; (first | (have r5 := HR0.out _ hb5; have cv5 := r5.cv; clear hb5) | (clear hb5))) | fail)
  all_goals (
    go_wp2
    go_ret
    exact ⟨rfl, by assumption⟩)
theorem contentText_is {B : Nat} {e : EntL} {v : Value} (hs : e.data.size ≤ 120) (w : World) (h : ContV w B e v) : Calls Tryz.prog 118 #[v] w fun en w' => en = .returned (.string (⟨#[UInt8.ofNat e.kind.toNat]⟩ ++ e.data)) ∧ Below w.heap.size w w' := by
  have hk : ∀ W : World, Below w.heap.size w W → Calls Tryz.prog 126 #[v] W fun en w' => en = .returned (.int .i64 e.kind) ∧ w' = W := fun W hb => kindOf_is (h.kept hb) W
  rcases h with ⟨k, hd, rfl⟩ | ⟨k, hc, u, rfl, ho⟩ | ⟨k, rfl⟩
  · refine contentText_none e.kind _ (wrap_kind _ (by omega) (by omega)) e.data hs w hk (fun W hb => ?_)
    rw [hd]
    exact data_none W
  · obtain ⟨va, vc, hv⟩ := own_slice ho
    subst hv
    exact contentText_conf e.kind _ (wrap_kind _ (by omega) (by omega)) e.data hs w hk (fun W hb => data_conf e.data (by omega) hc W (own_kept ho hb))
  · exact contentText_cmd e.kind _ (wrap_kind _ (by omega) (by omega)) e.data hs w hk (fun W hb => data_cmd e.data W)
theorem neq_nil (t : TypeId) (x : Value) (w : World) : (binOp .neq 115 (.iface t x) .nilIface).run Tryz.prog w = .ok (.bool true) w := by kernel_rfl
theorem neq_nilnil (w : World) : (binOp .neq 115 .nilIface .nilIface).run Tryz.prog w = .ok (.bool false) w := by kernel_rfl
theorem ContV.iface {W : World} {B : Nat} {e : EntL} {v : Value} (h : ContV W B e v) : ∃ t x, v = .iface t x := by
  rcases h with ⟨_, _, h⟩ | ⟨_, _, u, h, _⟩ | ⟨_, h⟩
  · exact ⟨_, _, h⟩
  · exact ⟨_, _, h⟩
  · exact ⟨_, _, h⟩
set_option maxHeartbeats 2000000 in
set_option maxRecDepth 100000 in
theorem implEntOk_is (e : EntL) (hs : e.data.size ≤ 1048576) (w : World) : Calls Tryz.prog 116 #[entV e] w fun en w' => en = .returned (.bool (okB e)) ∧ Below w.heap.size w w' := by
  obtain ⟨O, hO⟩ : ∃ O, O = okB e := ⟨_, rfl⟩
  rw [← hO]
  obtain ⟨W, hW⟩ : ∃ W, W = w.alloc (Obj.cells #[.int .i64 e.term, .int .i64 e.kind, .string e.data] 44) := ⟨_, rfl⟩
  have hE : EntAt W w.heap.size e := by rw [hW]; exact EntAt.new w e
  obtain ⟨c0, c1, c2⟩ := hE
  rw [hW] at c0 c1 c2
  have HB : Hid (Below w.heap.size w W) := by show Below _ _ _; rw [hW]; exact (Below.refl _ _).alloc (Nat.le_refl _) _
  have HCO : Hid (∀ W, Calls Tryz.prog 119 #[.int .i64 e.kind, .string e.data] W (ContPost W e)) := fun W => contentOf_is e hs W
  have q1 := neq_nil
  have q2 := neq_nilnil
  unfold entV
  by_cases ht : 0 ≤ e.term ∧ e.term ≤ 100000
  · have hk : O = kindB e := by rw [hO]; unfold okB; simp [ht]
    have HT : Hid (∀ W, Calls Tryz.prog 108 #[.int .i64 e.term] W fun en w' => en = .returned (.bool true) ∧ w' = W) := fun W => termOk_is _ true (by simp [ht]) W
    have HKK : Hid (O = kindB e) := hk
    clear hO hk ht
    go_enter Tryz.func116, Tryz.ntmps116
    go_wp2_with fail
    refine Calls.mono (HT.out _) ?_
    rintro en w1 ⟨rfl, hw1⟩
    subst hw1
    go_wp2_with fail
    rw [← hW]
    clear c0 c1 c2 hW
    refine Calls.mono (HCO.out _) ?_
    rintro en w2 ⟨v, rfl, hv, hb2⟩
    have HB2 : Hid (Below w.heap.size w w2) := HB.out.trans (hb2.mono HB.out.size)
    clear hb2
    rcases hv with ⟨hk, rfl⟩ | ⟨hk, hv⟩
    · have hOf : O = false := by rw [HKK.out, hk]
      subst hOf
      clear hk HKK
      go_wp2
      go_ret
      exact ⟨rfl, HB2.out⟩
    · have hOf : O = true := by rw [HKK.out, hk]
      subst hOf
      obtain ⟨t, x, hvx⟩ := hv.iface
      subst hvx
      clear hk HKK hv
      go_wp2
      go_ret
      exact ⟨rfl, HB2.out⟩
  · have hOf : O = false := by rw [hO]; unfold okB; simp [ht]
    have HT : Hid (∀ W, Calls Tryz.prog 108 #[.int .i64 e.term] W fun en w' => en = .returned (.bool false) ∧ w' = W) := fun W => termOk_is _ false (by simp [ht]) W
    clear hO ht
    subst hOf
    go_enter Tryz.func116, Tryz.ntmps116
    go_wp2_with fail
    refine Calls.mono (HT.out _) ?_
    rintro en w1 ⟨rfl, hw1⟩
    subst hw1
    rw [← hW]
    clear c0 c1 c2 hW
    go_wp2
    go_ret
    exact ⟨rfl, HB.out⟩
end Go.Proofs.YtimacmijinblmaaGreat
