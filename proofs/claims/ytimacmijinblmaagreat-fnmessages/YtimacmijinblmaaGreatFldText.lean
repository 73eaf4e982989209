/- The program's Encode, walked: the table of fields, the variadic writer. -/
import Derived.Test.YtimacmijinblmaaGreatMsgFld
import Derived.Test.YtimacmijinblmaaGreatImplMsg
import Derived.Test.YtimacmijinblmaaGreatRegInv
import Derived.Test.YtimacmijinblmaaGreatFldC
import Derived.Test.YtimacmijinblmaaGreatLApp
namespace Go.Proofs.YtimacmijinblmaaGreat
open Go.RowKit
open Ents (okB)
open Msgs (okM bt)
set_option linter.unusedVariables false
set_option linter.unusedSimpArgs false

structure FieldsAt (X : World) (g : Nat) : Prop where
  w0 : X.cell? ⟨g, 0, none⟩ = some (.func (.func 48) #[] #[])
  r0 : X.cell? ⟨g, 1, none⟩ = some (.func (.func 50) #[] #[])
  w1 : X.cell? ⟨g, 2, none⟩ = some (.func (.func 52) #[] #[])
  r1 : X.cell? ⟨g, 3, none⟩ = some (.func (.func 53) #[] #[])
  w2 : X.cell? ⟨g, 4, none⟩ = some (.func (.func 54) #[] #[])
  r2 : X.cell? ⟨g, 5, none⟩ = some (.func (.func 55) #[] #[])
  w3 : X.cell? ⟨g, 6, none⟩ = some (.func (.func 56) #[] #[])
  r3 : X.cell? ⟨g, 7, none⟩ = some (.func (.func 58) #[] #[])
  w4 : X.cell? ⟨g, 8, none⟩ = some (.func (.func 60) #[] #[])
  r4 : X.cell? ⟨g, 9, none⟩ = some (.func (.func 61) #[] #[])
  w5 : X.cell? ⟨g, 10, none⟩ = some (.func (.func 62) #[] #[])
  r5 : X.cell? ⟨g, 11, none⟩ = some (.func (.func 63) #[] #[])
  w6 : X.cell? ⟨g, 12, none⟩ = some (.func (.func 64) #[] #[])
  r6 : X.cell? ⟨g, 13, none⟩ = some (.func (.func 65) #[] #[])
  w7 : X.cell? ⟨g, 14, none⟩ = some (.func (.func 66) #[] #[])
  r7 : X.cell? ⟨g, 15, none⟩ = some (.func (.func 68) #[] #[])
  w8 : X.cell? ⟨g, 16, none⟩ = some (.func (.func 70) #[] #[])
  r8 : X.cell? ⟨g, 17, none⟩ = some (.func (.func 71) #[] #[])
  w9 : X.cell? ⟨g, 18, none⟩ = some (.func (.func 72) #[] #[])
  r9 : X.cell? ⟨g, 19, none⟩ = some (.func (.func 74) #[] #[])
  w10 : X.cell? ⟨g, 20, none⟩ = some (.func (.func 76) #[] #[])
  r10 : X.cell? ⟨g, 21, none⟩ = some (.func (.func 79) #[] #[])
  w11 : X.cell? ⟨g, 22, none⟩ = some (.func (.func 81) #[] #[])
  r11 : X.cell? ⟨g, 23, none⟩ = some (.func (.func 82) #[] #[])
theorem FieldsAt.new (w : World) (t : TypeId) : FieldsAt (w.alloc (Obj.cells fieldsC t)) w.heap.size := by
  have p0 := heap_alloc_new w (Obj.cells fieldsC t)
  exact ⟨cell_of_row _ _ 0 _ _ _ p0, cell_of_row _ _ 1 _ _ _ p0, cell_of_row _ _ 2 _ _ _ p0, cell_of_row _ _ 3 _ _ _ p0, cell_of_row _ _ 4 _ _ _ p0, cell_of_row _ _ 5 _ _ _ p0, cell_of_row _ _ 6 _ _ _ p0, cell_of_row _ _ 7 _ _ _ p0, cell_of_row _ _ 8 _ _ _ p0, cell_of_row _ _ 9 _ _ _ p0, cell_of_row _ _ 10 _ _ _ p0, cell_of_row _ _ 11 _ _ _ p0, cell_of_row _ _ 12 _ _ _ p0, cell_of_row _ _ 13 _ _ _ p0, cell_of_row _ _ 14 _ _ _ p0, cell_of_row _ _ 15 _ _ _ p0, cell_of_row _ _ 16 _ _ _ p0, cell_of_row _ _ 17 _ _ _ p0, cell_of_row _ _ 18 _ _ _ p0, cell_of_row _ _ 19 _ _ _ p0, cell_of_row _ _ 20 _ _ _ p0, cell_of_row _ _ 21 _ _ _ p0, cell_of_row _ _ 22 _ _ _ p0, cell_of_row _ _ 23 _ _ _ p0⟩
theorem FieldsAt.kept {X X' : World} {g : Nat} (h : FieldsAt X g) (hb : Below X.heap.size X X') : FieldsAt X' g := by
  have hl := World.block_lt_of_cell? X _ h.w0
  have kp : ∀ i, X'.cell? ⟨g, i, none⟩ = X.cell? ⟨g, i, none⟩ := fun i => hb.cell (p := ⟨g, i, none⟩) hl
  exact ⟨(kp 0).trans h.w0, (kp 1).trans h.r0, (kp 2).trans h.w1, (kp 3).trans h.r1, (kp 4).trans h.w2, (kp 5).trans h.r2, (kp 6).trans h.w3, (kp 7).trans h.r3, (kp 8).trans h.w4, (kp 9).trans h.r4, (kp 10).trans h.w5, (kp 11).trans h.r5, (kp 12).trans h.w6, (kp 13).trans h.r6, (kp 14).trans h.w7, (kp 15).trans h.r7, (kp 16).trans h.w8, (kp 17).trans h.r8, (kp 18).trans h.w9, (kp 19).trans h.r9, (kp 20).trans h.w10, (kp 21).trans h.r10, (kp 22).trans h.w11, (kp 23).trans h.r11⟩
def Tabled (v : Value) (X : World) : Prop := ∃ g : Nat, v = .slice (some ⟨g, 0, none⟩) 12 12 ∧ FieldsAt X g
theorem Tabled.kept {v : Value} {X X' : World} (h : Tabled v X) (hb : Below X.heap.size X X') : Tabled v X' := by
  obtain ⟨g, e, h1⟩ := h
  exact ⟨g, e, h1.kept hb⟩
theorem Tabled.elim {v : Value} {X : World} {p : Prop} (h : Tabled v X) (k : ∀ g : Nat, v = .slice (some ⟨g, 0, none⟩) 12 12 → FieldsAt X g → p) : p := by
  obtain ⟨g, e, h1⟩ := h
  exact k g e h1
set_option maxHeartbeats 4000000 in
set_option maxRecDepth 100000 in
theorem messageFields_is (w : World) : Calls Tryz.prog 25 #[] w fun en w' => ∃ u, en = .returned u ∧ Tabled u w' ∧ Below w.heap.size w w' := by
  go_enter Tryz.func25, Tryz.ntmps25
  go_wp2
  go_ret
  exact ⟨_, rfl, ⟨_, rfl, FieldsAt.new w _⟩, (Below.refl _ _).alloc (Nat.le_refl _) _⟩
theorem parts_step {m : MsgL} {k : Nat} {S T : ByteArray} {x : List UInt8} (h : Is S (parts m k)) (hx : (fieldsL m)[k]? = some x) (hT : Is T x) : Is (S ++ T) (parts m (k + 1)) := by
  have := h.app hT
  unfold parts at this ⊢
  rw [List.take_add_one, hx]
  simpa using this
theorem many_len : ∀ (l : List EntL), (∀ e ∈ l, okB e = true) → (Msgs.many l).length ≤ 300 * l.length
  | [], _ => by simp [Msgs.many]
  | e :: l, h => by
    have h1 := many_len l (fun x hx => h x (List.mem_cons_of_mem _ hx))
    have h2 := entS_len 1 e (h e List.mem_cons_self) (by decide)
    have h3 := shortS_size (Ents.textS 1 e) 132 h2
    rw [(shortS_is _).size] at h3
    simp only [Msgs.many, List.length_append, List.length_cons]
    omega
set_option maxHeartbeats 8000000 in
set_option maxRecDepth 100000 in
theorem fieldsText_is {a b : Option Addr} {g off cap h offb capb q : Nat} (m : MsgL) (hok : okM m = true) (w : World) (hf : EnAt w a g off m.ents) (hc : IntAt w b h offb m.conf) (ht : FieldsAt w q) :
    Calls Tryz.prog 35 #[msgV m a cap b capb, .slice (some ⟨q, 0, none⟩) 12 12] w fun en w' => en = .returned (.string (Msgs.textS m)) ∧ Below w.heap.size w w' := by
  have F := Msgs.fits hok
  have hlc : m.conf.length ≤ 4 := by
    rcases F.conf with x | x
    · exact (Ents.conf_in x).1.2
    · rw [x]; exact Nat.zero_le _
  unfold msgV
  obtain ⟨W, hW⟩ : ∃ W, W = w.alloc (Obj.cells (msgC m a cap b capb) 25) := ⟨_, rfl⟩
  have hb : Below w.heap.size w W := by rw [hW]; exact (Below.refl _ _).alloc (Nat.le_refl _) _
  have HB : Hid (Below w.heap.size w W) := hb
  have hla : MsgAt W w.heap.size m a cap b capb := by rw [hW]; exact MsgAt.new w m a cap b capb 25
  have HWD : Hid (w.alloc (Obj.cells #[.int .i64 m.kind, .int .i64 m.frm, .int .i64 m.dst, .int .i64 m.term, .int .i64 m.index, .int .i64 m.lterm, .int .i64 m.commit, .bool m.ok, .slice a m.ents.length cap, .slice b m.conf.length capb, .string m.data, .bool m.last] 25) = W) := hW.symm
  have HW0 : Hid (∀ X, Below W.heap.size W X → Calls Tryz.prog 48 #[.agg #[.int .i64 m.kind, .int .i64 m.frm, .int .i64 m.dst, .int .i64 m.term, .int .i64 m.index, .int .i64 m.lterm, .int .i64 m.commit, .bool m.ok, .slice a m.ents.length cap, .slice b m.conf.length capb, .string m.data, .bool m.last]] X fun en w' => en = .returned (.string (byteS (bt m.kind))) ∧ Below X.heap.size X w') := fun X x => write0_is m F hlc X ((hf.kept hb).kept x) ((hc.kept hb).kept x)
  have HW1 : Hid (∀ X, Below W.heap.size W X → Calls Tryz.prog 52 #[.agg #[.int .i64 m.kind, .int .i64 m.frm, .int .i64 m.dst, .int .i64 m.term, .int .i64 m.index, .int .i64 m.lterm, .int .i64 m.commit, .bool m.ok, .slice a m.ents.length cap, .slice b m.conf.length capb, .string m.data, .bool m.last]] X fun en w' => en = .returned (.string (byteS (bt m.frm))) ∧ Below X.heap.size X w') := fun X x => write1_is m F hlc X ((hf.kept hb).kept x) ((hc.kept hb).kept x)
  have HW2 : Hid (∀ X, Below W.heap.size W X → Calls Tryz.prog 54 #[.agg #[.int .i64 m.kind, .int .i64 m.frm, .int .i64 m.dst, .int .i64 m.term, .int .i64 m.index, .int .i64 m.lterm, .int .i64 m.commit, .bool m.ok, .slice a m.ents.length cap, .slice b m.conf.length capb, .string m.data, .bool m.last]] X fun en w' => en = .returned (.string (byteS (bt m.dst))) ∧ Below X.heap.size X w') := fun X x => write2_is m F hlc X ((hf.kept hb).kept x) ((hc.kept hb).kept x)
  have HW3 : Hid (∀ X, Below W.heap.size W X → Calls Tryz.prog 56 #[.agg #[.int .i64 m.kind, .int .i64 m.frm, .int .i64 m.dst, .int .i64 m.term, .int .i64 m.index, .int .i64 m.lterm, .int .i64 m.commit, .bool m.ok, .slice a m.ents.length cap, .slice b m.conf.length capb, .string m.data, .bool m.last]] X fun en w' => en = .returned (.string (varS m.term)) ∧ Below X.heap.size X w') := fun X x => write3_is m F hlc X ((hf.kept hb).kept x) ((hc.kept hb).kept x)
  have HW4 : Hid (∀ X, Below W.heap.size W X → Calls Tryz.prog 60 #[.agg #[.int .i64 m.kind, .int .i64 m.frm, .int .i64 m.dst, .int .i64 m.term, .int .i64 m.index, .int .i64 m.lterm, .int .i64 m.commit, .bool m.ok, .slice a m.ents.length cap, .slice b m.conf.length capb, .string m.data, .bool m.last]] X fun en w' => en = .returned (.string (varS m.index)) ∧ Below X.heap.size X w') := fun X x => write4_is m F hlc X ((hf.kept hb).kept x) ((hc.kept hb).kept x)
  have HW5 : Hid (∀ X, Below W.heap.size W X → Calls Tryz.prog 62 #[.agg #[.int .i64 m.kind, .int .i64 m.frm, .int .i64 m.dst, .int .i64 m.term, .int .i64 m.index, .int .i64 m.lterm, .int .i64 m.commit, .bool m.ok, .slice a m.ents.length cap, .slice b m.conf.length capb, .string m.data, .bool m.last]] X fun en w' => en = .returned (.string (varS m.lterm)) ∧ Below X.heap.size X w') := fun X x => write5_is m F hlc X ((hf.kept hb).kept x) ((hc.kept hb).kept x)
  have HW6 : Hid (∀ X, Below W.heap.size W X → Calls Tryz.prog 64 #[.agg #[.int .i64 m.kind, .int .i64 m.frm, .int .i64 m.dst, .int .i64 m.term, .int .i64 m.index, .int .i64 m.lterm, .int .i64 m.commit, .bool m.ok, .slice a m.ents.length cap, .slice b m.conf.length capb, .string m.data, .bool m.last]] X fun en w' => en = .returned (.string (varS m.commit)) ∧ Below X.heap.size X w') := fun X x => write6_is m F hlc X ((hf.kept hb).kept x) ((hc.kept hb).kept x)
  have HW7 : Hid (∀ X, Below W.heap.size W X → Calls Tryz.prog 66 #[.agg #[.int .i64 m.kind, .int .i64 m.frm, .int .i64 m.dst, .int .i64 m.term, .int .i64 m.index, .int .i64 m.lterm, .int .i64 m.commit, .bool m.ok, .slice a m.ents.length cap, .slice b m.conf.length capb, .string m.data, .bool m.last]] X fun en w' => en = .returned (.string (flagS m.ok)) ∧ Below X.heap.size X w') := fun X x => write7_is m F hlc X ((hf.kept hb).kept x) ((hc.kept hb).kept x)
  have HW8 : Hid (∀ X, Below W.heap.size W X → Calls Tryz.prog 70 #[.agg #[.int .i64 m.kind, .int .i64 m.frm, .int .i64 m.dst, .int .i64 m.term, .int .i64 m.index, .int .i64 m.lterm, .int .i64 m.commit, .bool m.ok, .slice a m.ents.length cap, .slice b m.conf.length capb, .string m.data, .bool m.last]] X fun en w' => en = .returned (.string (flagS m.last)) ∧ Below X.heap.size X w') := fun X x => write8_is m F hlc X ((hf.kept hb).kept x) ((hc.kept hb).kept x)
  have HW9 : Hid (∀ X, Below W.heap.size W X → Calls Tryz.prog 72 #[.agg #[.int .i64 m.kind, .int .i64 m.frm, .int .i64 m.dst, .int .i64 m.term, .int .i64 m.index, .int .i64 m.lterm, .int .i64 m.commit, .bool m.ok, .slice a m.ents.length cap, .slice b m.conf.length capb, .string m.data, .bool m.last]] X fun en w' => en = .returned (.string (entsS m.ents)) ∧ Below X.heap.size X w') := fun X x => write9_is m F hlc X ((hf.kept hb).kept x) ((hc.kept hb).kept x)
  have HW10 : Hid (∀ X, Below W.heap.size W X → Calls Tryz.prog 76 #[.agg #[.int .i64 m.kind, .int .i64 m.frm, .int .i64 m.dst, .int .i64 m.term, .int .i64 m.index, .int .i64 m.lterm, .int .i64 m.commit, .bool m.ok, .slice a m.ents.length cap, .slice b m.conf.length capb, .string m.data, .bool m.last]] X fun en w' => en = .returned (.string (shortS (Ents.confS m.conf))) ∧ Below X.heap.size X w') := fun X x => write10_is m F hlc X ((hf.kept hb).kept x) ((hc.kept hb).kept x)
  have HW11 : Hid (∀ X, Below W.heap.size W X → Calls Tryz.prog 81 #[.agg #[.int .i64 m.kind, .int .i64 m.frm, .int .i64 m.dst, .int .i64 m.term, .int .i64 m.index, .int .i64 m.lterm, .int .i64 m.commit, .bool m.ok, .slice a m.ents.length cap, .slice b m.conf.length capb, .string m.data, .bool m.last]] X fun en w' => en = .returned (.string (shortS m.data)) ∧ Below X.heap.size X w') := fun X x => write11_is m F hlc X ((hf.kept hb).kept x) ((hc.kept hb).kept x)
  have HS0 : Hid (∀ S, Is S (parts m 0) → Is (S ++ (byteS (bt m.kind))) (parts m 1)) := fun S x => parts_step x rfl (rfl)
  have HS1 : Hid (∀ S, Is S (parts m 1) → Is (S ++ (byteS (bt m.frm))) (parts m 2)) := fun S x => parts_step x rfl (rfl)
  have HS2 : Hid (∀ S, Is S (parts m 2) → Is (S ++ (byteS (bt m.dst))) (parts m 3)) := fun S x => parts_step x rfl (rfl)
  have HS3 : Hid (∀ S, Is S (parts m 3) → Is (S ++ (varS m.term)) (parts m 4)) := fun S x => parts_step x rfl (varS_is _)
  have HS4 : Hid (∀ S, Is S (parts m 4) → Is (S ++ (varS m.index)) (parts m 5)) := fun S x => parts_step x rfl (varS_is _)
  have HS5 : Hid (∀ S, Is S (parts m 5) → Is (S ++ (varS m.lterm)) (parts m 6)) := fun S x => parts_step x rfl (varS_is _)
  have HS6 : Hid (∀ S, Is S (parts m 6) → Is (S ++ (varS m.commit)) (parts m 7)) := fun S x => parts_step x rfl (varS_is _)
  have HS7 : Hid (∀ S, Is S (parts m 7) → Is (S ++ (flagS m.ok)) (parts m 8)) := fun S x => parts_step x rfl (flagS_is _)
  have HS8 : Hid (∀ S, Is S (parts m 8) → Is (S ++ (flagS m.last)) (parts m 9)) := fun S x => parts_step x rfl (flagS_is _)
  have HS9 : Hid (∀ S, Is S (parts m 9) → Is (S ++ (entsS m.ents)) (parts m 10)) := fun S x => parts_step x rfl (rfl)
  have HS10 : Hid (∀ S, Is S (parts m 10) → Is (S ++ (shortS (Ents.confS m.conf))) (parts m 11)) := fun S x => parts_step x rfl (shortS_is _)
  have HS11 : Hid (∀ S, Is S (parts m 11) → Is (S ++ (shortS m.data)) (parts m 12)) := fun S x => parts_step x rfl (shortS_is _)
  have sz0 : (byteS (bt m.kind)).size ≤ 200000 := Nat.le_of_ble_eq_true rfl
  have sz1 : (byteS (bt m.frm)).size ≤ 200000 := Nat.le_of_ble_eq_true rfl
  have sz2 : (byteS (bt m.dst)).size ≤ 200000 := Nat.le_of_ble_eq_true rfl
  have sz3 : (varS m.term).size ≤ 200000 := by have := varS_size m.term 100000 (by have := F.term; omega); omega
  have sz4 : (varS m.index).size ≤ 200000 := by have := varS_size m.index 100000 (by have := F.index; omega); omega
  have sz5 : (varS m.lterm).size ≤ 200000 := by have := varS_size m.lterm 100000 (by have := F.lterm; omega); omega
  have sz6 : (varS m.commit).size ≤ 200000 := by have := varS_size m.commit 100000 (by have := F.commit; omega); omega
  have sz7 : (flagS m.ok).size ≤ 200000 := by rw [flagS_size]; omega
  have sz8 : (flagS m.last).size ≤ 200000 := by rw [flagS_size]; omega
  have sz9 : (entsS m.ents).size ≤ 200000 := by
    have h1 := many_len m.ents F.ents
    have h2 := Words.var_len m.ents.length
    have h3 := F.len
    show (Words.var m.ents.length ++ Msgs.many m.ents).toArray.size ≤ _
    simp only [List.size_toArray, List.length_append]
    omega
  have sz10 : (shortS (Ents.confS m.conf)).size ≤ 200000 := by have := shortS_size (Ents.confS m.conf) 4 (by rw [confS_len]; exact hlc); omega
  have sz11 : (shortS m.data).size ≤ 200000 := by have := shortS_size m.data 60 F.data; omega
  generalize byteS (bt m.kind) = T0 at HW0 HS0 sz0
  generalize byteS (bt m.frm) = T1 at HW1 HS1 sz1
  generalize byteS (bt m.dst) = T2 at HW2 HS2 sz2
  generalize varS m.term = T3 at HW3 HS3 sz3
  generalize varS m.index = T4 at HW4 HS4 sz4
  generalize varS m.lterm = T5 at HW5 HS5 sz5
  generalize varS m.commit = T6 at HW6 HS6 sz6
  generalize flagS m.ok = T7 at HW7 HS7 sz7
  generalize flagS m.last = T8 at HW8 HS8 sz8
  generalize entsS m.ents = T9 at HW9 HS9 sz9
  generalize shortS (Ents.confS m.conf) = T10 at HW10 HS10 sz10
  generalize shortS m.data = T11 at HW11 HS11 sz11
  have HLA : Hid (∀ X, Below W.heap.size W X → MsgAt X w.heap.size m a cap b capb) := fun X x => hla.kept x
  have HFD : Hid (∀ X, Below W.heap.size W X → FieldsAt X q) := fun X x => (ht.kept hb).kept x
  obtain ⟨z, hz⟩ : ∃ z, z = w.heap.size := ⟨_, rfl⟩
  rw [← hz] at HLA
  have hsf : ∀ (X : World) (p : Addr) (fn : Fn) (x y : Array Value), (store p (.func fn x y)).run Tryz.prog X = stored Tryz.prog X p (.func fn x y) .plain := fun X p fn x y => run_store _ X p _ _ rfl
  clear hla hb hW hf hc ht F hlc
  go_enter Tryz.func35, Tryz.ntmps35
  go_wp2_with fail
  rw [HWD.out, ← hz]
  clear HWD hz
  go_loopw [5, 7, 10] (fun s _ i wr => ∃ (k : Nat) (S : ByteArray), k ≤ 12 ∧ i = .int .i64 (k : Int) ∧ s = .string S ∧ Hid (Is S (parts m k)) ∧ Hid (S.size ≤ k * 200000) ∧ Hid (Below W.heap.size W wr)) (fun _ _ i _ => 12 - (intOf i).toNat)
  case atStart => exact ⟨0, _, Nat.zero_le _, rfl, rfl, rfl, Nat.le_refl _, Below.refl _ _⟩
  case round =>
    obtain ⟨k, S, hk, rfl, rfl, HIS, HSZ, HBW⟩ := hrel
    have FD := HFD.out _ HBW.out
    by_cases hlt : k < 12
    · have hcase : k = 0 ∨ k = 1 ∨ k = 2 ∨ k = 3 ∨ k = 4 ∨ k = 5 ∨ k = 6 ∨ k = 7 ∨ k = 8 ∨ k = 9 ∨ k = 10 ∨ k = 11 := by omega
      rcases hcase with rfl | rfl | rfl | rfl | rfl | rfl | rfl | rfl | rfl | rfl | rfl | rfl
      · have fw := FD.w0
        have fr := FD.r0
        have HI2 := HS0.out S HIS.out
        have hz : ¬ 9223372036854775807 < S.size + T0.size := by have := HSZ.out; omega
        have HSZ2 : Hid ((S ++ T0).size ≤ 1 * 200000) := by show _ ≤ _; rw [ByteArray.size_append]; have := HSZ.out; omega
        have HI3 : Hid (Is (S ++ T0) (parts m 1)) := HI2
        clear HI2 FD HIS HSZ HW1 HS1 sz1 HW2 HS2 sz2 HW3 HS3 sz3 HW4 HS4 sz4 HW5 HS5 sz5 HW6 HS6 sz6 HW7 HS7 sz7 HW8 HS8 sz8 HW9 HS9 sz9 HW10 HS10 sz10 HW11 HS11 sz11
        obtain ⟨W2, hW2⟩ : ∃ W2, W2 = wr.alloc (Obj.cells #[.func (.func 48) #[] #[], .func (.func 50) #[] #[]] 80) := ⟨_, rfl⟩
        have HB2 : Hid (Below W.heap.size W W2) := by rw [hW2]; exact HBW.out.alloc HBW.out.size _
        obtain ⟨c0, c1, c2, c3, c4, c5, c6, c7, c8, c9, c10, c11⟩ := HLA.out W2 HB2.out
        rw [hW2] at c0 c1 c2 c3 c4 c5 c6 c7 c8 c9 c10 c11
        go_wp2_with fail
        rw [← hW2]
        refine Calls.mono (HW0.out _ HB2.out) ?_
        rintro en w5 ⟨rfl, hb5⟩
        have HB5 : Hid (Below W.heap.size W w5) := HB2.out.trans (hb5.mono HB2.out.size)
        clear hb5 HBW hW2 HB2 fw fr c0 c1 c2 c3 c4 c5 c6 c7 c8 c9 c10 c11 HW0
        go_wp2
        go_roundw
        case rel => exact ⟨1, _, by omega, by go_num, rfl, HI3, HSZ2, HB5⟩
        case measure => simp [intOf]
      · have fw := FD.w1
        have fr := FD.r1
        have HI2 := HS1.out S HIS.out
        have hz : ¬ 9223372036854775807 < S.size + T1.size := by have := HSZ.out; omega
        have HSZ2 : Hid ((S ++ T1).size ≤ 2 * 200000) := by show _ ≤ _; rw [ByteArray.size_append]; have := HSZ.out; omega
        have HI3 : Hid (Is (S ++ T1) (parts m 2)) := HI2
        clear HI2 FD HIS HSZ HW0 HS0 sz0 HW2 HS2 sz2 HW3 HS3 sz3 HW4 HS4 sz4 HW5 HS5 sz5 HW6 HS6 sz6 HW7 HS7 sz7 HW8 HS8 sz8 HW9 HS9 sz9 HW10 HS10 sz10 HW11 HS11 sz11
        obtain ⟨W2, hW2⟩ : ∃ W2, W2 = wr.alloc (Obj.cells #[.func (.func 52) #[] #[], .func (.func 53) #[] #[]] 80) := ⟨_, rfl⟩
        have HB2 : Hid (Below W.heap.size W W2) := by rw [hW2]; exact HBW.out.alloc HBW.out.size _
        obtain ⟨c0, c1, c2, c3, c4, c5, c6, c7, c8, c9, c10, c11⟩ := HLA.out W2 HB2.out
        rw [hW2] at c0 c1 c2 c3 c4 c5 c6 c7 c8 c9 c10 c11
        go_wp2_with fail
        rw [← hW2]
        refine Calls.mono (HW1.out _ HB2.out) ?_
        rintro en w5 ⟨rfl, hb5⟩
        have HB5 : Hid (Below W.heap.size W w5) := HB2.out.trans (hb5.mono HB2.out.size)
        clear hb5 HBW hW2 HB2 fw fr c0 c1 c2 c3 c4 c5 c6 c7 c8 c9 c10 c11 HW1
        go_wp2
        go_roundw
        case rel => exact ⟨2, _, by omega, by go_num, rfl, HI3, HSZ2, HB5⟩
        case measure => simp [intOf]
      · have fw := FD.w2
        have fr := FD.r2
        have HI2 := HS2.out S HIS.out
        have hz : ¬ 9223372036854775807 < S.size + T2.size := by have := HSZ.out; omega
        have HSZ2 : Hid ((S ++ T2).size ≤ 3 * 200000) := by show _ ≤ _; rw [ByteArray.size_append]; have := HSZ.out; omega
        have HI3 : Hid (Is (S ++ T2) (parts m 3)) := HI2
        clear HI2 FD HIS HSZ HW0 HS0 sz0 HW1 HS1 sz1 HW3 HS3 sz3 HW4 HS4 sz4 HW5 HS5 sz5 HW6 HS6 sz6 HW7 HS7 sz7 HW8 HS8 sz8 HW9 HS9 sz9 HW10 HS10 sz10 HW11 HS11 sz11
        obtain ⟨W2, hW2⟩ : ∃ W2, W2 = wr.alloc (Obj.cells #[.func (.func 54) #[] #[], .func (.func 55) #[] #[]] 80) := ⟨_, rfl⟩
        have HB2 : Hid (Below W.heap.size W W2) := by rw [hW2]; exact HBW.out.alloc HBW.out.size _
        obtain ⟨c0, c1, c2, c3, c4, c5, c6, c7, c8, c9, c10, c11⟩ := HLA.out W2 HB2.out
        rw [hW2] at c0 c1 c2 c3 c4 c5 c6 c7 c8 c9 c10 c11
        go_wp2_with fail
        rw [← hW2]
        refine Calls.mono (HW2.out _ HB2.out) ?_
        rintro en w5 ⟨rfl, hb5⟩
        have HB5 : Hid (Below W.heap.size W w5) := HB2.out.trans (hb5.mono HB2.out.size)
        clear hb5 HBW hW2 HB2 fw fr c0 c1 c2 c3 c4 c5 c6 c7 c8 c9 c10 c11 HW2
        go_wp2
        go_roundw
        case rel => exact ⟨3, _, by omega, by go_num, rfl, HI3, HSZ2, HB5⟩
        case measure => simp [intOf]
      · have fw := FD.w3
        have fr := FD.r3
        have HI2 := HS3.out S HIS.out
        have hz : ¬ 9223372036854775807 < S.size + T3.size := by have := HSZ.out; omega
        have HSZ2 : Hid ((S ++ T3).size ≤ 4 * 200000) := by show _ ≤ _; rw [ByteArray.size_append]; have := HSZ.out; omega
        have HI3 : Hid (Is (S ++ T3) (parts m 4)) := HI2
        clear HI2 FD HIS HSZ HW0 HS0 sz0 HW1 HS1 sz1 HW2 HS2 sz2 HW4 HS4 sz4 HW5 HS5 sz5 HW6 HS6 sz6 HW7 HS7 sz7 HW8 HS8 sz8 HW9 HS9 sz9 HW10 HS10 sz10 HW11 HS11 sz11
        obtain ⟨W2, hW2⟩ : ∃ W2, W2 = wr.alloc (Obj.cells #[.func (.func 56) #[] #[], .func (.func 58) #[] #[]] 80) := ⟨_, rfl⟩
        have HB2 : Hid (Below W.heap.size W W2) := by rw [hW2]; exact HBW.out.alloc HBW.out.size _
        obtain ⟨c0, c1, c2, c3, c4, c5, c6, c7, c8, c9, c10, c11⟩ := HLA.out W2 HB2.out
        rw [hW2] at c0 c1 c2 c3 c4 c5 c6 c7 c8 c9 c10 c11
        go_wp2_with fail
        rw [← hW2]
        refine Calls.mono (HW3.out _ HB2.out) ?_
        rintro en w5 ⟨rfl, hb5⟩
        have HB5 : Hid (Below W.heap.size W w5) := HB2.out.trans (hb5.mono HB2.out.size)
        clear hb5 HBW hW2 HB2 fw fr c0 c1 c2 c3 c4 c5 c6 c7 c8 c9 c10 c11 HW3
        go_wp2
        go_roundw
        case rel => exact ⟨4, _, by omega, by go_num, rfl, HI3, HSZ2, HB5⟩
        case measure => simp [intOf]
      · have fw := FD.w4
        have fr := FD.r4
        have HI2 := HS4.out S HIS.out
        have hz : ¬ 9223372036854775807 < S.size + T4.size := by have := HSZ.out; omega
        have HSZ2 : Hid ((S ++ T4).size ≤ 5 * 200000) := by show _ ≤ _; rw [ByteArray.size_append]; have := HSZ.out; omega
        have HI3 : Hid (Is (S ++ T4) (parts m 5)) := HI2
        clear HI2 FD HIS HSZ HW0 HS0 sz0 HW1 HS1 sz1 HW2 HS2 sz2 HW3 HS3 sz3 HW5 HS5 sz5 HW6 HS6 sz6 HW7 HS7 sz7 HW8 HS8 sz8 HW9 HS9 sz9 HW10 HS10 sz10 HW11 HS11 sz11
        obtain ⟨W2, hW2⟩ : ∃ W2, W2 = wr.alloc (Obj.cells #[.func (.func 60) #[] #[], .func (.func 61) #[] #[]] 80) := ⟨_, rfl⟩
        have HB2 : Hid (Below W.heap.size W W2) := by rw [hW2]; exact HBW.out.alloc HBW.out.size _
        obtain ⟨c0, c1, c2, c3, c4, c5, c6, c7, c8, c9, c10, c11⟩ := HLA.out W2 HB2.out
        rw [hW2] at c0 c1 c2 c3 c4 c5 c6 c7 c8 c9 c10 c11
        go_wp2_with fail
        rw [← hW2]
        refine Calls.mono (HW4.out _ HB2.out) ?_
        rintro en w5 ⟨rfl, hb5⟩
        have HB5 : Hid (Below W.heap.size W w5) := HB2.out.trans (hb5.mono HB2.out.size)
        clear hb5 HBW hW2 HB2 fw fr c0 c1 c2 c3 c4 c5 c6 c7 c8 c9 c10 c11 HW4
        go_wp2
        go_roundw
        case rel => exact ⟨5, _, by omega, by go_num, rfl, HI3, HSZ2, HB5⟩
        case measure => simp [intOf]
      · have fw := FD.w5
        have fr := FD.r5
        have HI2 := HS5.out S HIS.out
        have hz : ¬ 9223372036854775807 < S.size + T5.size := by have := HSZ.out; omega
        have HSZ2 : Hid ((S ++ T5).size ≤ 6 * 200000) := by show _ ≤ _; rw [ByteArray.size_append]; have := HSZ.out; omega
        have HI3 : Hid (Is (S ++ T5) (parts m 6)) := HI2
        clear HI2 FD HIS HSZ HW0 HS0 sz0 HW1 HS1 sz1 HW2 HS2 sz2 HW3 HS3 sz3 HW4 HS4 sz4 HW6 HS6 sz6 HW7 HS7 sz7 HW8 HS8 sz8 HW9 HS9 sz9 HW10 HS10 sz10 HW11 HS11 sz11
        obtain ⟨W2, hW2⟩ : ∃ W2, W2 = wr.alloc (Obj.cells #[.func (.func 62) #[] #[], .func (.func 63) #[] #[]] 80) := ⟨_, rfl⟩
        have HB2 : Hid (Below W.heap.size W W2) := by rw [hW2]; exact HBW.out.alloc HBW.out.size _
        obtain ⟨c0, c1, c2, c3, c4, c5, c6, c7, c8, c9, c10, c11⟩ := HLA.out W2 HB2.out
        rw [hW2] at c0 c1 c2 c3 c4 c5 c6 c7 c8 c9 c10 c11
        go_wp2_with fail
        rw [← hW2]
        refine Calls.mono (HW5.out _ HB2.out) ?_
        rintro en w5 ⟨rfl, hb5⟩
        have HB5 : Hid (Below W.heap.size W w5) := HB2.out.trans (hb5.mono HB2.out.size)
        clear hb5 HBW hW2 HB2 fw fr c0 c1 c2 c3 c4 c5 c6 c7 c8 c9 c10 c11 HW5
        go_wp2
        go_roundw
        case rel => exact ⟨6, _, by omega, by go_num, rfl, HI3, HSZ2, HB5⟩
        case measure => simp [intOf]
      · have fw := FD.w6
        have fr := FD.r6
        have HI2 := HS6.out S HIS.out
        have hz : ¬ 9223372036854775807 < S.size + T6.size := by have := HSZ.out; omega
        have HSZ2 : Hid ((S ++ T6).size ≤ 7 * 200000) := by show _ ≤ _; rw [ByteArray.size_append]; have := HSZ.out; omega
        have HI3 : Hid (Is (S ++ T6) (parts m 7)) := HI2
        clear HI2 FD HIS HSZ HW0 HS0 sz0 HW1 HS1 sz1 HW2 HS2 sz2 HW3 HS3 sz3 HW4 HS4 sz4 HW5 HS5 sz5 HW7 HS7 sz7 HW8 HS8 sz8 HW9 HS9 sz9 HW10 HS10 sz10 HW11 HS11 sz11
        obtain ⟨W2, hW2⟩ : ∃ W2, W2 = wr.alloc (Obj.cells #[.func (.func 64) #[] #[], .func (.func 65) #[] #[]] 80) := ⟨_, rfl⟩
        have HB2 : Hid (Below W.heap.size W W2) := by rw [hW2]; exact HBW.out.alloc HBW.out.size _
        obtain ⟨c0, c1, c2, c3, c4, c5, c6, c7, c8, c9, c10, c11⟩ := HLA.out W2 HB2.out
        rw [hW2] at c0 c1 c2 c3 c4 c5 c6 c7 c8 c9 c10 c11
        go_wp2_with fail
        rw [← hW2]
        refine Calls.mono (HW6.out _ HB2.out) ?_
        rintro en w5 ⟨rfl, hb5⟩
        have HB5 : Hid (Below W.heap.size W w5) := HB2.out.trans (hb5.mono HB2.out.size)
        clear hb5 HBW hW2 HB2 fw fr c0 c1 c2 c3 c4 c5 c6 c7 c8 c9 c10 c11 HW6
        go_wp2
        go_roundw
        case rel => exact ⟨7, _, by omega, by go_num, rfl, HI3, HSZ2, HB5⟩
        case measure => simp [intOf]
      · have fw := FD.w7
        have fr := FD.r7
        have HI2 := HS7.out S HIS.out
        have hz : ¬ 9223372036854775807 < S.size + T7.size := by have := HSZ.out; omega
        have HSZ2 : Hid ((S ++ T7).size ≤ 8 * 200000) := by show _ ≤ _; rw [ByteArray.size_append]; have := HSZ.out; omega
        have HI3 : Hid (Is (S ++ T7) (parts m 8)) := HI2
        clear HI2 FD HIS HSZ HW0 HS0 sz0 HW1 HS1 sz1 HW2 HS2 sz2 HW3 HS3 sz3 HW4 HS4 sz4 HW5 HS5 sz5 HW6 HS6 sz6 HW8 HS8 sz8 HW9 HS9 sz9 HW10 HS10 sz10 HW11 HS11 sz11
        obtain ⟨W2, hW2⟩ : ∃ W2, W2 = wr.alloc (Obj.cells #[.func (.func 66) #[] #[], .func (.func 68) #[] #[]] 80) := ⟨_, rfl⟩
        have HB2 : Hid (Below W.heap.size W W2) := by rw [hW2]; exact HBW.out.alloc HBW.out.size _
        obtain ⟨c0, c1, c2, c3, c4, c5, c6, c7, c8, c9, c10, c11⟩ := HLA.out W2 HB2.out
        rw [hW2] at c0 c1 c2 c3 c4 c5 c6 c7 c8 c9 c10 c11
        go_wp2_with fail
        rw [← hW2]
        refine Calls.mono (HW7.out _ HB2.out) ?_
        rintro en w5 ⟨rfl, hb5⟩
        have HB5 : Hid (Below W.heap.size W w5) := HB2.out.trans (hb5.mono HB2.out.size)
        clear hb5 HBW hW2 HB2 fw fr c0 c1 c2 c3 c4 c5 c6 c7 c8 c9 c10 c11 HW7
        go_wp2
        go_roundw
        case rel => exact ⟨8, _, by omega, by go_num, rfl, HI3, HSZ2, HB5⟩
        case measure => simp [intOf]
      · have fw := FD.w8
        have fr := FD.r8
        have HI2 := HS8.out S HIS.out
        have hz : ¬ 9223372036854775807 < S.size + T8.size := by have := HSZ.out; omega
        have HSZ2 : Hid ((S ++ T8).size ≤ 9 * 200000) := by show _ ≤ _; rw [ByteArray.size_append]; have := HSZ.out; omega
        have HI3 : Hid (Is (S ++ T8) (parts m 9)) := HI2
        clear HI2 FD HIS HSZ HW0 HS0 sz0 HW1 HS1 sz1 HW2 HS2 sz2 HW3 HS3 sz3 HW4 HS4 sz4 HW5 HS5 sz5 HW6 HS6 sz6 HW7 HS7 sz7 HW9 HS9 sz9 HW10 HS10 sz10 HW11 HS11 sz11
        obtain ⟨W2, hW2⟩ : ∃ W2, W2 = wr.alloc (Obj.cells #[.func (.func 70) #[] #[], .func (.func 71) #[] #[]] 80) := ⟨_, rfl⟩
        have HB2 : Hid (Below W.heap.size W W2) := by rw [hW2]; exact HBW.out.alloc HBW.out.size _
        obtain ⟨c0, c1, c2, c3, c4, c5, c6, c7, c8, c9, c10, c11⟩ := HLA.out W2 HB2.out
        rw [hW2] at c0 c1 c2 c3 c4 c5 c6 c7 c8 c9 c10 c11
        go_wp2_with fail
        rw [← hW2]
        refine Calls.mono (HW8.out _ HB2.out) ?_
        rintro en w5 ⟨rfl, hb5⟩
        have HB5 : Hid (Below W.heap.size W w5) := HB2.out.trans (hb5.mono HB2.out.size)
        clear hb5 HBW hW2 HB2 fw fr c0 c1 c2 c3 c4 c5 c6 c7 c8 c9 c10 c11 HW8
        go_wp2
        go_roundw
        case rel => exact ⟨9, _, by omega, by go_num, rfl, HI3, HSZ2, HB5⟩
        case measure => simp [intOf]
      · have fw := FD.w9
        have fr := FD.r9
        have HI2 := HS9.out S HIS.out
        have hz : ¬ 9223372036854775807 < S.size + T9.size := by have := HSZ.out; omega
        have HSZ2 : Hid ((S ++ T9).size ≤ 10 * 200000) := by show _ ≤ _; rw [ByteArray.size_append]; have := HSZ.out; omega
        have HI3 : Hid (Is (S ++ T9) (parts m 10)) := HI2
        clear HI2 FD HIS HSZ HW0 HS0 sz0 HW1 HS1 sz1 HW2 HS2 sz2 HW3 HS3 sz3 HW4 HS4 sz4 HW5 HS5 sz5 HW6 HS6 sz6 HW7 HS7 sz7 HW8 HS8 sz8 HW10 HS10 sz10 HW11 HS11 sz11
        obtain ⟨W2, hW2⟩ : ∃ W2, W2 = wr.alloc (Obj.cells #[.func (.func 72) #[] #[], .func (.func 74) #[] #[]] 80) := ⟨_, rfl⟩
        have HB2 : Hid (Below W.heap.size W W2) := by rw [hW2]; exact HBW.out.alloc HBW.out.size _
        obtain ⟨c0, c1, c2, c3, c4, c5, c6, c7, c8, c9, c10, c11⟩ := HLA.out W2 HB2.out
        rw [hW2] at c0 c1 c2 c3 c4 c5 c6 c7 c8 c9 c10 c11
        go_wp2_with fail
        rw [← hW2]
        refine Calls.mono (HW9.out _ HB2.out) ?_
        rintro en w5 ⟨rfl, hb5⟩
        have HB5 : Hid (Below W.heap.size W w5) := HB2.out.trans (hb5.mono HB2.out.size)
        clear hb5 HBW hW2 HB2 fw fr c0 c1 c2 c3 c4 c5 c6 c7 c8 c9 c10 c11 HW9
        go_wp2
        go_roundw
        case rel => exact ⟨10, _, by omega, by go_num, rfl, HI3, HSZ2, HB5⟩
        case measure => simp [intOf]
      · have fw := FD.w10
        have fr := FD.r10
        have HI2 := HS10.out S HIS.out
        have hz : ¬ 9223372036854775807 < S.size + T10.size := by have := HSZ.out; omega
        have HSZ2 : Hid ((S ++ T10).size ≤ 11 * 200000) := by show _ ≤ _; rw [ByteArray.size_append]; have := HSZ.out; omega
        have HI3 : Hid (Is (S ++ T10) (parts m 11)) := HI2
        clear HI2 FD HIS HSZ HW0 HS0 sz0 HW1 HS1 sz1 HW2 HS2 sz2 HW3 HS3 sz3 HW4 HS4 sz4 HW5 HS5 sz5 HW6 HS6 sz6 HW7 HS7 sz7 HW8 HS8 sz8 HW9 HS9 sz9 HW11 HS11 sz11
        obtain ⟨W2, hW2⟩ : ∃ W2, W2 = wr.alloc (Obj.cells #[.func (.func 76) #[] #[], .func (.func 79) #[] #[]] 80) := ⟨_, rfl⟩
        have HB2 : Hid (Below W.heap.size W W2) := by rw [hW2]; exact HBW.out.alloc HBW.out.size _
        obtain ⟨c0, c1, c2, c3, c4, c5, c6, c7, c8, c9, c10, c11⟩ := HLA.out W2 HB2.out
        rw [hW2] at c0 c1 c2 c3 c4 c5 c6 c7 c8 c9 c10 c11
        go_wp2_with fail
        rw [← hW2]
        refine Calls.mono (HW10.out _ HB2.out) ?_
        rintro en w5 ⟨rfl, hb5⟩
        have HB5 : Hid (Below W.heap.size W w5) := HB2.out.trans (hb5.mono HB2.out.size)
        clear hb5 HBW hW2 HB2 fw fr c0 c1 c2 c3 c4 c5 c6 c7 c8 c9 c10 c11 HW10
        go_wp2
        go_roundw
        case rel => exact ⟨11, _, by omega, by go_num, rfl, HI3, HSZ2, HB5⟩
        case measure => simp [intOf]
      · have fw := FD.w11
        have fr := FD.r11
        have HI2 := HS11.out S HIS.out
        have hz : ¬ 9223372036854775807 < S.size + T11.size := by have := HSZ.out; omega
        have HSZ2 : Hid ((S ++ T11).size ≤ 12 * 200000) := by show _ ≤ _; rw [ByteArray.size_append]; have := HSZ.out; omega
        have HI3 : Hid (Is (S ++ T11) (parts m 12)) := HI2
        clear HI2 FD HIS HSZ HW0 HS0 sz0 HW1 HS1 sz1 HW2 HS2 sz2 HW3 HS3 sz3 HW4 HS4 sz4 HW5 HS5 sz5 HW6 HS6 sz6 HW7 HS7 sz7 HW8 HS8 sz8 HW9 HS9 sz9 HW10 HS10 sz10
        obtain ⟨W2, hW2⟩ : ∃ W2, W2 = wr.alloc (Obj.cells #[.func (.func 81) #[] #[], .func (.func 82) #[] #[]] 80) := ⟨_, rfl⟩
        have HB2 : Hid (Below W.heap.size W W2) := by rw [hW2]; exact HBW.out.alloc HBW.out.size _
        obtain ⟨c0, c1, c2, c3, c4, c5, c6, c7, c8, c9, c10, c11⟩ := HLA.out W2 HB2.out
        rw [hW2] at c0 c1 c2 c3 c4 c5 c6 c7 c8 c9 c10 c11
        go_wp2_with fail
        rw [← hW2]
        refine Calls.mono (HW11.out _ HB2.out) ?_
        rintro en w5 ⟨rfl, hb5⟩
        have HB5 : Hid (Below W.heap.size W w5) := HB2.out.trans (hb5.mono HB2.out.size)
        clear hb5 HBW hW2 HB2 fw fr c0 c1 c2 c3 c4 c5 c6 c7 c8 c9 c10 c11 HW11
        go_wp2
        go_roundw
        case rel => exact ⟨12, _, by omega, by go_num, rfl, HI3, HSZ2, HB5⟩
        case measure => simp [intOf]
    · obtain rfl : k = 12 := by omega
      have HE : Hid (S = Msgs.textS m) := by
        have := HIS.out
        rw [parts_all] at this
        exact this.eq
      go_wp2
      go_ret
      exact ⟨by rw [← HE.out]; rfl, HB.out.trans (HBW.out.mono HB.out.size)⟩
end Go.Proofs.YtimacmijinblmaaGreat
