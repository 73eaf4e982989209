/- The program's replied, walked; and a command's changes done as one batch. The program's map of ops, walked: sessionOps, and what is looked up there. The program's asked, walked, where nothing changes. -/
import Derived.Test.YtpedpdgkbmpfjaaDoorPutting
import Derived.Test.YtpedpdgkbmpfjaaDoorDoAny
import Derived.MapKept
namespace Go.Proofs.YtpedpdgkbmpfjaaDoor
open Go.RowKit
open Acts (decS skey sval nkey kkey sess parse Enc get nextN least pickL findS opC opR opM doneM openM leftM)
set_option linter.unusedVariables false
set_option linter.unusedSimpArgs false

set_option maxHeartbeats 1000000 in
theorem replied_is {aA : Option Addr} {gA offA capA : Nat} {aB : Option Addr} {gB offB capB : Nat} (m : List PairL) (hlm : m.length ≤ 2097152) (hsm : ∀ c ∈ m, smallPair 2097152 c) (cs : List ChangeL) (hlc : cs.length ≤ 2097152) (hsc : ∀ c ∈ cs, smallChange 2097152 c) (out : List PairL) (hR : DoR m 0 cs out true) (r : ByteArray)
    (w : World) (hfA : PairAt w aA gA offA m) (hfB : ChangeAt w aB gB offB cs) :
    Calls Tryd.prog 38 #[.slice aA m.length capA, .slice aB cs.length capB, .string r] w fun e w' => ∃ v, e = .returned (.tuple #[v, .string r, .bool true]) ∧ w'.ownsRow w.heap.size 48 2 v out.length (cellsPair out) ∧ Below w.heap.size w w' := by
  have HQ : Hid (Calls Tryd.prog 59 #[.slice aA m.length capA, .agg #[.int .i64 0, .slice aB cs.length capB]] w fun e w' => ∃ v, e = .returned (.tuple #[v, .bool true]) ∧ w'.ownsRow w.heap.size 48 2 v out.length (cellsPair out) ∧ Below w.heap.size w w') := implDo_at m hlm hsm 0 cs hlc hsc out true hR w hfA hfB
  clear hfA hfB hR hsm hsc
  go_enter Tryd.func38, Tryd.ntmps38
  go_wp2_with (go_at_call 59; refine Calls.mono HQ.out ?_; rintro e w1 ⟨v, rfl, ho1, hb1⟩)
  go_ret3
  exact ⟨v, rfl, ho1, hb1⟩
theorem pair_small {k v : ByteArray} (h1 : k.size ≤ 10) (h2 : v.size ≤ 40) (g : Bool) : smallChange 2097152 ⟨k, v, g⟩ := ⟨by show k.size ≤ _; omega, by show v.size ≤ _; omega⟩
/-- What is changed, one behind the other, is what the batch does. -/
theorem doR_fold {m : List PairL} {cs : List ChangeL} (hm : Maps.ok m) (hc : ∀ c ∈ cs, Batches.changeOk c) (ha : Maps.AscC cs) (hl : cs.length ≤ 60) (ho : Maps.ok (cs.foldl Maps.stepC m)) : DoR m 0 cs (cs.foldl Maps.stepC m) true := by
  have hb : Batches.ok 0 cs := (Maps.okC_iff 0 cs).2 ⟨by omega, hl, hc, ha⟩
  have e := Maps.done_fold hm hb
  exact Or.inl ⟨⟨hm, hb⟩, by rw [← e]; exact ho, e, rfl⟩
end Go.Proofs.YtpedpdgkbmpfjaaDoor
namespace Go.Proofs.YtpedpdgkbmpfjaaDoor
open Go.RowKit
set_option linter.unusedVariables false
set_option linter.unusedSimpArgs false

def opF (n : Nat) : Value := .func (.func n) #[] #[]
def opE (k : Int) (n clock : Nat) : MapEntry := { key := .int .i64 k, val := opF n, born := clock }
def opsM : Array MapEntry := #[opE 2 83 0, opE 3 84 1, opE 4 85 2, opE 5 86 3]
theorem Tryd.map110 : Tryd.prog.underlying 110 = some (.map 3 109) := by kernel_rfl
theorem Tryd.int3 : Tryd.prog.underlying 3 = some (.int .i64) := by kernel_rfl
theorem push_set (h : Array Obj) (a b : Obj) : (h.push a).setIfInBounds h.size b = h.push b := by
  apply Array.ext'
  simp
theorem up_new (w : World) (es : Array MapEntry) (clock : Nat) (k : Int) (v : Value) (hf : Instr.findNow (.int .i64) (.int .i64 k) es.toList 0 = some none) :
    (Instr.mapUpdate 110 (.map (some w.heap.size)) (.int .i64 k) v).run Tryd.prog (w.alloc (.map es clock)) = .ok () (w.alloc (.map (es.push { key := .int .i64 k, val := v, born := clock }) (clock + 1))) := by
  have hb : (w.alloc (.map es clock)).heap[w.heap.size]? = some (.map es clock) := heap_alloc_new w _
  have hc : (Instr.checkKey false 10000 3 (.int .i64 k)).run Tryd.prog (w.alloc (.map es clock)) = .ok () (w.alloc (.map es clock)) := MapKept.run_checkKey (k := .int .i64 k) Tryd.int3 (by simp [MapKept.IsKey]) false 9999
  have e : ({ w.alloc (.map es clock) with heap := (w.alloc (.map es clock)).heap.setIfInBounds w.heap.size (.map (es.push { key := .int .i64 k, val := v, born := clock }) (clock + 1)) } : World) = w.alloc (.map (es.push { key := .int .i64 k, val := v, born := clock }) (clock + 1)) := by
    unfold World.alloc
    simp only
    rw [push_set]
  simp [Instr.mapUpdate, run_underlying Tryd.map110, MapKept.run_getObj_map hb, hc, MapKept.run_findKey Tryd.int3 hf, MapKept.run_setObj_map _ hb, Result.andThen]
  exact e
set_option maxHeartbeats 1000000 in
set_option maxRecDepth 100000 in
theorem ops_is (w : World) : Calls Tryd.prog 66 #[] w fun e w' => e = .returned (.map (some w.heap.size)) ∧ w' = w.alloc (.map opsM 4) := by
  have hmk : ∀ W : World, (Instr.makeMap 110 none).run Tryd.prog W = .ok (.map (some W.heap.size)) (W.alloc (.map #[] 0)) := fun _ => rfl
  have u2 := up_new w #[] 0 2 (opF 83) rfl
  have u3 := up_new w #[opE 2 83 0] 1 3 (opF 84) rfl
  have u4 := up_new w #[opE 2 83 0, opE 3 84 1] 2 4 (opF 85) rfl
  have u5 := up_new w #[opE 2 83 0, opE 3 84 1, opE 4 85 2] 3 5 (opF 86) rfl
  simp only [opF, opE, List.push_toArray, List.cons_append, List.nil_append] at u2 u3 u4 u5
  go_enter Tryd.func66, Tryd.ntmps66
  go_wp2
  go_ret
  exact ⟨rfl, rfl⟩
set_option maxRecDepth 100000 in
theorem look (W : World) (r : Nat) (k : Int) (n j : Nat) (hb : W.heap[r]? = some (.map opsM 4)) (hf : Instr.findNow (.int .i64) (.int .i64 k) opsM.toList 0 = some (some (j, opF n))) : (Instr.lookup 110 (.map (some r)) (.int .i64 k) false).run Tryd.prog W = .ok (opF n) W := by
  have hc : (Instr.checkKey false 10000 3 (.int .i64 k)).run Tryd.prog W = .ok () W := MapKept.run_checkKey (k := .int .i64 k) Tryd.int3 (by simp [MapKept.IsKey]) false 9999
  have he : opsM.isEmpty = false := rfl
  simp [Instr.lookup, run_underlying Tryd.map110, MapKept.run_getObj_map hb, he, hc, MapKept.run_findKey Tryd.int3 hf, Result.andThen]
theorem look_op (W : World) (r : Nat) (hb : W.heap[r]? = some (.map opsM 4)) : (Instr.lookup 110 (.map (some r)) (.int .i64 2) false).run Tryd.prog W = .ok (opF 83) W ∧ (Instr.lookup 110 (.map (some r)) (.int .i64 3) false).run Tryd.prog W = .ok (opF 84) W ∧ (Instr.lookup 110 (.map (some r)) (.int .i64 4) false).run Tryd.prog W = .ok (opF 85) W ∧ (Instr.lookup 110 (.map (some r)) (.int .i64 5) false).run Tryd.prog W = .ok (opF 86) W :=
  ⟨look W r 2 83 0 hb rfl, look W r 3 84 1 hb rfl, look W r 4 85 2 hb rfl, look W r 5 86 3 hb rfl⟩
end Go.Proofs.YtpedpdgkbmpfjaaDoor
namespace Go.Proofs.YtpedpdgkbmpfjaaDoor
open Go.RowKit
open Acts (decS skey sval nkey kkey sess parse Enc get nextN least pickL findS opC opR opM doneM openM leftM)
set_option linter.unusedVariables false
set_option linter.unusedSimpArgs false

theorem cmd_kept {w w1 : World} {c : CmdL} (hb : Below (w.alloc (Obj.cells #[.int .i64 c.op, .int .i64 c.ses, .int .i64 c.seq, .string c.key, .string c.val, .string c.old] 31)).heap.size (w.alloc (Obj.cells #[.int .i64 c.op, .int .i64 c.ses, .int .i64 c.seq, .string c.key, .string c.val, .string c.old] 31)) w1) : w1.heap[w.heap.size]? = some (.cells #[.int .i64 c.op, .int .i64 c.ses, .int .i64 c.seq, .string c.key, .string c.val, .string c.old] 31 (0, 0)) := by
  have p := heap_alloc_new w (Obj.cells #[.int .i64 c.op, .int .i64 c.ses, .int .i64 c.seq, .string c.key, .string c.val, .string c.old] 31)
  exact (hb.block _ (Array.getElem?_eq_some_iff.1 p).1).trans p
set_option maxHeartbeats 2000000 in
set_option maxRecDepth 100000 in
theorem asked_none {a b : Option Addr} {cap capb g2 off2 i : Nat} (m : List PairL) (L : List Ses) (hL : L.length ≤ 200) (c : CmdL) (hn : L.find? (fun s => (s.id : Int) == c.ses) = none) (w : World) (hf : SesAt w b g2 off2 L) :
    Calls Tryd.prog 37 #[.slice a m.length cap, .int .i64 (i : Int), .agg #[.int .i64 c.op, .int .i64 c.ses, .int .i64 c.seq, .string c.key, .string c.val, .string c.old], .slice b L.length capb] w fun e w' => e = .returned (.tuple #[.slice none 0 0, .string Acts.expR]) ∧ Below w.heap.size w w' := by
  have hA : Below w.heap.size w (w.alloc (Obj.cells #[.int .i64 c.op, .int .i64 c.ses, .int .i64 c.seq, .string c.key, .string c.val, .string c.old] 31)) := (Below.refl _ _).alloc (Nat.le_refl _) _
  have HB : Hid (Below w.heap.size w (w.alloc (Obj.cells #[.int .i64 c.op, .int .i64 c.ses, .int .i64 c.seq, .string c.key, .string c.val, .string c.old] 31))) := hA
  have HQ : Hid (Calls Tryd.prog 64 #[.slice b L.length capb, .int .i64 c.ses] (w.alloc (Obj.cells #[.int .i64 c.op, .int .i64 c.ses, .int .i64 c.seq, .string c.key, .string c.val, .string c.old] 31)) fun e w' => e = .returned (.tuple #[.agg #[.int .i64 0, .int .i64 0, .int .i64 0, .string ⟨#[]⟩], .bool false]) ∧ Below (w.alloc (Obj.cells #[.int .i64 c.op, .int .i64 c.ses, .int .i64 c.seq, .string c.key, .string c.val, .string c.old] 31)).heap.size (w.alloc (Obj.cells #[.int .i64 c.op, .int .i64 c.ses, .int .i64 c.seq, .string c.key, .string c.val, .string c.old] 31)) w') := (sesOf64_is L hL c.ses _ (hf.kept hA)).mono fun e w' ⟨h1, h2⟩ => ⟨by rw [h1]; unfold foundV; rw [hn]; rfl, h2⟩
  clear hA hf hn
  go_enter Tryd.func37, Tryd.ntmps37
  go_wp2_with (go_at_call 64; refine Calls.mono HQ.out ?_; rintro e w1 ⟨rfl, hb1⟩)
  go_ret2
  exact ⟨rfl, (HB.out.trans (hb1.mono HB.out.size)).alloc (HB.out.trans (hb1.mono HB.out.size)).size _⟩
set_option maxHeartbeats 4000000 in
set_option maxRecDepth 100000 in
theorem asked_old {a b : Option Addr} {cap capb g2 off2 i : Nat} (m : List PairL) (L : List Ses) (hL : L.length ≤ 200) (c : CmdL) (s : Ses) (hs : s.seq ≤ 1000 ∧ s.rep.size ≤ 1000) (hn : L.find? (fun s => (s.id : Int) == c.ses) = some s) (hq : c.seq ≤ (s.seq : Int) ∨ (s.seq : Int) + 1 < c.seq) (w : World) (hf : SesAt w b g2 off2 L) :
    Calls Tryd.prog 37 #[.slice a m.length cap, .int .i64 (i : Int), .agg #[.int .i64 c.op, .int .i64 c.ses, .int .i64 c.seq, .string c.key, .string c.val, .string c.old], .slice b L.length capb] w fun e w' => e = .returned (.tuple #[.slice none 0 0, .string (if c.seq < (s.seq : Int) then Acts.staleR else if c.seq = (s.seq : Int) then s.rep else Acts.gapR)]) ∧ Below w.heap.size w w' := by
  have hA : Below w.heap.size w (w.alloc (Obj.cells #[.int .i64 c.op, .int .i64 c.ses, .int .i64 c.seq, .string c.key, .string c.val, .string c.old] 31)) := (Below.refl _ _).alloc (Nat.le_refl _) _
  have HB : Hid (Below w.heap.size w (w.alloc (Obj.cells #[.int .i64 c.op, .int .i64 c.ses, .int .i64 c.seq, .string c.key, .string c.val, .string c.old] 31))) := hA
  have HQ : Hid (Calls Tryd.prog 64 #[.slice b L.length capb, .int .i64 c.ses] (w.alloc (Obj.cells #[.int .i64 c.op, .int .i64 c.ses, .int .i64 c.seq, .string c.key, .string c.val, .string c.old] 31)) fun e w' => e = .returned (.tuple #[.agg #[.int .i64 (s.id : Int), .int .i64 (s.seq : Int), .int .i64 (s.at_ : Int), .string s.rep], .bool true]) ∧ Below (w.alloc (Obj.cells #[.int .i64 c.op, .int .i64 c.ses, .int .i64 c.seq, .string c.key, .string c.val, .string c.old] 31)).heap.size (w.alloc (Obj.cells #[.int .i64 c.op, .int .i64 c.ses, .int .i64 c.seq, .string c.key, .string c.val, .string c.old] 31)) w') := (sesOf64_is L hL c.ses _ (hf.kept hA)).mono fun e w' ⟨h1, h2⟩ => ⟨by rw [h1]; unfold foundV; rw [hn]; rfl, h2⟩
  have HCL : Hid (∀ W, Calls Tryd.prog 65 #[.string s.rep] W fun e w' => e = .returned (.string s.rep) ∧ Below W.heap.size W w') := fun W => clone_any s.rep (by omega) W
  have HS : Hid (s.seq ≤ 1000) := hs.1
  clear hA hf hn hs
  have hs1 : (s.seq : Int) ≤ 1000 := by have := HS.out; omega
  by_cases q1 : c.seq < (s.seq : Int)
  · rw [if_pos q1]
    clear hq
    go_enter Tryd.func37, Tryd.ntmps37
    go_wp2_with fail
    refine Calls.mono HQ.out ?_
    rintro e w1 ⟨rfl, hb1⟩
    have HB1 : Hid (Below w.heap.size w w1) := HB.out.trans (hb1.mono HB.out.size)
    have x2 : (w1.alloc (Obj.cells #[.int .i64 (s.id : Int), .int .i64 (s.seq : Int), .int .i64 (s.at_ : Int), .string s.rep] 92)).cell? ⟨w.heap.size, 2, none⟩ = some (.int .i64 c.seq) := cell_of_row _ _ 2 _ _ _ (cmd_kept (hb1.alloc hb1.size _))
    clear hb1
    go_wp2
    go_ret2
    exact ⟨rfl, HB1.out.alloc HB1.out.size _⟩
  · rw [if_neg q1]
    by_cases q2 : c.seq = (s.seq : Int)
    · rw [if_pos q2]
      have q2' : (c.seq == (s.seq : Int)) = true := by simp [q2]
      clear hq q2
      go_enter Tryd.func37, Tryd.ntmps37
      go_wp2_with fail
      refine Calls.mono HQ.out ?_
      rintro e w1 ⟨rfl, hb1⟩
      have HB1 : Hid (Below w.heap.size w w1) := HB.out.trans (hb1.mono HB.out.size)
      have x2 : (w1.alloc (Obj.cells #[.int .i64 (s.id : Int), .int .i64 (s.seq : Int), .int .i64 (s.at_ : Int), .string s.rep] 92)).cell? ⟨w.heap.size, 2, none⟩ = some (.int .i64 c.seq) := cell_of_row _ _ 2 _ _ _ (cmd_kept (hb1.alloc hb1.size _))
      clear hb1
      go_wp2_with (go_at_call 65; refine Calls.mono (HCL.out _) ?_; rintro e w2 ⟨rfl, hb2⟩)
      go_ret2
      have b1 := HB1.out.alloc HB1.out.size (Obj.cells #[.int .i64 (s.id : Int), .int .i64 (s.seq : Int), .int .i64 (s.at_ : Int), .string s.rep] 92)
      exact ⟨rfl, b1.trans (hb2.mono b1.size)⟩
    · rw [if_neg q2]
      have q2' : (c.seq == (s.seq : Int)) = false := by simp [q2]
      have q3 : (s.seq : Int) + 1 < c.seq := by omega
      clear hq q2
      go_enter Tryd.func37, Tryd.ntmps37
      go_wp2_with fail
      refine Calls.mono HQ.out ?_
      rintro e w1 ⟨rfl, hb1⟩
      have HB1 : Hid (Below w.heap.size w w1) := HB.out.trans (hb1.mono HB.out.size)
      have x2 : (w1.alloc (Obj.cells #[.int .i64 (s.id : Int), .int .i64 (s.seq : Int), .int .i64 (s.at_ : Int), .string s.rep] 92)).cell? ⟨w.heap.size, 2, none⟩ = some (.int .i64 c.seq) := cell_of_row _ _ 2 _ _ _ (cmd_kept (hb1.alloc hb1.size _))
      clear hb1
      go_wp2
      go_ret2
      exact ⟨rfl, HB1.out.alloc HB1.out.size _⟩
end Go.Proofs.YtpedpdgkbmpfjaaDoor
