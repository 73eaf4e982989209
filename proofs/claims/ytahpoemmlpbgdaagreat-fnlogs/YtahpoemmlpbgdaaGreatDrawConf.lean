/- The law's own sameLog at two logs that are alike, and EntryAt of the specification, walked. What is drawn of commands, walked: CommandOk, CommandText. The calls of l07Conf and l07AnyConf, walked: some list of a few numbers. -/
import Derived.Test.YtahpoemmlpbgdaaGreatSpecLog
import Derived.Test.YtahpoemmlpbgdaaGreatAgg
import Derived.Laws.StructEq
import Derived.BigQuiet
import Derived.Test.YtahpoemmlpbgdaaGreatSpecEntT
import Derived.Test.YtahpoemmlpbgdaaGreatDrawA
import Derived.Test.YtahpoemmlpbgdaaGreatConfA
namespace Go.Proofs.YtahpoemmlpbgdaaGreat
open Go.RowKit
open Logs (okL)
set_option linter.unusedVariables false
set_option linter.unusedSimpArgs false

theorem two_logs (w : World) (L M : Array Value) : ∃ W, W = (w.alloc (Obj.cells L 26)).alloc (Obj.cells M 26) ∧ Below w.heap.size w W ∧ W.heap[w.heap.size]? = some (.cells L 26 (0, 0)) ∧ W.heap[w.heap.size + 1]? = some (.cells M 26 (0, 0)) := by
  refine ⟨_, rfl, ((Below.refl _ _).alloc (Nat.le_refl _) _).alloc (by simp) _, ?_, ?_⟩
  · rw [Below.heap_alloc _ _ _ (by simp)]
    exact heap_alloc_new w _
  · have := heap_alloc_new (w.alloc (Obj.cells L 26)) (Obj.cells M 26)
    simpa using this
set_option maxHeartbeats 4000000 in
set_option maxRecDepth 100000 in
theorem lawSame_is {a a' : Option Addr} {g g' off off' cap cap' : Nat} (l : LogL) (n1 : l.ents.length ≤ 1048576) (w : World) (hA : EnAt w a g off l.ents) (hB : EnAt w a' g' off' l.ents) :
    Calls Tryz.prog 8 #[.agg #[.int .i64 l.start, .int .i64 l.sterm, .slice a l.ents.length cap], .agg #[.int .i64 l.start, .int .i64 l.sterm, .slice a' l.ents.length cap']] w fun e w' => e = .returned (.bool true) ∧ Below w.heap.size w w' := by
  obtain ⟨W, hW, hb, hp0, hp1⟩ := two_logs w #[.int .i64 l.start, .int .i64 l.sterm, .slice a l.ents.length cap] #[.int .i64 l.start, .int .i64 l.sterm, .slice a' l.ents.length cap']
  have HP0 : Hid (∀ W1, Below W.heap.size W W1 → W1.cell? ⟨w.heap.size, 2, none⟩ = some (.slice a l.ents.length cap)) := fun W1 h => cell_of_row _ _ 2 _ _ _ ((h.block _ (Array.getElem?_eq_some_iff.1 hp0).1).trans hp0)
  have HP1 : Hid (∀ W1, Below W.heap.size W W1 → W1.cell? ⟨w.heap.size + 1, 2, none⟩ = some (.slice a' l.ents.length cap')) := fun W1 h => cell_of_row _ _ 2 _ _ _ ((h.block _ (Array.getElem?_eq_some_iff.1 hp1).1).trans hp1)
  have HB : Hid (Below w.heap.size w W) := hb
  have HD : Hid (∀ W1, Below W.heap.size W W1 → EnAt W1 a g off l.ents ∧ EnAt W1 a' g' off' l.ents) := fun W1 h => ⟨(hA.kept hb).kept h, (hB.kept hb).kept h⟩
  have p0 := cell_of_row _ _ 0 _ _ _ hp0
  have p1 := cell_of_row _ _ 1 _ _ _ hp0
  have p2 := cell_of_row _ _ 2 _ _ _ hp0
  have q0 := cell_of_row _ _ 0 _ _ _ hp1
  have q1 := cell_of_row _ _ 1 _ _ _ hp1
  have q2 := cell_of_row _ _ 2 _ _ _ hp1
  simp at p0 p1 p2 q0 q1 q2
  clear hA hB hb hp0 hp1
  rw [hW] at p0 p1 p2 q0 q1 q2
  go_enter Tryz.func8, Tryz.ntmps8
  go_wp2_with fail
  rw [← hW]
  clear p0 p1 p2 q0 q1 q2 hW
  go_loopw [5] (fun i wr => ∃ k : Nat, k ≤ l.ents.length ∧ i = .int .i64 (k : Int) ∧ Below W.heap.size W wr) (fun i _ => l.ents.length - (intOf i).toNat)
  case atStart => exact ⟨0, Nat.zero_le _, rfl, Below.refl _ _⟩
  case round =>
    obtain ⟨k, hk, rfl, hbel⟩ := hrel
    have HBL : Hid (Below W.heap.size W wr) := hbel
    have p2 := HP0.out _ hbel
    have q2 := HP1.out _ hbel
    by_cases hlt : k < l.ents.length
    · obtain ⟨a0, a1, a2⟩ := (HD.out _ hbel).1.2 k hlt
      obtain ⟨b0, b1, b2⟩ := (HD.out _ hbel).2.2 k hlt
      have ea := (HD.out _ hbel).1.1 (by omega)
      have eb := (HD.out _ hbel).2.1 (by omega)
      subst ea eb
      obtain ⟨X, hX⟩ : ∃ X, X = l.ents[k] := ⟨_, rfl⟩
      rw [← hX] at a0 a1 a2 b0 b1 b2
      clear hX hbel
      have hk0 : (0 : Int) ≤ (k : Int) := by omega
      have hk1 : (k : Int) < (l.ents.length : Int) := by omega
      have hkey : (X.data.toList == X.data.toList) = true := by simp
      go_wp2
      have NE := Abv.ne wr
      have P2 := fun x : Abv wr => x.cell p2
      have Q2 := fun x : Abv wr => x.cell q2
      have A0 := fun x : Abv wr => x.cell a0
      have A1 := fun x : Abv wr => x.cell a1
      have A2 := fun x : Abv wr => x.cell a2
      have B0 := fun x : Abv wr => x.cell b0
      have B1 := fun x : Abv wr => x.cell b1
      have B2 := fun x : Abv wr => x.cell b2
      refine wp_region_above (by kernel_rfl) (by kernel_rfl) ?_
      repeat (go_big_quiet_step (fail))
      refine wpQuiet_nil ?_
      rintro w1 ⟨⟨_, hb1⟩, rfl⟩
      clear NE P2 Q2 A0 A1 A2 B0 B1 B2
      go_wp2
      go_roundw
      case rel => exact ⟨k + 1, by omega, by go_num, HBL.out.trans (hb1.mono HBL.out.size)⟩
      case measure => simp [intOf]; omega
    · have hge : ¬ (k : Int) < (l.ents.length : Int) := by omega
      clear hbel
      go_wp2
      go_ret
      exact ⟨rfl, HB.out.trans (HBL.out.mono HB.out.size)⟩
theorem ent_one (p q : Int) (s : ByteArray) : ∀ x ∈ (#[.int .i64 p, .int .i64 q, .string s] : Array Value).toList, x.oneCell' = true := by
  intro x hx
  simp at hx
  rcases hx with rfl | rfl | rfl <;> rfl
theorem result16 {w : World} {g : Nat} {A C : Array Value} {b : Bool} (hg : w.heap[g]? = some (.cells C 51 (0, 0))) (hs : A.size = 3) {tmps : Array Value} (ht : tmps.getD 4 undef = .pointer (some ⟨g, 0, none⟩)) (hb : tmps.getD 5 undef = .bool b) : (results Tryz.f16 tmps).run Tryz.prog (w.setRow g A) = .ok (.tuple #[.agg A, .bool b]) (w.setRow g A) := by
  have h := run_loadVar_agg (P := Tryz.prog) Tryz.isAgg51 Tryz.sizeOf51 (row_size (A := A) hg) hs
  have ht' : tmps[4]?.getD undef = .pointer (some ⟨g, 0, none⟩) := by simpa using ht
  have hb' : tmps[5]?.getD undef = .bool b := by simpa using hb
  simp [results, Tryz.results16, ht', hb', asAddr, h]
/-- What EntryAt answers of a right log. -/
def entAtV (l : LogL) (i : Int) : Value := if i ≤ l.start ∨ l.start + (l.ents.length : Int) < i then .tuple #[.agg #[.int .i64 0, .int .i64 0, .string ⟨#[]⟩], .bool false] else
  match l.ents[(i - l.start - 1).toNat]? with
  | some e => .tuple #[.agg #[.int .i64 e.term, .int .i64 e.kind, .string e.data], .bool true]
  | none => .tuple #[.agg #[.int .i64 0, .int .i64 0, .string ⟨#[]⟩], .bool false]
set_option maxHeartbeats 4000000 in
set_option maxRecDepth 100000 in
theorem entryAt_is {a : Option Addr} {g off cap : Nat} (l : LogL) (hok : okL l = true) (hd : ∀ e ∈ l.ents, e.data.size ≤ 1048576) (i : Int) (hi : 0 ≤ i ∧ i ≤ 1000000) (w : World) (hf : EnAt w a g off l.ents) :
    Calls Tryz.prog 16 #[.agg #[.int .i64 l.start, .int .i64 l.sterm, .slice a l.ents.length cap], .int .i64 i] w fun e w' => e = .returned (entAtV l i) ∧ Below w.heap.size w w' := by
  have hfit := (Logs.okL_iff.1 hok).1
  obtain ⟨s0, s1, t0, t1, hn, hm⟩ := hfit
  obtain ⟨W, hW⟩ : ∃ W, W = (w.alloc (Obj.cells #[.int .i64 l.start, .int .i64 l.sterm, .slice a l.ents.length cap] 26)).alloc (Obj.cells #[.int .i64 0, .int .i64 0, .string ⟨#[]⟩] 51) := ⟨_, rfl⟩
  have hb : Below w.heap.size w W := by rw [hW]; exact ((Below.refl _ _).alloc (Nat.le_refl _) _).alloc (by simp) _
  have hp0 : W.heap[w.heap.size]? = some (.cells #[.int .i64 l.start, .int .i64 l.sterm, .slice a l.ents.length cap] 26 (0, 0)) := by
    rw [hW, Below.heap_alloc _ _ _ (by simp)]; exact heap_alloc_new w _
  have hp1 : W.heap[w.heap.size + 1]? = some (.cells #[.int .i64 0, .int .i64 0, .string ⟨#[]⟩] 51 (0, 0)) := by
    have := heap_alloc_new (w.alloc (Obj.cells #[.int .i64 l.start, .int .i64 l.sterm, .slice a l.ents.length cap] 26)) (Obj.cells #[.int .i64 0, .int .i64 0, .string ⟨#[]⟩] 51)
    rw [hW]; simpa using this
  have HX : Hid (W.heap[w.heap.size]? = some (.cells #[.int .i64 l.start, .int .i64 l.sterm, .slice a l.ents.length cap] 26 (0, 0))) := hp0
  rw [hW] at HX
  have HC : Hid (Calls Tryz.prog 15 #[.agg #[.int .i64 l.start, .int .i64 l.sterm, .slice a l.ents.length cap]] W fun en w' => en = .returned (.bool true) ∧ Below W.heap.size W w') := by
    have := specLogOk_is (cap := cap) l (by omega) hd W (hf.kept hb)
    rw [hok] at this
    exact this
  have HB : Hid (Below w.heap.size w W) := hb
  have HP : Hid (∀ W1, Below W.heap.size W W1 → W1.heap[w.heap.size]? = some (.cells #[.int .i64 l.start, .int .i64 l.sterm, .slice a l.ents.length cap] 26 (0, 0)) ∧ W1.heap[w.heap.size + 1]? = some (.cells #[.int .i64 0, .int .i64 0, .string ⟨#[]⟩] 51 (0, 0)) ∧ EnAt W1 a g off l.ents) := fun W1 h => ⟨(h.block _ (Array.getElem?_eq_some_iff.1 hp0).1).trans hp0, (h.block _ (Array.getElem?_eq_some_iff.1 hp1).1).trans hp1, (hf.kept hb).kept h⟩
  have HLI : Hid (lastI l = l.start + (l.ents.length : Int)) := by show _ = _; unfold lastI wrap64; omega
  clear hok hf hb hp0 hp1
  go_enter Tryz.func16, Tryz.ntmps16
  go_wp2_with (first | (refine wpList_loadA Tryz.isAgg26 Tryz.sizeOf26 rfl _ rfl w.heap.size #[.int .i64 l.start, .int .i64 l.sterm, .slice a l.ents.length cap] 26 rfl HX.out rfl ?_) | fail)
  rw [← hW]
  clear hW HX
  obtain ⟨q, hq⟩ : ∃ q, q = w.heap.size := ⟨_, rfl⟩
  have HQ : Hid (q = w.heap.size) := hq
  rw [← hq] at HP ⊢
  clear hq
  refine Calls.mono HC.out ?_
  rintro en w2 ⟨rfl, hb2⟩
  obtain ⟨x2, z2, e2⟩ := HP.out _ hb2
  have HX2 : Hid (w2.heap[q]? = some (.cells #[.int .i64 l.start, .int .i64 l.sterm, .slice a l.ents.length cap] 26 (0, 0))) := x2
  have HB2 : Hid (Below w.heap.size w w2) := HB.out.trans (hb2.mono HB.out.size)
  have HK2 : Hid (Below W.heap.size W w2) := hb2
  have HZ2 : Hid (w2.heap[q + 1]? = some (.cells #[.int .i64 0, .int .i64 0, .string ⟨#[]⟩] 51 (0, 0))) := z2
  have c0 := cell_of_row _ _ 0 _ _ _ x2
  have c1 := cell_of_row _ _ 1 _ _ _ x2
  have c2 := cell_of_row _ _ 2 _ _ _ x2
  have d0 := cell_of_row _ _ 0 _ _ _ z2
  have d1 := cell_of_row _ _ 1 _ _ _ z2
  have d2 := cell_of_row _ _ 2 _ _ _ z2
  have df0 := frozen_of_row _ _ 0 _ _ z2
  have df1 := frozen_of_row _ _ 1 _ _ z2
  have df2 := frozen_of_row _ _ 2 _ _ z2
  simp at c0 c1 c2 d0 d1 d2
  clear hb2 x2 z2 HC
  have HE : Hid (∀ (X : World) (A : Array Value), Below w.heap.size w X → Below w.heap.size w (X.setRow (q + 1) A)) := fun X A h => ⟨h.os, h.tape, h.output, by rw [setRow_size]; exact h.size, fun k hk => (setRow_other X (q + 1) k A (by have := HQ.out; omega)).trans (h.block k hk)⟩
  by_cases h1 : i ≤ l.start
  · have hv : entAtV l i = .tuple #[.agg #[.int .i64 0, .int .i64 0, .string ⟨#[]⟩], .bool false] := by unfold entAtV; rw [if_pos (Or.inl h1)]
    have HV : Hid (entAtV l i = .tuple #[.agg #[.int .i64 0, .int .i64 0, .string ⟨#[]⟩], .bool false]) := hv
    clear hv e2
    go_wp2_with (first | (refine wpList_storeA Tryz.sizeOf51 rfl _ _ rfl (q + 1) #[.int .i64 0, .int .i64 0, .string ⟨#[]⟩] #[.int .i64 0, .int .i64 0, .string ⟨#[]⟩] 51 rfl rfl HZ2.out rfl rfl (ent_one _ _ _) ?_) | fail)
    exact bodyPost_ret (result16 HZ2.out rfl rfl rfl) rfl ⟨by rw [HV.out], HE.out _ _ HB2.out⟩
  · have h1d : decide (i ≤ l.start) = false := by simp only [decide_eq_false_iff_not]; exact h1
    have HC2 : Hid (Calls Tryz.prog 41 #[.agg #[.int .i64 l.start, .int .i64 l.sterm, .slice a l.ents.length cap]] w2 fun en w' => en = .returned (.int .i64 (l.start + (l.ents.length : Int))) ∧ Below w2.heap.size w2 w') := by rw [← HLI.out]; exact specLastI_is l (by omega) w2
    clear d0 d1 d2 df0 df1 df2 e2
    go_wp2_with fail
    clear c0 c1 c2
    refine Calls.mono HC2.out ?_
    rintro en w3 ⟨rfl, hb3⟩
    obtain ⟨x3, z3, e3⟩ := HP.out w3 (HK2.out.trans (hb3.mono HK2.out.size))
    have HB3 : Hid (Below w.heap.size w w3) := HB2.out.trans (hb3.mono HB2.out.size)
    have HZ3 : Hid (w3.heap[q + 1]? = some (.cells #[.int .i64 0, .int .i64 0, .string ⟨#[]⟩] 51 (0, 0))) := z3
    have c0 := cell_of_row _ _ 0 _ _ _ x3
    have c2 := cell_of_row _ _ 2 _ _ _ x3
    simp at c0 c2
    clear hb3 HC2 HB2 HZ2 HX2 HK2 x3 z3
    by_cases h2 : l.start + (l.ents.length : Int) < i
    · have hv : entAtV l i = .tuple #[.agg #[.int .i64 0, .int .i64 0, .string ⟨#[]⟩], .bool false] := by unfold entAtV; rw [if_pos (Or.inr h2)]
      have HV : Hid (entAtV l i = .tuple #[.agg #[.int .i64 0, .int .i64 0, .string ⟨#[]⟩], .bool false]) := hv
      clear hv e3
      go_wp2_with (first | (refine wpList_storeA Tryz.sizeOf51 rfl _ _ rfl (q + 1) #[.int .i64 0, .int .i64 0, .string ⟨#[]⟩] #[.int .i64 0, .int .i64 0, .string ⟨#[]⟩] 51 rfl rfl HZ3.out rfl rfl (ent_one _ _ _) ?_) | fail)
      exact bodyPost_ret (result16 HZ3.out rfl rfl rfl) rfl ⟨by rw [HV.out], HE.out _ _ HB3.out⟩
    · obtain ⟨d, hdd⟩ : ∃ d : Nat, i - l.start - 1 = (d : Int) := ⟨(i - l.start - 1).toNat, by omega⟩
      have hdl : d < l.ents.length := by omega
      have hv : entAtV l i = .tuple #[.agg #[.int .i64 l.ents[d].term, .int .i64 l.ents[d].kind, .string l.ents[d].data], .bool true] := by
        unfold entAtV
        rw [if_neg (by omega)]
        have e : (i - l.start - 1).toNat = d := by omega
        rw [e, List.getElem?_eq_getElem hdl]
      obtain ⟨a0, a1, a2⟩ := e3.2 d hdl
      have ea := e3.1 (by omega)
      subst ea
      obtain ⟨E, hE⟩ : ∃ E, E = l.ents[d] := ⟨_, rfl⟩
      rw [← hE] at a0 a1 a2 hv
      have HV : Hid (entAtV l i = .tuple #[.agg #[.int .i64 E.term, .int .i64 E.kind, .string E.data], .bool true]) := hv
      have k0 : (0 : Int) ≤ (d : Int) := by omega
      have k1 : (d : Int) < (l.ents.length : Int) := by omega
      have k2 : 1 ≤ i - l.start ∧ i - l.start ≤ 1048576 := by omega
      clear hv hE e3
      go_wp2_with (first | (refine wpList_storeA Tryz.sizeOf51 rfl _ _ rfl (q + 1) #[.int .i64 E.term, .int .i64 E.kind, .string E.data] #[.int .i64 0, .int .i64 0, .string ⟨#[]⟩] 51 rfl rfl HZ3.out rfl rfl (ent_one _ _ _) ?_) | fail)
      exact bodyPost_ret (result16 HZ3.out rfl rfl rfl) rfl ⟨by rw [HV.out], HE.out _ _ HB3.out⟩
end Go.Proofs.YtahpoemmlpbgdaaGreat
namespace Go.Proofs.YtahpoemmlpbgdaaGreat
open Go.RowKit
set_option linter.unusedVariables false
set_option linter.unusedSimpArgs false

/-- A command. -/
structure CmdL where
  op : Int
  ses : Int
  seq : Int
  key : ByteArray
  val : ByteArray
  old : ByteArray
def cmdV (c : CmdL) : Value := .agg #[.int .i64 c.op, .int .i64 c.ses, .int .i64 c.seq, .string c.key, .string c.val, .string c.old]
/-- What is drawn of commands. -/
structure CmdD (c : CmdL) : Prop where
  o1 : 1 ≤ c.op ∧ c.op ≤ 5
  o2 : 0 ≤ c.ses ∧ c.ses ≤ 100
  o3 : 0 ≤ c.seq ∧ c.seq ≤ 100
  o4 : c.key.size ≤ 9
  o5 : c.val.size ≤ 9
  o6 : c.old.size ≤ 9
  o7 : c.op = 1 → c = ⟨1, 0, 0, ⟨#[]⟩, ⟨#[]⟩, ⟨#[]⟩⟩
  o8 : c.op ≠ 1 → 1 ≤ c.key.size
theorem eq_cmd0 (w : World) : (binOp .eql 119 (.agg #[.int .i64 1, .int .i64 0, .int .i64 0, .string ⟨#[]⟩, .string ⟨#[]⟩, .string ⟨#[]⟩]) (.agg #[.int .i64 1, .int .i64 0, .int .i64 0, .string ⟨#[]⟩, .string ⟨#[]⟩, .string ⟨#[]⟩])).run Tryz.prog w = .ok (.bool true) w := by kernel_rfl
def BoolPost (w : World) (en : Ending) (w' : World) : Prop := ∃ b : Bool, en = .returned (.bool b) ∧ Below w.heap.size w w'
theorem BoolPost.mk {w w' : World} (b : Bool) (h : Below w.heap.size w w') : BoolPost w (.returned (.bool b)) w' := ⟨b, rfl, h⟩
set_option maxHeartbeats 2000000 in
set_option maxRecDepth 100000 in
theorem cmdOk_any (c : CmdL) (h : CmdD c) (w : World) : Calls Tryz.prog 103 #[cmdV c] w (BoolPost w) := by
  have HB : Hid (Below w.heap.size w (w.alloc (Obj.cells #[.int .i64 c.op, .int .i64 c.ses, .int .i64 c.seq, .string c.key, .string c.val, .string c.old] 119))) := (Below.refl _ _).alloc (Nat.le_refl _) _
  obtain ⟨o1, o2', o3', o4, o5', o6', o7, o8⟩ := h
  have hin : ∀ (x a b : Int) (W : World), a ≤ x ∧ x ≤ b → Calls Tryz.prog 39 #[.int .i64 x, .int .i64 a, .int .i64 b] W fun en w' => en = .returned (.bool true) ∧ w' = W := fun x a b W q => in_is x a b true (by simp [q]) W
  have HIN : Hid (∀ (x a b : Int) (W : World), a ≤ x ∧ x ≤ b → Calls Tryz.prog 39 #[.int .i64 x, .int .i64 a, .int .i64 b] W fun en w' => en = .returned (.bool true) ∧ w' = W) := hin
  clear hin
  unfold cmdV
  by_cases k1 : c.op = 1
  · have hc := o7 k1
    subst hc
    have q1 := eq_cmd0
    have b1 : (1 : Int) ≤ 1 ∧ (1 : Int) ≤ 5 := by omega
    have b2 : (0 : Int) ≤ 0 ∧ (0 : Int) ≤ 100000 := by omega
    clear o7 o8 o1 o2' o3' o4 o5' o6' k1
    simp only at HB ⊢
    go_enter Tryz.func103, Tryz.ntmps103
    go_wp2_with (go_at_call 39; refine Calls.mono (HIN.out _ _ _ _ (by assumption)) ?_; rintro en w2 ⟨rfl, hw2⟩; subst hw2)
    go_ret
    exact BoolPost.mk _ HB.out
  · have hks := o8 k1
    have b2 : 0 ≤ c.ses ∧ c.ses ≤ 100000 := by omega
    have b3 : 0 ≤ c.seq ∧ c.seq ≤ 100000 := by omega
    have b4 : (1 : Int) ≤ (c.key.size : Int) ∧ (c.key.size : Int) ≤ 9 := by omega
    have b5 : ¬ (12 : Int) < (c.val.size : Int) := by omega
    have b6 : ¬ (12 : Int) < (c.old.size : Int) := by omega
    have e1 : (c.op == 1) = false := by simp [k1]
    clear o7 o8 hks o2' o3'
    by_cases k2 : c.op = 2
    · have e2 : (c.op == 2) = true := by simp [k2]
      clear k1 k2
      cases hv : c.val.toList.isEmpty with
      | true =>
        go_enter Tryz.func103, Tryz.ntmps103
        go_wp2_with (go_at_call 39; refine Calls.mono (HIN.out _ _ _ _ (by assumption)) ?_; rintro en w2 ⟨rfl, hw2⟩; subst hw2)
        go_ret
        exact BoolPost.mk _ HB.out
      | false =>
        go_enter Tryz.func103, Tryz.ntmps103
        go_wp2_with (go_at_call 39; refine Calls.mono (HIN.out _ _ _ _ (by assumption)) ?_; rintro en w2 ⟨rfl, hw2⟩; subst hw2)
        go_ret
        exact BoolPost.mk _ HB.out
    · have e2 : (c.op == 2) = false := by simp [k2]
      by_cases k4 : c.op = 4
      · have e4 : (c.op == 4) = true := by simp [k4]
        clear k1 k2 k4
        cases hv : c.val.toList.isEmpty with
        | true =>
          go_enter Tryz.func103, Tryz.ntmps103
          go_wp2_with (go_at_call 39; refine Calls.mono (HIN.out _ _ _ _ (by assumption)) ?_; rintro en w2 ⟨rfl, hw2⟩; subst hw2)
          go_ret
          exact BoolPost.mk _ HB.out
        | false =>
          go_enter Tryz.func103, Tryz.ntmps103
          go_wp2_with (go_at_call 39; refine Calls.mono (HIN.out _ _ _ _ (by assumption)) ?_; rintro en w2 ⟨rfl, hw2⟩; subst hw2)
          go_ret
          exact BoolPost.mk _ HB.out
      · have e4 : (c.op == 4) = false := by simp [k4]
        by_cases k3 : c.op = 3
        · have e3 : (c.op == 3) = true := by simp [k3]
          clear k1 k2 k4 k3
          go_enter Tryz.func103, Tryz.ntmps103
          go_wp2_with (go_at_call 39; refine Calls.mono (HIN.out _ _ _ _ (by assumption)) ?_; rintro en w2 ⟨rfl, hw2⟩; subst hw2)
          go_ret
          exact BoolPost.mk _ HB.out
        · have e3 : (c.op == 3) = false := by simp [k3]
          clear k1 k2 k4 k3
          go_enter Tryz.func103, Tryz.ntmps103
          go_wp2_with (go_at_call 39; refine Calls.mono (HIN.out _ _ _ _ (by assumption)) ?_; rintro en w2 ⟨rfl, hw2⟩; subst hw2)
          go_ret
          exact BoolPost.mk _ HB.out
end Go.Proofs.YtahpoemmlpbgdaaGreat
namespace Go.Proofs.YtahpoemmlpbgdaaGreat
open Go.RowKit
set_option linter.unusedVariables false

theorem Cur.blk {B g len cap b off : Nat} {a : Option Addr} {z : Nat → Int} {W : World} (h : Cur B W g a len cap b off z) : ∃ cs, W.heap[g]? = some (.cells cs 79 (0, 0)) := by
  obtain ⟨hB, hb, hlen, hcode, i, h, hi, hblk⟩ := h
  exact ⟨_, hblk⟩
theorem Cur.low {B g len cap b off : Nat} {a : Option Addr} {z : Nat → Int} {W : World} (h : Cur B W g a len cap b off z) : B ≤ g := h.1
theorem Cur.not {B g len cap b off : Nat} {a : Option Addr} {z : Nat → Int} {W : World} (h : Cur B W g a len cap b off z) {bb n : Nat} {v : Value} {xs : List Value} (ho : W.ownsRow bb 3 1 v n xs) : v.ownBlock ≠ some g := by
  obtain ⟨cs, hc⟩ := h.blk
  exact own_not ho hc (by decide)
/-- A row of the call's own beside the cursor. -/
structure DL (B g len cap b off : Nat) (a : Option Addr) (z : Nat → Int) (w : World) (v : Value) (l : List Int) (W : World) : Prop where
  cur : Cur B W g a len cap b off z
  own : W.ownsRow w.heap.size 3 1 v l.length (cellsI l)
  gr : w.grownBy W (some g)
  lt : g < w.heap.size
section
variable {B g len cap b off : Nat} {a : Option Addr} {z : Nat → Int} {w W W' : World} {v v' : Value} {l : List Int}
theorem DL.call (h : DL B g len cap b off a z w v l W) (hc : Cur B W' g a len cap b off z) (hg : W.grownBy W' (some g)) : DL B g len cap b off a z w v l W' :=
  ⟨hc, h.own.kept hg (Or.inr (h.cur.not h.own)), h.gr.trans hg, h.lt⟩
theorem DL.alloc (h : DL B g len cap b off a z w v l W) (o : Obj) : DL B g len cap b off a z w v l (W.alloc o) := h.call (h.cur.alloc o) (World.grownBy_alloc W o (some g))
theorem DL.app (h : DL B g len cap b off a z w v l W) {c : Int} (hg : W.grownBy W' v.ownBlock) (hown : W'.ownsRow w.heap.size 3 1 v' (l.length + 1) (cellsI l ++ [.int .i64 c])) : DL B g len cap b off a z w v' (l ++ [c]) W' := by
  have hlo := h.cur.low
  have hl := h.lt
  refine ⟨h.cur.kept hg (fun r e => Or.inl (by have := (h.own.lt r e).1; omega)) (hg.block g h.cur.lt (fun e => h.cur.not h.own e.symm)), ownI_snoc hown, h.gr.andThen hg (fun r e => Or.inl (h.own.lt r e).1), hl⟩
theorem DL.size (h : DL B g len cap b off a z w v l W) : w.heap.size ≤ W.heap.size := h.gr.size
end
theorem news_int (w : World) (c : Int) : ∀ j u, [Value.int .i64 c][j]? = some u → (w.alloc (.cells #[.int .i64 c] 3)).cell? ((⟨w.heap.size, 0, none⟩ : Addr).add j) = some u :=
  World.news_of_block (cs := #[.int .i64 c]) (t := 3) (fr := (0, 0)) (heap_alloc_new w _)
theorem one_int (c : Int) : ∀ u ∈ [Value.int .i64 c], u.oneCell' = true := by
  intro u hu
  simp at hu
  rw [hu]; rfl
/-- One int appended to a row of the call's own. -/
theorem wpList_app_int {w : World} {ops : Array Oper} {rest : List Oper} {o : Oper} {act : Act} {Q : Exit → Act → World → Prop} (hgd : o.guard = none) (s x : Operand)
    (ho : o.op = .call { callee := .builtin .append, args := #[s, x], argTypes := #[45, 45] }) (base : Nat) (v : Value) (l : List Int) (hs : act.eval s = v) (hown : w.ownsRow base 3 1 v l.length (cellsI l)) (c : Int)
    (hx : act.eval x = .slice (some ⟨w.heap.size, 0, none⟩) 1 1) (hl : l.length ≤ 1000) (hb : base ≤ w.heap.size)
    (h : ∀ v' w', w'.ownsRow base 3 1 v' (l.length + 1) (cellsI l ++ [.int .i64 c]) → (w.alloc (.cells #[.int .i64 c] 3)).grownBy w' v.ownBlock → wpList Tryz.prog ops Q rest (act.put o.dst v') w') : wpList Tryz.prog ops Q (o :: rest) act (w.alloc (.cells #[.int .i64 c] 3)) := by
  obtain ⟨i0, hi, hz0, hz1, hz2⟩ := info_parts Tryz.info3
  refine wpList_append_own _ hgd s x 45 ho base 3 i0 (.int .i64 0) 1 8 Tryz.underlying45 hi hz0 hz1 hz2 rfl (by decide) v l.length (cellsI l) hs (hown.alloc _) ⟨w.heap.size, 0, none⟩ 1 1 [.int .i64 c] hx rfl (news_int w c) (one_int c) (by unfold maxLen; omega) (by omega) (by simp; omega) ?_
  intro v' w' h1 h2 _
  exact h v' w' h1 h2
theorem DL.start {B g len cap b off : Nat} {a : Option Addr} {z : Nat → Int} {w : World} (hc : Cur B w g a len cap b off z) : DL B g len cap b off a z w (.slice (some ⟨w.heap.size, 0, none⟩) 0 0) [] (w.alloc (.cells #[] 3)) :=
  ⟨hc.alloc _, World.ownsRow_made w #[] 0 (Nat.le_refl _) (by unfold maxLen; omega) rfl, World.grownBy_alloc _ _ _, hc.lt⟩
end Go.Proofs.YtahpoemmlpbgdaaGreat
