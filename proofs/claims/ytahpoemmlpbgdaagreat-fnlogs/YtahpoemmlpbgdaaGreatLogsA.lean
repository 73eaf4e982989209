/- What the law of logs holds while it is walked, and its calls' contracts. -/
import Derived.Test.YtahpoemmlpbgdaaGreatSpecCut
import Derived.Test.YtahpoemmlpbgdaaGreatCutOf
import Derived.Test.YtahpoemmlpbgdaaGreatDrawConf
import Derived.Test.YtahpoemmlpbgdaaGreatDrawPlaces
import Derived.Test.YtahpoemmlpbgdaaGreatSpecSteps
namespace Go.Proofs.YtahpoemmlpbgdaaGreat
open Go.RowKit
open Logs (okL)
set_option linter.unusedVariables false
set_option linter.unusedSimpArgs false

theorem read_tells {T : ByteArray} {x : LogL} {e : Nat} (hz : T.size ≤ 20000) (h : RLIs (Words.un (T.size + 1) T.data.toList 0) (Words.stop (T.size + 1) T.data.toList 0) x e true) (W : World) : Calls Tryz.prog 7 #[.string T] W (RLPost W x e true) :=
  implRead12_is T (fun W => implUn_is T hz W) (Nat.le_trans un_long hz) (un_small _ _ _) h W
theorem read_file {l : LogL} (h : okL l = true) (W : World) : Calls Tryz.prog 7 #[.string (fileB l)] W (RLPost W l (fileB l).size true) := by
  have h1 := file_back h ((fileB l).size + 1) (by rw [fileB_size]; omega)
  have h2 := h1
  rw [← fileB_size, ← fileB_list] at h2
  exact read_tells (by rw [fileB_size]; exact file_small h) h2 W
theorem specRead_file {l : LogL} (h : okL l = true) (W : World) : Calls Tryz.prog 30 #[.string (fileB l)] W (RLPost W l (fileB l).size true) := by
  have hz : (fileB l).size ≤ 20000 := by rw [fileB_size]; exact file_small h
  have h1 := file_back h ((fileB l).size + 1) (by rw [fileB_size]; omega)
  have h2 := h1
  rw [← fileB_size, ← fileB_list] at h2
  exact specRead12_is (fileB l) (fun W => specUn_is _ hz W) (Nat.le_trans un_long hz) (un_small _ _ _) h2 W
theorem drawn_ok {l : LogL} {S T : Int} (h0 : 0 ≤ l.start) (h1 : l.start ≤ 1000) (s0 : 0 ≤ l.sterm) (s1 : l.sterm ≤ 100000) (hn : l.ents.length ≤ 100) (hd : Drawn l.sterm T l.ents) : okL l = true := by
  rw [Logs.okL_iff]
  exact ⟨⟨h0, by omega, s0, s1, by omega, by omega⟩, hd.ri⟩
/-- The two logs, in variables and rows of the law's own. -/
structure FS (w : World) (lb : Nat) (old now : LogL) (va ua : Option Addr) (gl gm vc uc : Nat) (W : World) : Prop where
  xl : W.heap[lb]? = some (.cells #[.int .i64 old.start, .int .i64 old.sterm, .slice va old.ents.length vc] 26 (0, 0))
  xm : W.heap[lb + 1]? = some (.cells #[.int .i64 now.start, .int .i64 now.sterm, .slice ua now.ents.length uc] 26 (0, 0))
  el : EnAt W va gl 0 old.ents
  em : EnAt W ua gm 0 now.ents
  bel : Below w.heap.size w W
theorem FS.same {w W W' : World} {lb gl gm vc uc : Nat} {old now : LogL} {va ua : Option Addr} (h : FS w lb old now va ua gl gm vc uc W) (hb : Below W.heap.size W W') : FS w lb old now va ua gl gm vc uc W' :=
  ⟨(hb.block _ (Array.getElem?_eq_some_iff.1 h.xl).1).trans h.xl, (hb.block _ (Array.getElem?_eq_some_iff.1 h.xm).1).trans h.xm, h.el.kept hb, h.em.kept hb, h.bel.trans (hb.mono h.bel.size)⟩
theorem en_of {w : World} {base : Nat} {a : Option Addr} {c n : Nat} {es : List EntL} (h : w.ownsRow base 51 3 (.slice a n c) es.length (cellsEn es)) : ∃ g, EnAt w a g 0 es := by
  obtain ⟨a3, g3, c3, e3, h3⟩ := cellsEn_slice h
  simp only [Value.slice.injEq] at e3
  obtain ⟨rfl, _, rfl⟩ := e3
  exact ⟨g3, h3⟩
theorem cap_of {w : World} {base : Nat} {a : Option Addr} {c : Nat} {es : List EntL} (h : w.ownsRow base 51 3 (.slice a es.length c) es.length (cellsEn es)) : es.length ≤ c := by
  rcases h.2 with ⟨h1, h2⟩ | ⟨g, c', cur, h1, _, _, h2, _⟩
  · omega
  · simp at h1; omega
theorem own_cap {w : World} {base : Nat} {t : TypeId} {z : Nat} {a : Option Addr} {n c : Nat} {xs : List Value} (h : w.ownsRow base t z (.slice a n c) n xs) : n ≤ c ∧ c ≤ 9223372036854775807 ∧ (a = none → c = 0) := by
  rcases h.2 with ⟨h1, h2⟩ | ⟨g, c', cur, h1, hg, hh, h2, h3, h4⟩
  · simp only [Value.slice.injEq] at h1
    obtain ⟨rfl, _, rfl⟩ := h1
    exact ⟨by omega, by omega, fun _ => rfl⟩
  · simp only [Value.slice.injEq] at h1
    obtain ⟨rfl, _, rfl⟩ := h1
    refine ⟨h2, ?_, fun h => by cases h⟩
    unfold maxLen at *
    omega
theorem raws_of {w : World} {base : Nat} {v : Value} {L : List RawL} (h : w.ownsRow base 69 4 v L.length (cellsRw L)) : ∃ a g cap, v = .slice a L.length cap ∧ RawsAt w a g 0 L := cellsRw_slice h
/-- The raw writes and the disk beside the logs. -/
structure GS (w : World) (lb : Nat) (old now : LogL) (va ua : Option Addr) (gl gm vc uc : Nat) (L : List RawL) (ra : Option Addr) (rg : Nat) (F : ByteArray) (dg db : Nat) (W : World) : Prop where
  fs : FS w lb old now va ua gl gm vc uc W
  rw : RawsAt W ra rg 0 L
  fl : FilesAt W (some ⟨dg, 0, none⟩) dg 0 [(nameLog, F)]
  xd : W.heap[db]? = some (.cells #[.slice (some ⟨dg, 0, none⟩) 1 1] 41 (0, 0))
theorem GS.same {w W W' : World} {lb gl gm vc uc rg dg db : Nat} {old now : LogL} {va ua ra : Option Addr} {L : List RawL} {F : ByteArray} (h : GS w lb old now va ua gl gm vc uc L ra rg F dg db W) (hb : Below W.heap.size W W') : GS w lb old now va ua gl gm vc uc L ra rg F dg db W' :=
  ⟨h.fs.same hb, h.rw.kept hb, h.fl.kept hb, (hb.block _ (Array.getElem?_eq_some_iff.1 h.xd).1).trans h.xd⟩
theorem files_of {w : World} {base : Nat} {v : Value} {d : List FileL} (h : w.ownsRow base 38 2 v d.length (cellsF d)) : ∃ a g cap, v = .slice a d.length cap ∧ FilesAt w a g 0 d ∧ (a = none → cap = 0) := by
  obtain ⟨a, c, rfl⟩ := own_slice h
  have hc := (own_cap h).2.2
  rcases h.2 with ⟨h1, h2⟩ | ⟨g, c', cur, h1, hg, hh, h2, h3⟩
  · exact ⟨a, 0, c, rfl, ⟨fun q => by omega, fun j hj => by omega⟩, hc⟩
  · simp only [Value.slice.injEq] at h1
    obtain ⟨rfl, _, rfl⟩ := h1
    refine ⟨_, g, c, rfl, ⟨fun _ => rfl, fun j hj => ?_⟩, hc⟩
    have hl := cellsF_at d j hj
    rw [Nat.zero_add]
    exact ⟨by rw [h.cellAt (j * 2) (by omega)]; exact hl.1, by rw [h.cellAt (j * 2 + 1) (by omega)]; exact hl.2⟩
theorem step_call4R {P : Program} {ops : Array Oper} {o : Oper} {a : Act} {w : World} {K : Act → World → Prop} {Q : Exit → Act → World → Prop} {E : Prop} (hgd : o.guard = none) (f : Nat) (x y z u : Operand) (t1 t2 t3 t4 : TypeId)
    (ho : o.op = .call { callee := .value (.func f), args := #[x, y, z, u], argTypes := #[t1, t2, t3, t4] }) (v1 v2 v3 v4 : Value) (hx : a.eval x = v1) (hy : a.eval y = v2) (hz : a.eval z = v3) (hu : a.eval u = v4) (R : Value → World → Prop) (hcf : ∀ w, (callFunc f #[v1, v2, v3, v4]).run P w = .ok (.enter f #[v1, v2, v3, v4]) w)
    (hc : Calls P f #[v1, v2, v3, v4] w fun e w' => ∃ u, e = .returned u ∧ R u w') (h : ∀ u w', R u w' → K (a.put o.dst u) w') : if Region.wanted o (yielded ops a.tmps) = true then Oper.wp P o a w K Q else E := by
  have hw : Region.wanted o (yielded ops a.tmps) = true := by simp [Region.wanted, hgd]
  rw [if_pos hw]
  unfold Oper.wp
  have hf : a.eval (.func f) = .func (.func f) #[] #[] := rfl
  simp [execOp, ho, resolve, invoke, hf, hx, hy, hz, hu, hcf, Deferred.ofValue, Oper.upon]
  refine hc.mono ?_
  rintro e w' ⟨u, rfl, hr⟩
  exact h u w' hr
/-- An entry of a log that stands between is that of one of both. -/
theorem mid_at {old now x : LogL} (h : Mid old now x) (i : Nat) (hi : i < x.ents.length) : (x = old ∧ entAtV old (x.start + 1 + (i : Int)) = .tuple #[.agg #[.int .i64 x.ents[i].term, .int .i64 x.ents[i].kind, .string x.ents[i].data], .bool true]) ∨
    (x.start = now.start ∧ entAtV now (x.start + 1 + (i : Int)) = .tuple #[.agg #[.int .i64 x.ents[i].term, .int .i64 x.ents[i].kind, .string x.ents[i].data], .bool true]) := by
  obtain ⟨hok, h⟩ := h
  rcases h with rfl | ⟨j, rfl⟩
  · left
    refine ⟨rfl, ?_⟩
    unfold entAtV
    rw [if_neg (by omega)]
    have e : (x.start + 1 + (i : Int) - x.start - 1).toNat = i := by omega
    rw [e, List.getElem?_eq_getElem hi]
  · right
    refine ⟨rfl, ?_⟩
    have hi2 : i < now.ents.length := by
      simp only [List.length_take] at hi
      omega
    unfold entAtV
    show (if now.start + 1 + (i : Int) ≤ now.start ∨ now.start + (now.ents.length : Int) < now.start + 1 + (i : Int) then _ else _) = _
    rw [if_neg (by omega)]
    have e : (now.start + 1 + (i : Int) - now.start - 1).toNat = i := by omega
    rw [e, List.getElem?_eq_getElem hi2]
    simp only [List.getElem_take]
/-- What EntryAt answers: an entry, or none. -/
theorem entAt_or (l : LogL) (i : Int) : ∃ (p q : Int) (s : ByteArray) (b : Bool), entAtV l i = .tuple #[.agg #[.int .i64 p, .int .i64 q, .string s], .bool b] := by
  unfold entAtV
  split
  · exact ⟨_, _, _, _, rfl⟩
  · split
    · exact ⟨_, _, _, _, rfl⟩
    · exact ⟨_, _, _, _, rfl⟩
end Go.Proofs.YtahpoemmlpbgdaaGreat
