/- Lists of sessions in memory, 4 cells each; measured, copied, held against each other, marked. Made by program. The program's sessionsOf, walked: the sessions of a state, in the order of its keys. -/
import Derived.Test.YtpedpdgkbmpfjaaDoorMathCmd
import Derived.Test.YtpedpdgkbmpfjaaDoorImplSes
import Derived.Laws.AppendOwnNone
import Derived.Deep.RegionHeld3
import Derived.Deep.DeepCutAuto
import Derived.Test.YtpedpdgkbmpfjaaDoorLPair
namespace Go.Proofs.YtpedpdgkbmpfjaaDoor
open Go.RowKit
set_option linter.unusedVariables false
set_option linter.unusedSimpArgs false

/-- A slice at a whose elements are these. -/
def SesAt (w : World) (a : Option Addr) (g off : Nat) (l : List Ses) : Prop :=
  (0 < l.length → a = some ⟨g, off, none⟩) ∧ ∀ j (hj : j < l.length), w.cell? ⟨g, off + j * 4, none⟩ = some (.int .i64 l[j].id) ∧ w.cell? ⟨g, off + j * 4 + 1, none⟩ = some (.int .i64 l[j].seq) ∧ w.cell? ⟨g, off + j * 4 + 2, none⟩ = some (.int .i64 l[j].at_) ∧ w.cell? ⟨g, off + j * 4 + 3, none⟩ = some (.string l[j].rep)
theorem SesAt.lt {w : World} {a : Option Addr} {g off : Nat} {l : List Ses} (h : SesAt w a g off l) (hl : 0 < l.length) : g < w.heap.size := World.block_lt_of_cell? w _ (h.2 0 hl).1
theorem SesAt.kept {w w' : World} {a : Option Addr} {g off : Nat} {l : List Ses} (h : SesAt w a g off l) (hb : Below w.heap.size w w') : SesAt w' a g off l := by
  refine ⟨h.1, fun j hj => ?_⟩
  have hg := h.lt (by omega)
  rw [hb.cell (p := ⟨g, off + j * 4, none⟩) hg, hb.cell (p := ⟨g, off + j * 4 + 1, none⟩) hg, hb.cell (p := ⟨g, off + j * 4 + 2, none⟩) hg, hb.cell (p := ⟨g, off + j * 4 + 3, none⟩) hg]
  exact h.2 j hj
def cellsSes (l : List Ses) : List Value := l.flatMap fun r => [.int .i64 r.id, .int .i64 r.seq, .int .i64 r.at_, .string r.rep]
theorem cellsSes_len : ∀ l : List Ses, (cellsSes l).length = l.length * 4
  | [] => rfl
  | r :: l => by have := cellsSes_len l; simp only [cellsSes, List.flatMap_cons, List.length_append, List.length_cons, List.length_nil] at *; omega
theorem cellsSes_app (l m : List Ses) : cellsSes (l ++ m) = cellsSes l ++ cellsSes m := by simp [cellsSes]
theorem cellsSes_at : ∀ (l : List Ses) (j : Nat) (hj : j < l.length), (cellsSes l)[j * 4]? = some (.int .i64 l[j].id) ∧ (cellsSes l)[j * 4 + 1]? = some (.int .i64 l[j].seq) ∧ (cellsSes l)[j * 4 + 2]? = some (.int .i64 l[j].at_) ∧ (cellsSes l)[j * 4 + 3]? = some (.string l[j].rep)
  | r :: l, 0, _ => ⟨rfl, rfl, rfl, rfl⟩
  | r :: l, j + 1, hj => by
    have := cellsSes_at l j (by simpa using hj)
    simpa [cellsSes, Nat.add_mul, Nat.add_assoc] using this
theorem cellsSes_own {w : World} {base : Nat} {e : TypeId} {g n cap : Nat} {l : List Ses} (hn : l.length = n) (h : w.ownsRow base e 4 (.slice (some ⟨g, 0, none⟩) n cap) n (cellsSes l)) : SesAt w (some ⟨g, 0, none⟩) g 0 l := by
  refine ⟨fun _ => rfl, fun j hj => ?_⟩
  rw [Nat.zero_add, h.cellAt (j * 4) (by omega), h.cellAt (j * 4 + 1) (by omega), h.cellAt (j * 4 + 2) (by omega), h.cellAt (j * 4 + 3) (by omega)]
  exact cellsSes_at l j hj
theorem cellsSes_slice {w : World} {base : Nat} {v : Value} {l : List Ses} (h : w.ownsRow base 92 4 v l.length (cellsSes l)) : ∃ a g cap, v = .slice a l.length cap ∧ SesAt w a g 0 l := by
  rcases h.2 with ⟨h1, h2⟩ | ⟨g, cap, cur, h1, _⟩
  · exact ⟨none, 0, 0, by rw [h1, h2], fun q => by omega, fun j hj => by omega⟩
  · subst h1; exact ⟨_, g, cap, rfl, cellsSes_own rfl h⟩
theorem Tryd.info92 : (Tryd.prog.info? 92).map (fun i => (i.zero, i.size, i.bytes)) = some (some (.agg #[.int .i64 0, .int .i64 0, .int .i64 0, .string ByteArray.empty]), 4, 40) := by kernel_rfl
theorem SesAt.cellsAll {w : World} {a : Option Addr} {g off : Nat} {l : List Ses} (h : SesAt w a g off l) : ∀ j u, (cellsSes l)[j]? = some u → w.cell? ((⟨g, off, none⟩ : Addr).add j) = some u := by
  intro j u hu
  rw [Addr.add_lit]
  have hj : j < l.length * 4 := by rw [← cellsSes_len]; exact (List.getElem?_eq_some_iff.1 hu).1
  obtain ⟨k, i, hi, rfl⟩ : ∃ k i, i < 4 ∧ j = k * 4 + i := ⟨j / 4, j % 4, by omega, by omega⟩
  have h1 := cellsSes_at l k (by omega)
  have h2 := h.2 k (by omega)
  have h3 : i = 0 ∨ i = 1 ∨ i = 2 ∨ i = 3 := by omega
  rcases h3 with rfl | rfl | rfl | rfl
  · rw [show k * 4 + 0 = k * 4 from by omega, h1.1] at hu
    rw [← Option.some.inj hu]
    simpa [Nat.add_assoc] using h2.1
  · rw [h1.2.1] at hu
    rw [← Option.some.inj hu]
    simpa [Nat.add_assoc] using h2.2.1
  · rw [h1.2.2.1] at hu
    rw [← Option.some.inj hu]
    simpa [Nat.add_assoc] using h2.2.2.1
  · rw [h1.2.2.2] at hu
    rw [← Option.some.inj hu]
    simpa [Nat.add_assoc] using h2.2.2.2
theorem cellsSes_one {l : List Ses} : ∀ u ∈ cellsSes l, u.oneCell' = true := by
  intro u hu
  unfold cellsSes at hu
  obtain ⟨r, _, hr⟩ := List.mem_flatMap.1 hu
  simp only [List.mem_cons, List.not_mem_nil, or_false] at hr
  rcases hr with rfl | rfl | rfl | rfl <;> rfl
/-- 'append(x, y...)' onto a row of the call's own. -/
theorem wpList_appendSes {w : World} {ops : Array Oper} {rest : List Oper} {o : Oper} {act : Act} {Q : Exit → Act → World → Prop} (hgd : o.guard = none) (s x : Operand)
    (ho : o.op = .call { callee := .builtin .append, args := #[s, x], argTypes := #[66, 66] }) (base : Nat) (v : Value) (n : Nat) (xs : List Value) (hs : act.eval s = v) (hown : w.ownsRow base 92 4 v n xs)
    (a : Option Addr) (g off cap : Nat) (l : List Ses) (hx : act.eval x = .slice a l.length cap) (hf : SesAt w a g off l) (hnil : a = none → cap = 0) (h63 : n + l.length ≤ 2097152) (hbase : base ≤ w.heap.size)
    (h : ∀ v' w', w'.ownsRow base 92 4 v' (n + l.length) (xs ++ cellsSes l) → w.grownBy w' v.ownBlock → wpList Tryd.prog ops Q rest (act.put o.dst v') w') : wpList Tryd.prog ops Q (o :: rest) act w := by
  obtain ⟨i0, hi, hz0, hz1, hz2⟩ := info_parts Tryd.info92
  cases a with
  | none =>
    have hl : l = [] := by
      cases l with
      | nil => rfl
      | cons f r => have := hf.1 (by simp); cases this
    subst hl
    rw [hnil rfl] at hx
    refine wpList_append_own_none hgd s x 66 ho base 92 i0 4 Tryd.underlying66 hi v n xs hs hown hx ?_
    refine h v w ?_ (World.grownBy.refl _ _)
    simpa [cellsSes] using hown
  | some ad =>
    have had : 0 < l.length → ad = ⟨g, off, none⟩ := fun hp => Option.some.inj (hf.1 hp)
    refine wpList_append_own w hgd s x 66 ho base 92 i0 (.agg #[.int .i64 0, .int .i64 0, .int .i64 0, .string ByteArray.empty]) 4 40 Tryd.underlying66 hi hz0 hz1 hz2 rfl (by decide) v n xs hs hown ad l.length cap (cellsSes l) hx (cellsSes_len l) ?_ cellsSes_one (by unfold maxLen; omega) (by omega) hbase ?_
    · intro j u hu
      have hp : 0 < l.length := by
        have := (List.getElem?_eq_some_iff.1 hu).1
        rw [cellsSes_len] at this
        omega
      rw [had hp]
      exact hf.cellsAll j u hu
    · intro v' w' h1 h2 _
      exact h v' w' h1 h2
end Go.Proofs.YtpedpdgkbmpfjaaDoor
namespace Go.Proofs.YtpedpdgkbmpfjaaDoor
open Go.RowKit
open Acts (decS skey sval nkey kkey sess parse Enc)
set_option linter.unusedVariables false
set_option linter.unusedSimpArgs false

structure KSt (w : World) (v : Value) (L : List Ses) (W : World) : Prop where
  own : W.ownsRow w.heap.size 92 4 v L.length (cellsSes L)
  bel : Below w.heap.size w W
theorem KSt.below {w W W' : World} {v : Value} {L : List Ses} (h : KSt w v L W) (hb : Below W.heap.size W W') : KSt w v L W' := ⟨own_kept h.own hb, h.bel.trans (hb.mono h.bel.size)⟩
theorem two_bel {w : World} (a b : Obj) : Below w.heap.size w ((w.alloc a).alloc b) := ((Below.refl _ _).alloc (Nat.le_refl _) _).alloc (by simp) _
theorem ses_lies {w : World} (a : Obj) (s : Ses) : SesAt ((w.alloc a).alloc (Obj.cells #[.int .i64 (s.id : Int), .int .i64 (s.seq : Int), .int .i64 (s.at_ : Int), .string s.rep] 92)) (some ⟨w.heap.size + 1, 0, none⟩) (w.heap.size + 1) 0 [s] := by
  have p := heap_alloc_new (w.alloc a) (Obj.cells #[.int .i64 (s.id : Int), .int .i64 (s.seq : Int), .int .i64 (s.at_ : Int), .string s.rep] 92)
  have e : (w.alloc a).heap.size = w.heap.size + 1 := by simp
  rw [e] at p
  refine ⟨fun _ => rfl, fun j hj => ?_⟩
  have hj0 : j = 0 := by simp at hj; omega
  subst hj0
  exact ⟨cell_of_row _ _ 0 _ _ _ p, cell_of_row _ _ 1 _ _ _ p, cell_of_row _ _ 2 _ _ _ p, cell_of_row _ _ 3 _ _ _ p⟩
theorem sess_take {m : List PairL} {k : Nat} (hk : k < m.length) {o : Option Ses} (h : parse m[k] = o) : sess (m.take (k + 1)) = sess (m.take k) ++ o.toList := by
  unfold sess
  rw [List.take_succ_eq_append_getElem hk, List.filterMap_append]
  congr 1
  cases o with
  | none => rw [List.filterMap_cons_none h]; rfl
  | some s => rw [List.filterMap_cons_some h]; rfl
set_option maxHeartbeats 4000000 in
set_option maxRecDepth 100000 in
theorem sesOf_is {T : Nat} {a : Option Addr} {g off cap : Nat} (m : List PairL) (hT : T ≤ 60) (hlen : m.length ≤ 200) (he : ∀ p ∈ m, Enc T p) (w : World) (hf : PairAt w a g off m) :
    Calls Tryd.prog 35 #[.slice a m.length cap] w fun e w' => ∃ v, e = .returned (.tuple #[v, .bool true]) ∧ w'.ownsRow w.heap.size 92 4 v (sess m).length (cellsSes (sess m)) ∧ Below w.heap.size w w' := by
  have HF : Hid (PairAt w a g off m) := hf
  have HE : Hid (∀ p ∈ m, Enc T p) := he
  clear hf he
  go_enter Tryd.func35, Tryd.ntmps35
  go_wp2_with fail
  go_loopw [13, 4] (fun i v wr => ∃ (k : Nat) (V : Value), k ≤ m.length ∧ i = .int .i64 (k : Int) ∧ v = V ∧ KSt w V (sess (m.take k)) wr)
    (fun i _ _ => m.length - (intOf i).toNat)
  case atStart => exact ⟨0, _, Nat.zero_le _, rfl, rfl, World.ownsRow_nil _ _ _ _, Below.refl _ _⟩
  case round =>
    obtain ⟨k, V, hk, rfl, rfl, hst⟩ := hrel
    obtain ⟨va, vc, rfl⟩ := own_slice hst.own
    have HK : Hid (KSt w (.slice va (sess (m.take k)).length vc) (sess (m.take k)) wr) := hst
    clear hst
    by_cases hlt : k < m.length
    · obtain ⟨c0, c1⟩ := (HF.out.kept HK.out.bel).2 k hlt
      have ea := HF.out.1 (by omega)
      subst ea
      have hk0 : (0 : Int) ≤ (k : Int) := by omega
      have hk1 : (k : Int) < (m.length : Int) := by omega
      rcases Acts.enc_parse (by omega) (HE.out m[k] (List.getElem_mem _)) with ⟨hp, hh⟩ | ⟨s, hp, hq, h1, h2, h3, h4⟩
      · have HN : Hid (∀ W, Calls Tryd.prog 56 #[.string m[k].key] W fun e w' => e = .returned (.tuple #[.int .i64 0, .bool false]) ∧ w' = W) := fun W => number_no hh W
        have HT : Hid (sess (m.take (k + 1)) = sess (m.take k)) := by show _ = _; rw [sess_take hlt hp]; simp
        obtain ⟨K, hK⟩ : ∃ K, K = m[k].key := ⟨_, rfl⟩
        obtain ⟨U, hU⟩ : ∃ U, U = m[k].value := ⟨_, rfl⟩
        rw [← hK] at c0 HN
        rw [← hU] at c1
        clear hp hh hK hU
        go_wp2_with (go_at_call 56; refine Calls.mono (HN.out _) ?_; rintro e w1 ⟨rfl, hw⟩; subst hw)
        go_roundw
        case rel => exact ⟨k + 1, _, by omega, by go_num, rfl, by rw [HT.out]; exact HK.out.below ((Below.refl _ _).alloc (Nat.le_refl _) _)⟩
        case measure => simp [intOf]; omega
      · have hkey : m[k].key = skey s.id := by rw [hq]
        have hval : m[k].value = sval s := by rw [hq]
        rw [hkey] at c0
        rw [hval] at c1
        have HN : Hid (∀ W, Calls Tryd.prog 56 #[.string (skey s.id)] W fun e w' => e = .returned (.tuple #[.int .i64 (s.id : Int), .bool true]) ∧ w' = W) := fun W => number_is s.id (by omega) W
        have HR : Hid (∀ W, Calls Tryd.prog 57 #[.int .i64 (s.id : Int), .string (sval s)] W fun e w' => e = .returned (.tuple #[sesV s, .bool true]) ∧ Below W.heap.size W w') := fun W => readSes_is s ⟨by omega, by omega, by omega⟩ (by omega) W
        unfold sesV at HR
        have HT : Hid (sess (m.take (k + 1)) = sess (m.take k) ++ [s]) := by show _ = _; rw [sess_take hlt hp]; rfl
        have hpl : (sess (m.take k)).length ≤ 200 := by have := List.length_filterMap_le parse (m.take k); rw [List.length_take] at this; unfold sess; omega
        obtain ⟨K, hK⟩ : ∃ K, K = skey s.id := ⟨_, rfl⟩
        obtain ⟨U, hU⟩ : ∃ U, U = sval s := ⟨_, rfl⟩
        obtain ⟨pre, hpre⟩ : ∃ pre, pre = sess (m.take k) := ⟨_, rfl⟩
        rw [← hK] at c0 HN
        rw [← hU] at c1 HR
        rw [← hpre] at HK HT hpl
        rw [← hpre]
        clear hp hq hK hU hkey hval h1 h2 h3 h4 hpre
        have HB0 : Hid (Below wr.heap.size wr (wr.alloc (Obj.cells #[.string K, .string U] 48))) := (Below.refl _ _).alloc (Nat.le_refl _) _
        go_wp2_with (first | (go_at_call 56; refine Calls.mono (HN.out _) ?_; rintro e w1 ⟨rfl, hw⟩; subst hw) | fail)
        refine Calls.mono (HR.out _) ?_
        rintro e w3 ⟨rfl, hb3⟩
        have HK3 : Hid (KSt w (.slice va pre.length vc) pre w3) := HK.out.below (HB0.out.trans (hb3.mono HB0.out.size))
        have HA3 : Hid (((w3.alloc (Obj.cells #[.int .i64 (s.id : Int), .int .i64 (s.seq : Int), .int .i64 (s.at_ : Int), .string s.rep] 92)).alloc (Obj.cells #[.int .i64 (s.id : Int), .int .i64 (s.seq : Int), .int .i64 (s.at_ : Int), .string s.rep] 92)).ownsRow w.heap.size 92 4 (.slice va pre.length vc) pre.length (cellsSes pre)) := own_kept HK3.out.own (two_bel _ _)
        have HS3 : Hid (SesAt ((w3.alloc (Obj.cells #[.int .i64 (s.id : Int), .int .i64 (s.seq : Int), .int .i64 (s.at_ : Int), .string s.rep] 92)).alloc (Obj.cells #[.int .i64 (s.id : Int), .int .i64 (s.seq : Int), .int .i64 (s.at_ : Int), .string s.rep] 92)) (some ⟨w3.heap.size + 1, 0, none⟩) (w3.heap.size + 1) 0 [s]) := ses_lies _ s
        have HL3 : Hid (w.heap.size ≤ ((w3.alloc (Obj.cells #[.int .i64 (s.id : Int), .int .i64 (s.seq : Int), .int .i64 (s.at_ : Int), .string s.rep] 92)).alloc (Obj.cells #[.int .i64 (s.id : Int), .int .i64 (s.seq : Int), .int .i64 (s.at_ : Int), .string s.rep] 92)).heap.size) := by have := HK3.out.bel.size; show _ ≤ _; simp; omega
        clear hb3 c0 c1 HK HB0
        go_wp2_with (first | (refine wpList_appendSes rfl _ _ rfl w.heap.size (.slice va pre.length vc) pre.length (cellsSes pre) rfl HA3.out (some ⟨w3.heap.size + 1, 0, none⟩) (w3.heap.size + 1) 0 1 [s] rfl HS3.out (fun h => by cases h) (by show _ + 1 ≤ _; omega) HL3.out ?_; rintro v4 w4 hown4 hg4) | fail)
        have hK4 : KSt w v4 (pre ++ [s]) w4 := by
          refine ⟨by rw [cellsSes_app, List.length_append]; exact hown4, ?_⟩
          have b1 : Below w.heap.size w ((w3.alloc (Obj.cells #[.int .i64 (s.id : Int), .int .i64 (s.seq : Int), .int .i64 (s.at_ : Int), .string s.rep] 92)).alloc (Obj.cells #[.int .i64 (s.id : Int), .int .i64 (s.seq : Int), .int .i64 (s.at_ : Int), .string s.rep] 92)) := HK3.out.bel.trans ((two_bel _ _).mono HK3.out.bel.size)
          exact b1.grown hg4 b1.size (fun q e => by
            rcases HA3.out.2 with ⟨e1, _⟩ | ⟨g2, cap2, cur2, e1, hg2, _⟩
            · rw [e1] at e; cases e
            · rw [e1] at e; cases e; exact hg2)
        go_roundw
        case rel => exact ⟨k + 1, _, by omega, by go_num, rfl, by rw [HT.out]; exact hK4⟩
        case measure => simp [intOf]; omega
    · have hk1 : ¬ (k : Int) < (m.length : Int) := by omega
      have HT : Hid (sess (m.take k) = sess m) := by show _ = _; rw [List.take_of_length_le (by omega)]
      go_wp2
      go_ret2
      rw [HT.out] at HK
      rw [HT.out]
      exact ⟨_, rfl, HK.out.own, HK.out.bel⟩
end Go.Proofs.YtpedpdgkbmpfjaaDoor
