/- The specification's l15Drawn, walked: a command drawn for a state. Made by program. -/
import Derived.Test.YtpedpdgkbmpfjaaDoorMathMap
import Derived.Test.YtpedpdgkbmpfjaaDoorSpecAll
import Derived.Test.YtpedpdgkbmpfjaaDoorMathAct3
namespace Go.Proofs.YtpedpdgkbmpfjaaDoor
open Go.RowKit
open Cmds (okC)
open Acts (sess)
set_option linter.unusedVariables false
set_option linter.unusedSimpArgs false

/-- What is drawn of commands that go on with a state's sessions. -/
structure CmdX (c : CmdL) : Prop where
  ok : okC c = true
  key : c.key.size ≤ 1
  val : c.val.size ≤ 5
  old : c.old.size ≤ 5
  ses : c.ses ≤ 60
  seq : c.seq ≤ 60
theorem CmdD.x {c : CmdL} (h : CmdD c) : CmdX c := ⟨h.ok, h.key, h.val, h.old, by have := h.ses; omega, by have := h.seq; omega⟩
theorem CmdD.of {c : CmdL} (h : CmdD c) {OP : Int} (hop : OP = c.op) (h1 : OP ≠ 1) {s q : Int} (hs : 0 ≤ s ∧ s ≤ 60) (hq : 0 ≤ q ∧ q ≤ 60) : CmdX ⟨OP, s, q, c.key, c.val, c.old⟩ := by
  subst hop
  exact ⟨Acts.okC_of h.ok h1 ⟨hs.1, by omega⟩ ⟨hq.1, by omega⟩, h.key, h.val, h.old, hs.2, hq.2⟩
theorem CmdD.as {c : CmdL} (h : CmdD c) {OP : Int} (hop : OP = c.op) : CmdX ⟨OP, c.ses, c.seq, c.key, c.val, c.old⟩ := by
  subst hop
  exact h.x
def DCmdX (B g len cap b off : Nat) (a : Option Addr) (z : Nat → Int) (w : World) (e : Ending) (w' : World) : Prop := ∃ c : CmdL, e = .returned (cmdV c) ∧ CmdX c ∧ Cur B w' g a len cap b off z ∧ w.grownBy w' (some g)
theorem result45 {w : World} {g : Nat} {A C : Array Value} (hg : w.heap[g]? = some (.cells C 31 (0, 0))) (hs : A.size = 6) {tmps : Array Value} (ht : tmps.getD 4 undef = .pointer (some ⟨g, 0, none⟩)) : (results Tryd.f45 tmps).run Tryd.prog (w.setRow g A) = .ok (.agg A) (w.setRow g A) := by
  have h := run_loadVar_agg (P := Tryd.prog) Tryd.isAgg31' Tryd.sizeOf31' (row_size (A := A) hg) hs
  have ht' : tmps[4]?.getD undef = .pointer (some ⟨g, 0, none⟩) := by simpa using ht
  simp [results, Tryd.results45, ht', asAddr, h]
/-- A cursor's block holds no texts, so it is no row of pairs and none of sessions. -/
theorem Cur.noText {B g len cap b off : Nat} {a : Option Addr} {z : Nat → Int} {w : World} (hc : Cur B w g a len cap b off z) {j : Nat} {s : ByteArray} (h : w.cell? ⟨g, j, none⟩ = some (.string s)) : False := by
  obtain ⟨_, _, _, _, i, y, _, hb⟩ := hc
  rcases j with _ | _ | _ | j
  · have := cell_of_row _ _ 0 _ _ _ hb; simp at this; rw [this] at h; cases h
  · have := cell_of_row _ _ 1 _ _ _ hb; simp at this; rw [this] at h; cases h
  · have := cell_of_row _ _ 2 _ _ _ hb; simp at this; rw [this] at h; cases h
  · simp [World.cell?, hb] at h
theorem Cur.ne_pair {B g len cap b off : Nat} {a : Option Addr} {z : Nat → Int} {w : World} (hc : Cur B w g a len cap b off z) {ma : Option Addr} {mg mo : Nat} {m : List PairL} (h : PairAt w ma mg mo m) (hl : 0 < m.length) : mg ≠ g := fun e => by
  subst e
  exact hc.noText (h.2 0 hl).1
theorem Cur.ne_spe {B g len cap b off : Nat} {a : Option Addr} {z : Nat → Int} {w : World} (hc : Cur B w g a len cap b off z) {ma : Option Addr} {mg mo : Nat} {m : List Ses} (h : SpeAt w ma mg mo m) (hl : 0 < m.length) : mg ≠ g := fun e => by
  subst e
  exact hc.noText (h.2 0 hl).2.2.2
theorem grown_block {w w' : World} {g k : Nat} (hg : w.grownBy w' (some g)) (hk : k < w.heap.size) (hne : k ≠ g) : w'.heap[k]? = w.heap[k]? := by
  have e : w.heap[k]? = some w.heap[k] := by simp [hk]
  rw [grown_keep e hg hne, e]
theorem pair_grown {w w' : World} {g : Nat} {ma : Option Addr} {mg mo : Nat} {m : List PairL} (h : PairAt w ma mg mo m) (hg : w.grownBy w' (some g)) (hne : 0 < m.length → mg ≠ g) : PairAt w' ma mg mo m := by
  refine ⟨h.1, fun j hj => ?_⟩
  have e := grown_block hg (h.lt (by omega)) (hne (by omega))
  rw [World.cell?_of_block (w := w) (a := ⟨mg, mo + j * 2, none⟩) e, World.cell?_of_block (w := w) (a := ⟨mg, mo + j * 2 + 1, none⟩) e]
  exact h.2 j hj
theorem spe_grown {w w' : World} {g : Nat} {ma : Option Addr} {mg mo : Nat} {m : List Ses} (h : SpeAt w ma mg mo m) (hg : w.grownBy w' (some g)) (hne : 0 < m.length → mg ≠ g) : SpeAt w' ma mg mo m := by
  refine ⟨h.1, fun j hj => ?_⟩
  have e := grown_block hg (h.lt (by omega)) (hne (by omega))
  obtain ⟨a1, a2, a3, a4⟩ := h.2 j hj
  refine ⟨?_, ?_, ?_, ?_⟩
  · rw [World.cell?_of_block e]; exact a1
  · rw [World.cell?_of_block e]; exact a2
  · rw [World.cell?_of_block e]; exact a3
  · rw [World.cell?_of_block e]; exact a4
theorem Cur.below {B g len cap b off : Nat} {a : Option Addr} {z : Nat → Int} {w w' : World} (hc : Cur B w g a len cap b off z) (hb : Below w.heap.size w w') : Cur B w' g a len cap b off z :=
  hc.kept (grown_of hb none) (fun r e => by cases e) (hb.block _ hc.lt)
set_option maxHeartbeats 8000000 in
set_option maxRecDepth 100000 in
theorem drawn_any {T B g len cap b off mg mo mcap : Nat} {a ma : Option Addr} {z : Nat → Int} (m : List PairL) (hG : Acts.Good T m) (hT : T ≤ 30) (w : World) (hc : Cur B w g a len cap b off z) (hf : PairAt w ma mg mo m) :
    Calls Tryd.prog 45 #[.pointer (some ⟨g, 0, none⟩), .slice ma m.length mcap] w (DCmdX B g len cap b off a z w) := by
  have hlt := hc.lt
  have hml : m.length ≤ 60 := by have := hG.len; omega
  have HNE : Hid (0 < m.length → mg ≠ g) := fun hl => hc.ne_pair hf hl
  obtain ⟨W0, hW0⟩ : ∃ W0, W0 = w.alloc (Obj.cells #[.int .i64 0, .int .i64 0, .int .i64 0, .string ⟨#[]⟩, .string ⟨#[]⟩, .string ⟨#[]⟩] 31) := ⟨_, rfl⟩
  have HC0 : Hid (Cur B W0 g a len cap b off z) := by rw [hW0]; exact hc.alloc _
  have HZ0 : Hid (W0.heap[w.heap.size]? = some (.cells #[.int .i64 0, .int .i64 0, .int .i64 0, .string ⟨#[]⟩, .string ⟨#[]⟩, .string ⟨#[]⟩] 31 (0, 0))) := by show _ = _; rw [hW0]; exact heap_alloc_new w _
  have HG0 : Hid (w.grownBy W0 (some g)) := by rw [hW0]; exact grown_alloc _ _
  have HP : Hid (PairAt w ma mg mo m) := hf
  have HG : Hid (Acts.Good T m) := hG
  have HALL : Hid (∀ W, PairAt W ma mg mo m → Calls Tryd.prog 25 #[.slice ma m.length mcap] W fun e w' => ∃ v L, e = .returned (.tuple #[v, .bool true]) ∧ AllS m L ∧ w'.ownsRow W.heap.size 58 4 v L.length (cellsSpe L) ∧ Below W.heap.size W w') := fun W h => specAll_is m (by omega) (by omega) hG.asc hG.enc W h
  clear hc hf hG
  go_enter Tryd.func45, Tryd.ntmps45
  go_wp2_with fail
  rw [← hW0]
  clear hW0
  refine (cmd_any W0 HC0.out).mono ?_
  rintro e w1 ⟨c, rfl, hcd, hc1, hg1⟩
  have HD : Hid (CmdD c) := hcd
  unfold cmdV
  have hz1 := grown_keep HZ0.out hg1 (by omega)
  have hzl : w.heap.size < w1.heap.size := (Array.getElem?_eq_some_iff.1 hz1).1
  obtain ⟨W2, hW2⟩ : ∃ W2, W2 = w1.alloc (Obj.cells #[.int .i64 c.op, .int .i64 c.ses, .int .i64 c.seq, .string c.key, .string c.val, .string c.old] 31) := ⟨_, rfl⟩
  obtain ⟨xb, hxb⟩ : ∃ xb, xb = w1.heap.size := ⟨_, rfl⟩
  have HX2 : Hid (DX B g len cap b off a z w xb #[.int .i64 c.op, .int .i64 c.ses, .int .i64 c.seq, .string c.key, .string c.val, .string c.old] W2) := by
    refine ⟨?_, ?_, ?_, ?_, hlt, by omega⟩
    · rw [hW2]; exact hc1.alloc _
    · rw [hW2, hxb]; exact heap_alloc_new w1 _
    · rw [hW2, Below.heap_alloc _ _ _ hzl]; exact hz1
    · rw [hW2]; exact (HG0.out.trans hg1).trans (grown_alloc _ _)
  have HP2 : Hid (PairAt W2 ma mg mo m) := pair_grown HP.out HX2.out.gr HNE.out
  clear hc1 hg1 hz1 HZ0 HG0 HC0 hcd
  go_wp2_with fail
  rw [← hW2, ← hxb]
  clear hW2 hxb
  refine Calls.mono (HALL.out W2 HP2.out) ?_
  rintro e w3 ⟨v3, L, rfl, hall, hown3, hb3⟩
  have HA : Hid (AllS m L) := hall
  obtain ⟨la, lg, lc, rfl, hat⟩ := cellsSpe_slice hown3
  have HL3 : Hid (SpeAt w3 la lg 0 L) := hat
  have HX3 : Hid (DX B g len cap b off a z w xb #[.int .i64 c.op, .int .i64 c.ses, .int .i64 c.seq, .string c.key, .string c.val, .string c.old] w3) := HX2.out.call (HX2.out.cur.below hb3) (grown_of hb3 _)
  have HLG : Hid (0 < L.length → lg ≠ g) := fun hl => HX3.out.cur.ne_spe hat hl
  have hL3 : L.length ≤ 3 := by have e := hall.len; have := HG.out.few; omega
  clear hb3 hown3 hall hat HX2 HP2 HALL HP HNE
  obtain ⟨OP, hOP⟩ : ∃ OP, OP = c.op := ⟨_, rfl⟩
  have HOP : Hid (OP = c.op) := hOP
  rw [← hOP] at HX3
  clear hOP
  have x0 := cell_of_row _ _ 0 _ _ _ HX3.out.x
  simp at x0
  by_cases h1 : OP = 1
  · have hb1 : (OP == (1 : Int)) = true := by simpa using h1
    have hup := HX3.out.up
    go_wp2_with (first | (refine wpList_loadA Tryd.isAgg31' Tryd.sizeOf31' rfl _ rfl xb #[.int .i64 OP, .int .i64 c.ses, .int .i64 c.seq, .string c.key, .string c.val, .string c.old] 31 rfl HX3.out.x rfl ?_) | (refine wpList_storeA Tryd.sizeOf31' rfl _ _ rfl w.heap.size #[.int .i64 OP, .int .i64 c.ses, .int .i64 c.seq, .string c.key, .string c.val, .string c.old] #[.int .i64 0, .int .i64 0, .int .i64 0, .string ⟨#[]⟩, .string ⟨#[]⟩, .string ⟨#[]⟩] 31 rfl rfl HX3.out.zz rfl rfl (six_one _ _ _ _ _ _) ?_) | fail)
    obtain ⟨r1, r2⟩ := HX3.out.done #[.int .i64 OP, .int .i64 c.ses, .int .i64 c.seq, .string c.key, .string c.val, .string c.old]
    exact bodyPost_ret (result45 HX3.out.zz rfl rfl) rfl ⟨⟨OP, c.ses, c.seq, c.key, c.val, c.old⟩, rfl, HD.out.as HOP.out, r1, r2⟩
  · have hb1 : (OP == (1 : Int)) = false := by simpa using h1
    by_cases h2 : L.length = 0
    · have hb2 : ((L.length : Int) == 0) = true := by simpa using h2
      have hup := HX3.out.up
      go_wp2_with (first | (refine wpList_loadA Tryd.isAgg31' Tryd.sizeOf31' rfl _ rfl xb #[.int .i64 OP, .int .i64 c.ses, .int .i64 c.seq, .string c.key, .string c.val, .string c.old] 31 rfl HX3.out.x rfl ?_) | (refine wpList_storeA Tryd.sizeOf31' rfl _ _ rfl w.heap.size #[.int .i64 OP, .int .i64 c.ses, .int .i64 c.seq, .string c.key, .string c.val, .string c.old] #[.int .i64 0, .int .i64 0, .int .i64 0, .string ⟨#[]⟩, .string ⟨#[]⟩, .string ⟨#[]⟩] 31 rfl rfl HX3.out.zz rfl rfl (six_one _ _ _ _ _ _) ?_) | fail)
      obtain ⟨r1, r2⟩ := HX3.out.done #[.int .i64 OP, .int .i64 c.ses, .int .i64 c.seq, .string c.key, .string c.val, .string c.old]
      exact bodyPost_ret (result45 HX3.out.zz rfl rfl) rfl ⟨⟨OP, c.ses, c.seq, c.key, c.val, c.old⟩, rfl, HD.out.as HOP.out, r1, r2⟩
    · have hb2 : ((L.length : Int) == 0) = false := by simpa using h2
      go_wp2_with fail
      refine (once_any 6 (by omega) w3 HX3.out.cur).mono ?_
      rintro e w4 ⟨r, rfl, hc4, hg4⟩
      have HX4 : Hid (DX B g len cap b off a z w xb #[.int .i64 OP, .int .i64 c.ses, .int .i64 c.seq, .string c.key, .string c.val, .string c.old] w4) := HX3.out.call hc4 hg4
      have HL4 : Hid (SpeAt w4 la lg 0 L) := spe_grown HL3.out hg4 HLG.out
      clear hc4 hg4 HX3 HL3 x0
      cases r with
      | true =>
        have hup := HX4.out.up
        go_wp2_with (first | (refine wpList_loadA Tryd.isAgg31' Tryd.sizeOf31' rfl _ rfl xb #[.int .i64 OP, .int .i64 c.ses, .int .i64 c.seq, .string c.key, .string c.val, .string c.old] 31 rfl HX4.out.x rfl ?_) | (refine wpList_storeA Tryd.sizeOf31' rfl _ _ rfl w.heap.size #[.int .i64 OP, .int .i64 c.ses, .int .i64 c.seq, .string c.key, .string c.val, .string c.old] #[.int .i64 0, .int .i64 0, .int .i64 0, .string ⟨#[]⟩, .string ⟨#[]⟩, .string ⟨#[]⟩] 31 rfl rfl HX4.out.zz rfl rfl (six_one _ _ _ _ _ _) ?_) | fail)
        obtain ⟨r1, r2⟩ := HX4.out.done #[.int .i64 OP, .int .i64 c.ses, .int .i64 c.seq, .string c.key, .string c.val, .string c.old]
        exact bodyPost_ret (result45 HX4.out.zz rfl rfl) rfl ⟨⟨OP, c.ses, c.seq, c.key, c.val, c.old⟩, rfl, HD.out.as HOP.out, r1, r2⟩
      | false =>
        go_wp2_with fail
        refine (below_any (L.length : Int) (by omega) w4 HX4.out.cur).mono ?_
        rintro e w5 ⟨x, rfl, hx, hc5, hg5⟩
        obtain ⟨hx0, _, hx2⟩ := hx
        have hx3 := hx2 (by omega)
        clear hx2
        obtain ⟨j, rfl⟩ : ∃ j : Nat, x = (j : Int) := ⟨x.toNat, by omega⟩
        have hj : j < L.length := by omega
        have HX5 : Hid (DX B g len cap b off a z w xb #[.int .i64 OP, .int .i64 c.ses, .int .i64 c.seq, .string c.key, .string c.val, .string c.old] w5) := HX4.out.call hc5 hg5
        have HL5 : Hid (SpeAt w5 la lg 0 L) := spe_grown HL4.out hg5 HLG.out
        clear hc5 hg5 HX4 HL4
        obtain ⟨s, hs⟩ : ∃ s, s = L[j] := ⟨_, rfl⟩
        have hsm := Acts.mem_sess (by omega : T ≤ 90) HG.out.enc ((HA.out.mem _).1 (List.getElem_mem hj))
        obtain ⟨c0, c1, c2, c3⟩ := HL5.out.2 j hj
        have ea := HL5.out.1 (by omega)
        subst ea
        rw [← hs] at c0 c1 c2 c3 hsm
        rw [Nat.zero_add] at c0 c1 c2 c3
        have HSM : Hid (s.id ≤ T ∧ s.seq ≤ T + 3 ∧ s.at_ ≤ 99 ∧ s.rep.size ≤ 9) := hsm.2
        obtain ⟨W6, hW6⟩ : ∃ W6, W6 = w5.alloc (Obj.cells #[.int .i64 (s.id : Int), .int .i64 (s.seq : Int), .int .i64 (s.at_ : Int), .string s.rep] 58) := ⟨_, rfl⟩
        obtain ⟨sb, hsb⟩ : ∃ sb, sb = w5.heap.size := ⟨_, rfl⟩
        have hxl : xb < w5.heap.size := (Array.getElem?_eq_some_iff.1 HX5.out.x).1
        have HX6 : Hid (DX B g len cap b off a z w xb #[.int .i64 OP, .int .i64 c.ses, .int .i64 c.seq, .string c.key, .string c.val, .string c.old] W6) := by rw [hW6]; exact HX5.out.call (HX5.out.cur.alloc _) (grown_alloc _ _)
        have HY6 : Hid (W6.heap[sb]? = some (.cells #[.int .i64 (s.id : Int), .int .i64 (s.seq : Int), .int .i64 (s.at_ : Int), .string s.rep] 58 (0, 0))) := by rw [hW6, hsb]; exact heap_alloc_new w5 _
        have hsx : xb < sb := by omega
        obtain ⟨ID, hID⟩ : ∃ ID, ID = s.id := ⟨_, rfl⟩
        obtain ⟨Q, hQ⟩ : ∃ Q, Q = s.seq := ⟨_, rfl⟩
        have HIQ : Hid (ID ≤ 30 ∧ Q ≤ 33) := by show _ ∧ _; omega
        have hQ33 : (Q : Int) ≤ 33 := by have := HIQ.out; omega
        rw [← hID, ← hQ] at hW6 HY6
        rw [← hID] at c0
        rw [← hQ] at c1
        clear hsm HX5 HL5 HA HG HSM hs hID hQ
        go_upto_region 6 with fail
        rw [← hW6, ← hsb]
        clear hW6 hsb hxl c0 c1 c2 c3
        have x1 := cell_of_row _ _ 1 _ _ _ HX6.out.x
        have x2 := cell_of_row _ _ 2 _ _ _ HX6.out.x
        have xf1 := frozen_of_row _ _ 1 _ _ HX6.out.x
        have xf2 := frozen_of_row _ _ 2 _ _ HX6.out.x
        have y0 := cell_of_row _ _ 0 _ _ _ HY6.out
        have y1 := cell_of_row _ _ 1 _ _ _ HY6.out
        simp at x1 x2 y0 y1
        have HX7 : Hid (DX B g len cap b off a z w xb #[.int .i64 OP, .int .i64 (ID : Int), .int .i64 ((Q : Int) + 1), .string c.key, .string c.val, .string c.old] ((W6.setCell ⟨xb, 1, none⟩ (.int .i64 (ID : Int))).setCell ⟨xb, 2, none⟩ (.int .i64 ((Q : Int) + 1)))) := (HX6.out.set 1 _).set 2 _
        have HY7 : Hid (((W6.setCell ⟨xb, 1, none⟩ (.int .i64 (ID : Int))).setCell ⟨xb, 2, none⟩ (.int .i64 ((Q : Int) + 1))).heap[sb]? = some (.cells #[.int .i64 (ID : Int), .int .i64 (Q : Int), .int .i64 (s.at_ : Int), .string s.rep] 58 (0, 0))) := set_far (set_far HY6.out (by omega) 1 _) (by omega) 2 _
        go_wp2_with fail
        refine (below_any 8 (by omega) _ HX7.out.cur).mono ?_
        rintro e w8 ⟨y, rfl, hy, hc8, hg8⟩
        obtain ⟨hy0, _, hy2⟩ := hy
        have hy3 := hy2 (by omega)
        clear hy2
        have HX8 : Hid (DX B g len cap b off a z w xb #[.int .i64 OP, .int .i64 (ID : Int), .int .i64 ((Q : Int) + 1), .string c.key, .string c.val, .string c.old] w8) := HX7.out.call hc8 hg8
        have hgs : sb ≠ g := by have := HX6.out.lt; have := HX6.out.up; omega
        have HY8 : Hid (w8.heap[sb]? = some (.cells #[.int .i64 (ID : Int), .int .i64 (Q : Int), .int .i64 (s.at_ : Int), .string s.rep] 58 (0, 0))) := grown_keep HY7.out hg8 hgs
        clear hc8 hg8 HX7 HY7 HX6 HY6 x1 x2 xf1 xf2 y0 y1
        have x2 := cell_of_row _ _ 2 _ _ _ HX8.out.x
        have xf2 := frozen_of_row _ _ 2 _ _ HX8.out.x
        have y1 := cell_of_row _ _ 1 _ _ _ HY8.out
        simp at x2 y1
        by_cases k0 : y = 0
        · have b0 : (y == (0 : Int)) = true := by simpa using k0
          have HX9 : Hid (DX B g len cap b off a z w xb #[.int .i64 OP, .int .i64 (ID : Int), .int .i64 (Q : Int), .string c.key, .string c.val, .string c.old] (w8.setCell ⟨xb, 2, none⟩ (.int .i64 (Q : Int)))) := HX8.out.set 2 _
          have hup := HX9.out.up
          go_wp2_with (first | (refine wpList_loadA Tryd.isAgg31' Tryd.sizeOf31' rfl _ rfl xb #[.int .i64 OP, .int .i64 (ID : Int), .int .i64 (Q : Int), .string c.key, .string c.val, .string c.old] 31 rfl HX9.out.x rfl ?_) | (refine wpList_storeA Tryd.sizeOf31' rfl _ _ rfl w.heap.size #[.int .i64 OP, .int .i64 (ID : Int), .int .i64 (Q : Int), .string c.key, .string c.val, .string c.old] #[.int .i64 0, .int .i64 0, .int .i64 0, .string ⟨#[]⟩, .string ⟨#[]⟩, .string ⟨#[]⟩] 31 rfl rfl HX9.out.zz rfl rfl (six_one _ _ _ _ _ _) ?_) | fail)
          obtain ⟨r1, r2⟩ := HX9.out.done #[.int .i64 OP, .int .i64 (ID : Int), .int .i64 (Q : Int), .string c.key, .string c.val, .string c.old]
          exact bodyPost_ret (result45 HX9.out.zz rfl rfl) rfl ⟨⟨OP, (ID : Int), (Q : Int), c.key, c.val, c.old⟩, rfl, HD.out.of HOP.out h1 (by have := HIQ.out; omega) (by have := HIQ.out; omega), r1, r2⟩
        · have b0 : (y == (0 : Int)) = false := by simpa using k0
          by_cases k1 : y = 1
          · have b1 : (y == (1 : Int)) = true := by simpa using k1
            have HX9 : Hid (DX B g len cap b off a z w xb #[.int .i64 OP, .int .i64 (ID : Int), .int .i64 ((Q : Int) + 2), .string c.key, .string c.val, .string c.old] (w8.setCell ⟨xb, 2, none⟩ (.int .i64 ((Q : Int) + 2)))) := HX8.out.set 2 _
            have hup := HX9.out.up
            go_wp2_with (first | (refine wpList_loadA Tryd.isAgg31' Tryd.sizeOf31' rfl _ rfl xb #[.int .i64 OP, .int .i64 (ID : Int), .int .i64 ((Q : Int) + 2), .string c.key, .string c.val, .string c.old] 31 rfl HX9.out.x rfl ?_) | (refine wpList_storeA Tryd.sizeOf31' rfl _ _ rfl w.heap.size #[.int .i64 OP, .int .i64 (ID : Int), .int .i64 ((Q : Int) + 2), .string c.key, .string c.val, .string c.old] #[.int .i64 0, .int .i64 0, .int .i64 0, .string ⟨#[]⟩, .string ⟨#[]⟩, .string ⟨#[]⟩] 31 rfl rfl HX9.out.zz rfl rfl (six_one _ _ _ _ _ _) ?_) | fail)
            obtain ⟨r1, r2⟩ := HX9.out.done #[.int .i64 OP, .int .i64 (ID : Int), .int .i64 ((Q : Int) + 2), .string c.key, .string c.val, .string c.old]
            exact bodyPost_ret (result45 HX9.out.zz rfl rfl) rfl ⟨⟨OP, (ID : Int), (Q : Int) + 2, c.key, c.val, c.old⟩, rfl, HD.out.of HOP.out h1 (by have := HIQ.out; omega) (by have := HIQ.out; omega), r1, r2⟩
          · have b1 : (y == (1 : Int)) = false := by simpa using k1
            by_cases k2 : y = 2 ∧ 0 < Q
            · obtain ⟨k2, kq⟩ := k2
              have b2 : (y == (2 : Int)) = true := by simpa using k2
              have q0 : (0 : Int) < (Q : Int) := by omega
              have HX9 : Hid (DX B g len cap b off a z w xb #[.int .i64 OP, .int .i64 (ID : Int), .int .i64 ((Q : Int) - 1), .string c.key, .string c.val, .string c.old] (w8.setCell ⟨xb, 2, none⟩ (.int .i64 ((Q : Int) - 1)))) := HX8.out.set 2 _
              have hup := HX9.out.up
              go_wp2_with (first | (refine wpList_loadA Tryd.isAgg31' Tryd.sizeOf31' rfl _ rfl xb #[.int .i64 OP, .int .i64 (ID : Int), .int .i64 ((Q : Int) - 1), .string c.key, .string c.val, .string c.old] 31 rfl HX9.out.x rfl ?_) | (refine wpList_storeA Tryd.sizeOf31' rfl _ _ rfl w.heap.size #[.int .i64 OP, .int .i64 (ID : Int), .int .i64 ((Q : Int) - 1), .string c.key, .string c.val, .string c.old] #[.int .i64 0, .int .i64 0, .int .i64 0, .string ⟨#[]⟩, .string ⟨#[]⟩, .string ⟨#[]⟩] 31 rfl rfl HX9.out.zz rfl rfl (six_one _ _ _ _ _ _) ?_) | fail)
              obtain ⟨r1, r2⟩ := HX9.out.done #[.int .i64 OP, .int .i64 (ID : Int), .int .i64 ((Q : Int) - 1), .string c.key, .string c.val, .string c.old]
              exact bodyPost_ret (result45 HX9.out.zz rfl rfl) rfl ⟨⟨OP, (ID : Int), (Q : Int) - 1, c.key, c.val, c.old⟩, rfl, HD.out.of HOP.out h1 (by have := HIQ.out; omega) (by have := HIQ.out; omega), r1, r2⟩
            · by_cases k3 : y = 2
              · have b2 : (y == (2 : Int)) = true := by simpa using k3
                have q0 : ¬ (0 : Int) < (Q : Int) := by omega
                have hup := HX8.out.up
                go_wp2_with (first | (refine wpList_loadA Tryd.isAgg31' Tryd.sizeOf31' rfl _ rfl xb #[.int .i64 OP, .int .i64 (ID : Int), .int .i64 ((Q : Int) + 1), .string c.key, .string c.val, .string c.old] 31 rfl HX8.out.x rfl ?_) | (refine wpList_storeA Tryd.sizeOf31' rfl _ _ rfl w.heap.size #[.int .i64 OP, .int .i64 (ID : Int), .int .i64 ((Q : Int) + 1), .string c.key, .string c.val, .string c.old] #[.int .i64 0, .int .i64 0, .int .i64 0, .string ⟨#[]⟩, .string ⟨#[]⟩, .string ⟨#[]⟩] 31 rfl rfl HX8.out.zz rfl rfl (six_one _ _ _ _ _ _) ?_) | fail)
                obtain ⟨r1, r2⟩ := HX8.out.done #[.int .i64 OP, .int .i64 (ID : Int), .int .i64 ((Q : Int) + 1), .string c.key, .string c.val, .string c.old]
                exact bodyPost_ret (result45 HX8.out.zz rfl rfl) rfl ⟨⟨OP, (ID : Int), (Q : Int) + 1, c.key, c.val, c.old⟩, rfl, HD.out.of HOP.out h1 (by have := HIQ.out; omega) (by have := HIQ.out; omega), r1, r2⟩
              · have b2 : (y == (2 : Int)) = false := by simpa using k3
                have hup := HX8.out.up
                go_wp2_with (first | (refine wpList_loadA Tryd.isAgg31' Tryd.sizeOf31' rfl _ rfl xb #[.int .i64 OP, .int .i64 (ID : Int), .int .i64 ((Q : Int) + 1), .string c.key, .string c.val, .string c.old] 31 rfl HX8.out.x rfl ?_) | (refine wpList_storeA Tryd.sizeOf31' rfl _ _ rfl w.heap.size #[.int .i64 OP, .int .i64 (ID : Int), .int .i64 ((Q : Int) + 1), .string c.key, .string c.val, .string c.old] #[.int .i64 0, .int .i64 0, .int .i64 0, .string ⟨#[]⟩, .string ⟨#[]⟩, .string ⟨#[]⟩] 31 rfl rfl HX8.out.zz rfl rfl (six_one _ _ _ _ _ _) ?_) | fail)
                obtain ⟨r1, r2⟩ := HX8.out.done #[.int .i64 OP, .int .i64 (ID : Int), .int .i64 ((Q : Int) + 1), .string c.key, .string c.val, .string c.old]
                exact bodyPost_ret (result45 HX8.out.zz rfl rfl) rfl ⟨⟨OP, (ID : Int), (Q : Int) + 1, c.key, c.val, c.old⟩, rfl, HD.out.of HOP.out h1 (by have := HIQ.out; omega) (by have := HIQ.out; omega), r1, r2⟩
end Go.Proofs.YtpedpdgkbmpfjaaDoor
