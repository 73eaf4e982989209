/- The specification's l15Lived, walked: a state that drawn commands leave. The specification's DrawTalk, walked: a state, an index and a command. -/
import Derived.Test.YtpedpdgkbmpfjaaDoorSpecDrawn
import Derived.Test.YtpedpdgkbmpfjaaDoorSpecAct
namespace Go.Proofs.YtpedpdgkbmpfjaaDoor
open Go.RowKit
open Cmds (okC)
open Acts (sess)
set_option linter.unusedVariables false
set_option linter.unusedSimpArgs false

/-- A state of k commands, as a Go value in a world. -/
structure StateV (k : Nat) (w : World) (v : Value) (m : List PairL) : Prop where
  good : Acts.Good k m
  at_ : ∃ a g off cap, v = .slice a m.length cap ∧ PairAt w a g off m ∧ (a = none → cap = 0)
structure LivS (B g len cap b off : Nat) (a : Option Addr) (z : Nat → Int) (w0 : World) (k : Nat) (v : Value) (w : World) : Prop where
  st : ∃ m, StateV k w v m
  cur : Cur B w g a len cap b off z
  gr : w0.grownBy w (some g)
def LivedPost (B g len cap b off n : Nat) (a : Option Addr) (z : Nat → Int) (w : World) (e : Ending) (w' : World) : Prop := ∃ v, e = .returned v ∧ LivS B g len cap b off a z w n v w'
theorem StateV.nil {w : World} {v : Value} {B : Nat} (h : v = .slice (some ⟨B, 0, none⟩) 0 0) : StateV 0 w v [] := ⟨Acts.Good.nil, _, B, 0, 0, h, ⟨fun q => absurd q (by simp), fun j hj => absurd hj (by simp)⟩, fun e => by cases e⟩
theorem LivS.step {B g len cap b off k : Nat} {a : Option Addr} {z : Nat → Int} {w0 w2 w' : World} {m : List PairL} {c : CmdL} {r : ByteArray} {e : Ending} (hG : Acts.Good k m) (hk : k ≤ 40) (hx : CmdX c) (hc : Cur B w2 g a len cap b off z) (hg : w0.grownBy w2 (some g)) (h : OutT (Acts.act m (k + 1) c).1 r w2 e w') : ∃ v, e = .returned (.tuple #[v, .string r, .bool true]) ∧ LivS B g len cap b off a z w0 (k + 1) v w' := by
  obtain ⟨a3, g3, o3, c3, rfl, hp, hb, hn⟩ := h
  exact ⟨_, rfl, ⟨_, Acts.act_good hG (by omega) (by omega) hx.ok hx.val, a3, g3, o3, c3, rfl, hp, hn⟩, hc.below hb, grown_below hg hb⟩
set_option maxHeartbeats 4000000 in
set_option maxRecDepth 100000 in
theorem lived_any {B g len cap b off n : Nat} {a : Option Addr} {z : Nat → Int} (hn : n ≤ 20) (w : World) (hc : Cur B w g a len cap b off z) :
    Calls Tryd.prog 42 #[.pointer (some ⟨g, 0, none⟩), .int .i64 (n : Int)] w (LivedPost B g len cap b off n a z w) := by
  have hlt := hc.lt
  have HC : Hid (Cur B w g a len cap b off z) := hc
  clear hc
  go_enter Tryd.func42, Tryd.ntmps42
  go_wp2
  go_loopw [6, 5] (fun i v wr => ∃ (k : Nat) (V : Value), k ≤ n ∧ i = .int .i64 (k : Int) ∧ v = V ∧ LivS B g len cap b off a z w k V wr)
    (fun i _ _ => n - (intOf i).toNat)
  case atStart => exact ⟨0, _, Nat.zero_le _, rfl, rfl, ⟨⟨[], StateV.nil rfl⟩, HC.out.alloc _, grown_alloc _ _⟩⟩
  case round =>
    obtain ⟨k, V, hk, rfl, rfl, hst⟩ := hrel
    obtain ⟨⟨m, hG, ma, mg, mo, mc, rfl, hp, hnil⟩, hcur, hgr⟩ := hst
    have HG : Hid (Acts.Good k m) := hG
    have HP : Hid (PairAt wr ma mg mo m) := hp
    have HN : Hid (ma = none → mc = 0) := hnil
    have HCR : Hid (Cur B wr g a len cap b off z) := hcur
    have HGR : Hid (w.grownBy wr (some g)) := hgr
    have HNE : Hid (0 < m.length → mg ≠ g) := fun hl => hcur.ne_pair hp hl
    clear hG hp hnil hcur hgr
    by_cases hlt' : k < n
    · have hkk : (k : Int) < (n : Int) := by omega
      have hk9 : (k : Int) + 1 ≤ 100 := by omega
      go_wp2_with fail
      refine (drawn_any m HG.out (by omega) wr HCR.out HP.out).mono ?_
      rintro e w1 ⟨c, rfl, hx, hc1, hg1⟩
      have HX : Hid (CmdX c) := hx
      obtain ⟨W2, hW2⟩ : ∃ W2, W2 = w1.alloc (Obj.cells #[.int .i64 c.op, .int .i64 c.ses, .int .i64 c.seq, .string c.key, .string c.val, .string c.old] 31) := ⟨_, rfl⟩
      have HC2 : Hid (Cur B W2 g a len cap b off z) := by rw [hW2]; exact hc1.alloc _
      have HG2 : Hid (w.grownBy W2 (some g)) := by rw [hW2]; exact (HGR.out.trans hg1).trans (grown_alloc _ _)
      have hgm : wr.grownBy W2 (some g) := by rw [hW2]; exact hg1.trans (grown_alloc _ _)
      have HP2 : Hid (PairAt W2 ma mg mo m) := pair_grown HP.out hgm HNE.out
      have HACT : Hid (Calls Tryd.prog 8 #[.slice ma m.length mc, .int .i64 ((k : Int) + 1), .agg #[.int .i64 c.op, .int .i64 c.ses, .int .i64 c.seq, .string c.key, .string c.val, .string c.old]] W2 (OutT (Acts.act m (k + 1) c).1 (Acts.act m (k + 1) c).2 W2)) := by
        have q := specAct_is (i := k + 1) (cap := mc) m c HG.out (by omega) (by omega) HX.out.ok HX.out.val ⟨by have := HX.out.key; omega, by have := HX.out.old; omega⟩ HN.out W2 HP2.out
        have e : ((k + 1 : Nat) : Int) = (k : Int) + 1 := by omega
        rw [e] at q
        exact q
      unfold cmdV
      clear hx hc1 hg1 hgm HP HCR HGR
      have HXX : Hid (W2.heap[w1.heap.size]? = some (.cells #[.int .i64 c.op, .int .i64 c.ses, .int .i64 c.seq, .string c.key, .string c.val, .string c.old] 31 (0, 0))) := by rw [hW2]; exact heap_alloc_new w1 _
      go_upto_region 6 with fail
      rw [← hW2]
      clear hW2
      have x0 := cell_of_row _ _ 0 _ _ _ HXX.out
      have x1 := cell_of_row _ _ 1 _ _ _ HXX.out
      have x2 := cell_of_row _ _ 2 _ _ _ HXX.out
      have x3 := cell_of_row _ _ 3 _ _ _ HXX.out
      have x4 := cell_of_row _ _ 4 _ _ _ HXX.out
      have x5 := cell_of_row _ _ 5 _ _ _ HXX.out
      go_wp2_with fail
      clear x0 x1 x2 x3 x4 x5 HXX
      refine Calls.mono HACT.out ?_
      intro e w3 h3
      obtain ⟨v3, rfl, hl3⟩ := LivS.step HG.out (by omega) HX.out HC2.out HG2.out h3
      have HL3 : Hid (LivS B g len cap b off a z w (k + 1) v3 w3) := hl3
      clear h3 hl3
      go_wp2
      go_roundw
      case rel => exact ⟨k + 1, v3, by omega, by go_num, rfl, HL3.out⟩
      case measure => simp [intOf]; omega
    · have hkn : k = n := by omega
      subst hkn
      have hkk : ¬ (k : Int) < (k : Int) := by omega
      go_wp2
      refine bodyPost_ret (v := .slice ma m.length mc) (by simp [results, Tryd.results42, go_sem]) rfl ⟨_, rfl, ⟨m, HG.out, ma, mg, mo, mc, rfl, HP.out, HN.out⟩, HCR.out, HGR.out⟩
end Go.Proofs.YtpedpdgkbmpfjaaDoor
namespace Go.Proofs.YtpedpdgkbmpfjaaDoor
open Go.RowKit
open Cmds (okC)
open Acts (sess)
set_option linter.unusedVariables false
set_option linter.unusedSimpArgs false

theorem result16 {w : World} {g : Nat} {A C : Array Value} (hg : w.heap[g]? = some (.cells C 31 (0, 0))) (hs : A.size = 6) {tmps : Array Value} (ht : tmps.getD 4 undef = .pointer (some ⟨g, 0, none⟩)) {x y : Value} (hx : tmps.getD 2 undef = x) (hy : tmps.getD 3 undef = y) : (results Tryd.f16 tmps).run Tryd.prog (w.setRow g A) = .ok (.tuple #[x, y, .agg A]) (w.setRow g A) := by
  have h := run_loadVar_agg (P := Tryd.prog) Tryd.isAgg31' Tryd.sizeOf31' (row_size (A := A) hg) hs
  have ht' : tmps[4]?.getD undef = .pointer (some ⟨g, 0, none⟩) := by simpa using ht
  have hx' : tmps[2]?.getD undef = x := by simpa using hx
  have hy' : tmps[3]?.getD undef = y := by simpa using hy
  simp [results, Tryd.results16, ht', hx', hy', asAddr, h]
theorem zero_no {W : World} {k j : Nat} {s : ByteArray} (h : W.heap[k]? = some (.cells #[.int .i64 0, .int .i64 0, .int .i64 0, .string ⟨#[]⟩, .string ⟨#[]⟩, .string ⟨#[]⟩] 31 (0, 0))) (hc : W.cell? ⟨k, j, none⟩ = some (.string s)) (hs : 1 ≤ s.size) : False := by
  rcases j with _ | _ | _ | _ | _ | _ | j
  · have := cell_of_row _ _ 0 _ _ _ h; simp at this; rw [this] at hc; cases hc
  · have := cell_of_row _ _ 1 _ _ _ h; simp at this; rw [this] at hc; cases hc
  · have := cell_of_row _ _ 2 _ _ _ h; simp at this; rw [this] at hc; cases hc
  · have := cell_of_row _ _ 3 _ _ _ h; simp at this; rw [this] at hc; cases hc; exact absurd hs (by decide)
  · have := cell_of_row _ _ 4 _ _ _ h; simp at this; rw [this] at hc; cases hc; exact absurd hs (by decide)
  · have := cell_of_row _ _ 5 _ _ _ h; simp at this; rw [this] at hc; cases hc; exact absurd hs (by decide)
  · simp [World.cell?, h] at hc
theorem pair_setRow {w : World} {a : Option Addr} {g off B : Nat} {l : List PairL} (h : PairAt w a g off l) (hn : 0 < l.length → g ≠ B) (A : Array Value) : PairAt (w.setRow B A) a g off l := by
  refine ⟨h.1, fun q hq => ?_⟩
  have e := setRow_other w B g A (hn (by omega))
  rw [World.cell?_of_block (w := w) (a := ⟨g, off + q * 2, none⟩) e, World.cell?_of_block (w := w) (a := ⟨g, off + q * 2 + 1, none⟩) e]
  exact h.2 q hq
/-- What is drawn: a state of some commands, an index, and a command for it. -/
structure TalkS (w w' : World) (T i : Nat) (m : List PairL) (c : CmdL) (v : Value) : Prop where
  hT : T ≤ 17
  hi : 40 ≤ i ∧ i ≤ 48
  cmd : CmdX c
  st : StateV T w' v m
  bel : Below w.heap.size w w'
def TalkPost (w : World) (e : Ending) (w' : World) : Prop := ∃ (T i : Nat) (m : List PairL) (c : CmdL) (v : Value), e = .returned (.tuple #[v, .int .i64 (i : Int), cmdV c]) ∧ TalkS w w' T i m c v
set_option maxHeartbeats 4000000 in
set_option maxRecDepth 100000 in
theorem talk_any {len cap b off : Nat} {a : Option Addr} {z : Nat → Int} (w : World) (hc : Code w.heap.size w a len b off z) :
    Calls Tryd.prog 16 #[.slice a len cap] w (TalkPost w) := by
  have hlen := hc.2.1
  obtain ⟨W0, hW0⟩ : ∃ W0, W0 = w.alloc (Obj.cells #[.int .i64 0, .int .i64 0, .int .i64 0, .string ⟨#[]⟩, .string ⟨#[]⟩, .string ⟨#[]⟩] 31) := ⟨_, rfl⟩
  have HB0 : Hid (Below w.heap.size w W0) := by rw [hW0]; exact (Below.refl _ _).alloc (Nat.le_refl _) _
  have HZ0 : Hid (W0.heap[w.heap.size]? = some (.cells #[.int .i64 0, .int .i64 0, .int .i64 0, .string ⟨#[]⟩, .string ⟨#[]⟩, .string ⟨#[]⟩] 31 (0, 0))) := by rw [hW0]; exact heap_alloc_new w _
  have HC0 : Hid (Code w.heap.size W0 a len b off z) := hc.below HB0.out
  have hz0 : w.heap.size < W0.heap.size := (Array.getElem?_eq_some_iff.1 HZ0.out).1
  clear hc
  go_enter Tryd.func16, Tryd.ntmps16
  go_wp2_with fail
  rw [← hW0]
  clear hW0
  refine (new_any W0 (Nat.le_of_lt hz0) HC0.out).mono ?_
  rintro e w1 ⟨rfl, hc1, hb1⟩
  obtain ⟨g, hg⟩ : ∃ g, g = W0.heap.size := ⟨_, rfl⟩
  rw [← hg] at hc1 hz0
  rw [← hg]
  have HC1 : Hid (Cur w.heap.size w1 g a len cap b off z) := hc1
  have HB1 : Hid (Below w.heap.size w w1) := HB0.out.trans (hb1.mono HB0.out.size)
  have HZ1 : Hid (w1.heap[w.heap.size]? = some (.cells #[.int .i64 0, .int .i64 0, .int .i64 0, .string ⟨#[]⟩, .string ⟨#[]⟩, .string ⟨#[]⟩] 31 (0, 0))) := (hb1.block _ (Array.getElem?_eq_some_iff.1 HZ0.out).1).trans HZ0.out
  clear hc1 hb1 hg HZ0 HC0 HB0
  go_wp2_with fail
  refine (size_any (by omega) w1).mono ?_
  rintro e w2 ⟨N, rfl, hN1, hN2, hw2⟩
  subst hw2
  go_wp2_with fail
  refine (below_any (N : Int) (by omega) w2 HC1.out).mono ?_
  rintro e w3 ⟨x, rfl, hx, hc3, hg3⟩
  obtain ⟨hx0, _, hx2⟩ := hx
  have hx3 := hx2 (by omega)
  clear hx2
  obtain ⟨n, rfl⟩ : ∃ n : Nat, x = (n : Int) := ⟨x.toNat, by omega⟩
  have HC3 : Hid (Cur w.heap.size w3 g a len cap b off z) := hc3
  have HG3 : Hid (w2.grownBy w3 (some g)) := hg3
  clear hc3 hg3
  go_wp2_with fail
  refine (lived_any (n := n) (by omega) w3 HC3.out).mono ?_
  rintro e w4 ⟨v4, rfl, ⟨⟨m, hG, ma, mg, mo, mc, rfl, hp, hnil⟩, hcur, hgr⟩⟩
  have HG : Hid (Acts.Good n m) := hG
  have HP : Hid (PairAt w4 ma mg mo m) := hp
  have HN : Hid (ma = none → mc = 0) := hnil
  have HC4 : Hid (Cur w.heap.size w4 g a len cap b off z) := hcur
  have HG4 : Hid (w2.grownBy w4 (some g)) := HG3.out.trans hgr
  have HNE : Hid (0 < m.length → mg ≠ g) := fun hl => hcur.ne_pair hp hl
  clear hG hp hnil hcur hgr HC3 HG3
  go_wp2_with fail
  refine (below_any 9 (by omega) w4 HC4.out).mono ?_
  rintro e w5 ⟨y, rfl, hy, hc5, hg5⟩
  obtain ⟨hy0, _, hy2⟩ := hy
  have hy3 := hy2 (by omega)
  clear hy2
  have HC5 : Hid (Cur w.heap.size w5 g a len cap b off z) := hc5
  have HG5 : Hid (w2.grownBy w5 (some g)) := HG4.out.trans hg5
  have HP5 : Hid (PairAt w5 ma mg mo m) := pair_grown HP.out hg5 HNE.out
  clear hc5 hg5 HP HC4 HG4
  go_wp2_with fail
  refine (drawn_any m HG.out (by omega) w5 HC5.out HP5.out).mono ?_
  rintro e w6 ⟨c, rfl, hcx, hc6, hg6⟩
  have HX : Hid (CmdX c) := hcx
  have HG6 : Hid (w2.grownBy w6 (some g)) := HG5.out.trans hg6
  have HP6 : Hid (PairAt w6 ma mg mo m) := pair_grown HP5.out hg6 HNE.out
  have HZ6 : Hid (w6.heap[w.heap.size]? = some (.cells #[.int .i64 0, .int .i64 0, .int .i64 0, .string ⟨#[]⟩, .string ⟨#[]⟩, .string ⟨#[]⟩] 31 (0, 0))) := grown_keep HZ1.out HG6.out (by omega)
  have HMZ : Hid (0 < m.length → mg ≠ w.heap.size) := fun hl e => by
    subst e
    have q0 := (HP6.out.2 0 hl).1
    have q1 := (HG.out.ok m[0] (List.getElem_mem hl)).1
    exact zero_no HZ6.out q0 q1
  unfold cmdV
  clear hcx hc6 hg6 HP5 HC5 HG5
  go_wp2_with (first | (refine wpList_storeA Tryd.sizeOf31' rfl _ _ rfl w.heap.size #[.int .i64 c.op, .int .i64 c.ses, .int .i64 c.seq, .string c.key, .string c.val, .string c.old] #[.int .i64 0, .int .i64 0, .int .i64 0, .string ⟨#[]⟩, .string ⟨#[]⟩, .string ⟨#[]⟩] 31 rfl rfl HZ6.out rfl rfl (six_one _ _ _ _ _ _) ?_) | fail)
  refine bodyPost_ret (result16 HZ6.out rfl rfl rfl rfl) rfl ⟨n, (40 + y).toNat, m, c, .slice ma m.length mc, ?_, by omega, by omega, HX.out, ⟨HG.out, ma, mg, mo, mc, rfl, pair_setRow HP6.out HMZ.out _, HN.out⟩, ?_⟩
  · have e : (((40 + y).toNat : Nat) : Int) = 40 + y := by omega
    rw [e]
    rfl
  · have b6 : Below w.heap.size w w6 := HB1.out.grown HG6.out HB1.out.size (fun q e => by cases e; omega)
    exact b6.grown (grown_setRow w6 w.heap.size _) b6.size (fun q e => by cases e; exact Nat.le_refl _)
end Go.Proofs.YtpedpdgkbmpfjaaDoor
